/-
  The statements' own same: two slices of numbers, wherever they lie.
-/
import Derived.Test.YtdnhlahecmfhdaaGCBase
import Derived.Deep.QuietTactic
import Derived.BigQuiet
namespace Go.Proofs.Ytdnhlahecmfhdaa
open Go.RowKit

set_option maxHeartbeats 2000000 in
theorem same13_n (va vb : Value) (a b : List Int) (r : Bool) (w : World) (h : RowAt w va (i64s a)) (h' : RowAt w vb (i64s b)) (hr : decide (a = b) = r) : Calls Try.prog 13 #[va, vb] w (AggPost w (.bool r)) := by
  obtain ⟨p, c, rfl, h1, h2, h3⟩ := h
  obtain ⟨p', c', rfl, h1', h2', h3'⟩ := h'
  have hs : (i64s a).length = a.length := by simp
  have hs' : (i64s b).length = b.length := by simp
  rw [hs] at h1 ⊢
  rw [hs'] at h1' ⊢
  unfold maxLen at h2 h2'
  have HR := Lib.hid hr
  clear hr hs hs'
  by_cases hl : a.length = b.length
  · have e0 : ((a.length : Int) != (b.length : Int)) = false := by simp [hl]
    have HL := Lib.hid hl
    clear hl
    by_cases hx0 : a = []
    · have hb0 : b = [] := List.length_eq_zero_iff.1 (by rw [← HL.out, hx0]; rfl)
      subst hx0 hb0
      clear h3 h3' e0
      go_enter Try.func13, Try.ntmps13
      go_wp2
      go_loop [13] (fun i => i = .int .i64 0) (fun _ => 0)
      case atStart => rfl
      case round =>
        subst hrel
        go_wp2
        go_ret
        exact ⟨ret_bool (by rw [← HR.out]; rfl), Below.refl _ _⟩
    have hx1 : i64s a ≠ [] := by simpa using hx0
    have hx2 : i64s b ≠ [] := by
      intro hh
      have : b = [] := by simpa using hh
      rw [this] at HL
      exact hx0 (List.length_eq_zero_iff.1 HL.out)
    obtain ⟨g, o, rfl, hb, hc⟩ := h3.resolve_left hx1
    obtain ⟨g', o', rfl, hb', hc'⟩ := h3'.resolve_left hx2
    have H1 := Lib.hid hc
    have H2 := Lib.hid hc'
    have HA := Lib.hid (Below.refl w.heap.size w)
    clear h3 h3' hc hc' hx0 hx1 hx2
    go_enter Try.func13, Try.ntmps13
    go_wp2
    go_loopw [13] (fun i wi => ∃ j : Nat, j ≤ a.length ∧ i = .int .i64 j ∧ Hid (a.take j = b.take j) ∧ Hid (Below w.heap.size w wi)) (fun i _ => a.length - (intOf i).toNat)
    case atStart => exact ⟨0, Nat.zero_le _, rfl, Lib.hid rfl, HA⟩
    case round =>
      obtain ⟨j, hj, rfl, ht, hq⟩ := hrel
      clear HA
      by_cases hjt : j < a.length
      · have hjb : j < b.length := by rw [← HL.out]; exact hjt
        obtain ⟨x, hx⟩ : ∃ x, a[j]? = some x := ⟨_, List.getElem?_eq_getElem hjt⟩
        obtain ⟨y, hy⟩ : ∃ y, b[j]? = some y := ⟨_, List.getElem?_eq_getElem hjb⟩
        have f1 := H1.out j _ (i64s_get hx)
        have f2 := H2.out j _ (i64s_get hy)
        rw [← (bcell hq.out).1 _ _ hb] at f1
        rw [← (bcell hq.out).1 _ _ hb'] at f2
        have HX := Lib.hid hx
        have HY := Lib.hid hy
        clear hx hy
        by_cases hxy : x = y
        · subst hxy
          go_wp2
          go_quiet (fail)
          go_wp2
          go_roundw
          case rel => exact ⟨j + 1, by omega, by go_num, Lib.hid (take_eq_next ht.out HX.out HY.out), Lib.hid (hq.out.trans ((belowDrewN _ _).mono hq.out.size))⟩
          case measure => simp [intOf]; omega
        · have e1 : (x != y) = true := by simp [hxy]
          have HN := Lib.hid hxy
          clear hxy
          go_wp2
          go_quiet (fail)
          go_wp2
          go_ret
          exact ⟨ret_bool (by rw [← HR.out, decide_eq_false (ne_at HX.out HY.out HN.out)]), hq.out.trans ((belowDrewN _ _).mono hq.out.size)⟩
      · obtain rfl : j = a.length := by omega
        go_wp2
        go_ret
        refine ⟨ret_bool ?_, hq.out⟩
        have := ht.out
        rw [List.take_length, HL.out, List.take_length] at this
        rw [← HR.out, decide_eq_true this]
  · have e0 : ((a.length : Int) != (b.length : Int)) = true := by simp; omega
    have HL := Lib.hid hl
    clear hl h3 h3'
    go_enter Try.func13, Try.ntmps13
    go_wp2
    go_ret
    exact ⟨ret_bool (by rw [← HR.out, decide_eq_false (fun h => HL.out (by rw [h]))]), Below.refl _ _⟩
end Go.Proofs.Ytdnhlahecmfhdaa
