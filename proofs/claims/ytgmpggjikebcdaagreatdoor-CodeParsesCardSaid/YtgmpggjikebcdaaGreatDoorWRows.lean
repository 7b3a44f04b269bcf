/-
  Slices of texts, and slices of these, as they lie in memory; the contract of allMayBe.
-/
import Derived.Test.YtgmpggjikebcdaaGreatDoorWMay
import Derived.OwnWalk
import Derived.Laws.OwnMore
import Derived.Lib.SmallJoins
import Derived.Below
namespace Go.Proofs.YtgmpggjikebcdaaGreatDoor
open Go.RowKit

abbrev str (l : Bs) : Value := .string ⟨l.toArray⟩

theorem bcell {W w1 : World} (hb : Below W.heap.size W w1) : (∀ b o, b < W.heap.size → w1.cell? ⟨b, o, none⟩ = W.cell? ⟨b, o, none⟩) ∧ (∀ b o, b < W.heap.size → w1.frozen? ⟨b, o, none⟩ = W.frozen? ⟨b, o, none⟩) :=
  ⟨fun b o h => hb.cell (p := ⟨b, o, none⟩) h, fun b o h => hb.frozen (p := ⟨b, o, none⟩) h⟩

theorem ownsRow_le {w : World} {base base' size n : Nat} {e : TypeId} {v : Value} {xs : List Value} (h : w.ownsRow base e size v n xs) (hb : base' ≤ base) : w.ownsRow base' e size v n xs := by
  obtain ⟨h1, h2⟩ := h
  refine ⟨h1, h2.imp id ?_⟩
  rintro ⟨g, cap, cur, rfl, hg, rest⟩
  exact ⟨g, cap, cur, rfl, by omega, rest⟩
theorem ownsRow_forms {w : World} {base size n : Nat} {e : TypeId} {v : Value} {xs : List Value} (h : w.ownsRow base e size v n xs) : (v = .slice none 0 0 ∧ n = 0) ∨ ∃ g cap, v = .slice (some ⟨g, 0, none⟩) n cap := by
  rcases h.2 with h2 | ⟨g, cap, cur, rfl, _⟩
  · exact .inl h2
  · exact .inr ⟨g, cap, rfl⟩
theorem own_below {w w' : World} {base size n : Nat} {e : TypeId} {v : Value} {xs : List Value} (h : w.ownsRow base e size v n xs) (hb : Below w.heap.size w w') : w'.ownsRow base e size v n xs := by
  obtain ⟨h1, h2⟩ := h
  refine ⟨h1, h2.imp id ?_⟩
  rintro ⟨g, cap, cur, rfl, hg, hc, rest⟩
  exact ⟨g, cap, cur, rfl, hg, by rw [hb.block g (Array.getElem?_eq_some_iff.1 hc).1]; exact hc, rest⟩

/-- A slice value whose elements are these cells (of one cell each). -/
def RowAt (w : World) (v : Value) (cs : List Value) : Prop :=
  ∃ a c, v = .slice a cs.length c ∧ cs.length ≤ c ∧ c ≤ maxLen ∧ (cs = [] ∨ ∃ b o, a = some ⟨b, o, none⟩ ∧ b < w.heap.size ∧ ∀ j x, cs[j]? = some x → w.cell? ⟨b, o + j, none⟩ = some x)

theorem RowAt.below {w w' : World} {v : Value} {cs : List Value} (h : RowAt w v cs) (hb : Below w.heap.size w w') : RowAt w' v cs := by
  obtain ⟨a, c, rfl, h1, h2, h3⟩ := h
  refine ⟨a, c, rfl, h1, h2, h3.imp id ?_⟩
  rintro ⟨b, o, rfl, hlt, hc⟩
  exact ⟨b, o, rfl, Nat.lt_of_lt_of_le hlt hb.size, fun j x hx => by rw [(bcell hb).1 b _ hlt]; exact hc j x hx⟩

theorem RowAt.of_own {w : World} {B : Nat} {e : TypeId} {v : Value} {n : Nat} {cs : List Value} (h : w.ownsRow B e 1 v n cs) : RowAt w v cs := by
  obtain ⟨hl, h2⟩ := h
  rcases h2 with ⟨rfl, rfl⟩ | ⟨g, cap, cur, rfl, hb, hg, h3, h4, h5, h6⟩
  · have : cs = [] := List.length_eq_zero_iff.1 (by simpa using hl)
    subst this
    exact ⟨none, 0, rfl, Nat.le_refl _, Nat.zero_le _, .inl rfl⟩
  · have hl' : cs.length = n := by simpa using hl
    refine ⟨some ⟨g, 0, none⟩, cap, by rw [hl'], by omega, h4, .inr ⟨g, 0, rfl, (Array.getElem?_eq_some_iff.1 hg).1, ?_⟩⟩
    intro j x hx
    have hj : j < n := by have := (List.getElem?_eq_some_iff.1 hx).1; omega
    rw [← h6, List.getElem?_take] at hx
    have hx' : cur.toList[j]? = some x := by
      split at hx
      · exact hx
      · cases hx
    simp only [World.cell?, hg, Nat.zero_add]
    simpa using hx'

/-- Every text of these lists is short enough. -/
def Short (xs : List Bs) : Prop := ∀ x ∈ xs, x.length ≤ 140737488351232

theorem bs_size (l : Bs) : (⟨l.toArray⟩ : ByteArray).size = l.length := rfl
theorem bs_list (l : Bs) : (⟨l.toArray⟩ : ByteArray).data.toList = l := rfl

/-- The contract of mayBe at the text of a list. -/
theorem mayBe_list (x : Bs) (w : World) (hx : x.length ≤ 140737488351232) : Calls Tryz.prog 58 #[str x] w fun e w' => e = .returned (.bool (mayL x)) ∧ w = w' :=
  mayBe_any ⟨x.toArray⟩ w (by rw [bs_size]; unfold maxLen; omega)
theorem mayBe_t (x : Bs) (w : World) (hx : x.length ≤ 140737488351232) (h : Hid (mayL x = true)) : Calls Tryz.prog 58 #[str x] w fun e w' => e = .returned (.bool true) ∧ w = w' :=
  (mayBe_list x w hx).mono fun e w' ⟨h1, h2⟩ => ⟨by rw [h1, h.out], h2⟩
theorem mayBe_f (x : Bs) (w : World) (hx : x.length ≤ 140737488351232) (h : Hid (mayL x = false)) : Calls Tryz.prog 58 #[str x] w fun e w' => e = .returned (.bool false) ∧ w = w' :=
  (mayBe_list x w hx).mono fun e w' ⟨h1, h2⟩ => ⟨by rw [h1, h.out], h2⟩

theorem all_take_next {α : Type} {p : α → Bool} {xs : List α} {k : Nat} {x : α} (h : (xs.take k).all p = true) (hx : xs[k]? = some x) (hp : p x = true) : (xs.take (k + 1)).all p = true := by
  obtain ⟨hlt, rfl⟩ := List.getElem?_eq_some_iff.1 hx
  rw [List.take_succ_eq_append_getElem hlt, List.all_append, h]
  simp [hp]
theorem all_not {α : Type} {p : α → Bool} {xs : List α} {k : Nat} {x : α} (hx : xs[k]? = some x) (hp : p x = false) : xs.all p = false := by
  rw [Bool.eq_false_iff]
  intro h
  have := List.all_eq_true.1 h x (List.mem_of_getElem? hx)
  rw [hp] at this
  exact absurd this (by decide)

/-- What the round of a loop over a row needs of it. -/
theorem RowAt.cases {w : World} {v : Value} {xs : List Bs} (h : RowAt w v (xs.map str)) :
    ∃ a c, v = .slice a xs.length c ∧ xs.length ≤ c ∧ c ≤ 9223372036854775807 ∧ (xs = [] ∨ ∃ b o, a = some ⟨b, o, none⟩ ∧ b < w.heap.size ∧ ∀ j x, xs[j]? = some x → w.cell? ⟨b, o + j, none⟩ = some (str x)) := by
  obtain ⟨a, c, rfl, h1, h2, h3⟩ := h
  rw [List.length_map] at h1
  refine ⟨a, c, by rw [List.length_map], h1, by unfold maxLen at h2; omega, ?_⟩
  rcases h3 with h3 | ⟨b, o, rfl, hb, hc⟩
  · left; simpa using h3
  · exact .inr ⟨b, o, rfl, hb, fun j x hx => hc j (str x) (by simp [hx])⟩

set_option maxHeartbeats 1000000 in
theorem allMayBe_any (v : Value) (xs : List Bs) (w : World) (h : RowAt w v (xs.map str)) (hs : Short xs) :
    Calls Tryz.prog 45 #[v] w fun e w' => e = .returned (.bool (xs.all mayL)) ∧ w = w' := by
  obtain ⟨a, c, rfl, h1, h2, h3⟩ := h.cases
  rcases h3 with rfl | ⟨b, o, rfl, hb, hc⟩
  · go_enter Tryz.func45, Tryz.ntmps45
    go_wp2
    go_loop [7] (fun i => i = .int .i64 0) (fun _ => 0)
    case atStart => rfl
    case round =>
      subst hrel
      go_wp2
      go_ret
      exact ⟨rfl, rfl⟩
  · have HC := Lib.hid hc
    have HS := Lib.hid hs
    clear hc hs
    go_enter Tryz.func45, Tryz.ntmps45
    go_wp2
    go_loop [7] (fun i => ∃ k : Nat, k ≤ xs.length ∧ i = .int .i64 k ∧ Hid ((xs.take k).all mayL = true)) (fun i => xs.length - (intOf i).toNat)
    case atStart => exact ⟨0, Nat.zero_le _, rfl, Lib.hid (by simp)⟩
    case round =>
      obtain ⟨k, hk, rfl, hok⟩ := hrel
      by_cases hlt : k < xs.length
      · have hx : xs[k]? = some xs[k] := List.getElem?_eq_getElem hlt
        have hsx := HS.out xs[k] (List.getElem_mem hlt)
        have hcx := HC.out k _ hx
        generalize hX : xs[k] = x at hx hsx hcx
        clear hX
        have HX := Lib.hid hx
        clear hx
        rcases hm : mayL x with _ | _
        · have HM := Lib.hid hm
          clear hm
          go_wp2_with (go_at_call 58; refine (mayBe_f x _ hsx HM).mono ?_; rintro e w' ⟨rfl, rfl⟩)
          go_ret
          exact ⟨ret_bool (all_not HX.out HM.out).symm, rfl⟩
        · have HM := Lib.hid hm
          clear hm
          go_wp2_with (go_at_call 58; refine (mayBe_t x _ hsx HM).mono ?_; rintro e w' ⟨rfl, rfl⟩)
          go_round
          case rel => exact ⟨k + 1, by omega, by go_num, Lib.hid (all_take_next hok.out HX.out HM.out)⟩
          case measure => simp [intOf]; omega
      · go_wp2
        go_ret
        obtain rfl : k = xs.length := by omega
        exact ⟨ret_bool (by have := hok.out; rw [List.take_length] at this; exact this.symm), rfl⟩

end Go.Proofs.YtgmpggjikebcdaaGreatDoor
