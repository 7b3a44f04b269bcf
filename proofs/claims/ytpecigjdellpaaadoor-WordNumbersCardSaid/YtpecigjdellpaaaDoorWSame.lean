/-
  The contract of Same, of two lists that are the same.
-/
import Derived.Test.YtpecigjdellpaaaDoorWLines
import Derived.BigQuiet
namespace Go.Proofs.YtpecigjdellpaaaDoor
open Go.RowKit

/-- A slice of slices of texts, wherever they lie. -/
def GridAt (w : World) (v : Value) (xss : List (List Bs)) : Prop :=
  ∃ vs : List Value, vs.length = xss.length ∧ RowAt w v vs ∧ ∀ (i : Nat) (u : Value) (x : List Bs), vs[i]? = some u → xss[i]? = some x → RowAt w u (x.map str)
theorem GridAt.below {w w' : World} {v : Value} {xss : List (List Bs)} (h : GridAt w v xss) (hb : Below w.heap.size w w') : GridAt w' v xss := by
  obtain ⟨vs, h1, h2, h3⟩ := h
  exact ⟨vs, h1, h2.below hb, fun i u x hu hx => (h3 i u x hu hx).below hb⟩
theorem Grid.at {w : World} {B : Nat} {v : Value} {xss : List (List Bs)} (h : Grid w B v xss) : GridAt w v xss := by
  obtain ⟨vs, h1, h2, h3⟩ := h
  exact ⟨vs, h1, RowAt.of_own h2, fun i u x hu hx => RowAt.of_own (h3 i u x hu hx)⟩

/-- What a round needs of an outer row. -/
theorem GridAt.cases {w : World} {v : Value} {xss : List (List Bs)} (h : GridAt w v xss) :
    ∃ a c, v = .slice a xss.length c ∧ xss.length ≤ c ∧ c ≤ 9223372036854775807 ∧ (xss = [] ∨ ∃ b o, a = some ⟨b, o, none⟩ ∧ b < w.heap.size ∧
      ∀ (i : Nat) (x : List Bs), xss[i]? = some x → ∃ a' c', w.cell? ⟨b, o + i, none⟩ = some (.slice a' x.length c') ∧ x.length ≤ c' ∧ c' ≤ 9223372036854775807 ∧
        (x = [] ∨ ∃ b' o', a' = some ⟨b', o', none⟩ ∧ b' < w.heap.size ∧ ∀ (j : Nat) (y : Bs), x[j]? = some y → w.cell? ⟨b', o' + j, none⟩ = some (str y))) := by
  obtain ⟨vs, h1, ⟨a, c, rfl, h4, h5, h6⟩, h3⟩ := h
  refine ⟨a, c, by rw [h1], by omega, by unfold maxLen at h5; omega, ?_⟩
  rcases h6 with rfl | ⟨b, o, rfl, hb, hc⟩
  · left; exact List.length_eq_zero_iff.1 (by simpa using h1.symm)
  · refine .inr ⟨b, o, rfl, hb, fun i x hx => ?_⟩
    have hi : i < vs.length := by rw [h1]; exact (List.getElem?_eq_some_iff.1 hx).1
    have hu : vs[i]? = some vs[i] := List.getElem?_eq_getElem hi
    obtain ⟨a', c', hv, g1, g2, g3⟩ := (h3 i _ x hu hx).cases
    exact ⟨a', c', by rw [← hv]; exact hc i _ hu, g1, g2, g3⟩

def Drawn (w w' : World) : Prop := ∃ n, w' = w.drewN n
theorem drawn_refl (w : World) : Drawn w w := ⟨0, rfl⟩
theorem Drawn.more {w w' : World} (h : Drawn w w') (k : Nat) : Drawn w (w'.drewN k) := by
  obtain ⟨n, rfl⟩ := h
  exact ⟨n + k, by simp [World.drewN_drewN]⟩
theorem Drawn.cell {w w' : World} (h : Drawn w w') (a : Addr) : w'.cell? a = w.cell? a := by obtain ⟨n, rfl⟩ := h; rfl
theorem Drawn.below {w w' : World} (h : Drawn w w') : Below w.heap.size w w' := by obtain ⟨n, rfl⟩ := h; exact below_drewN w n

def TrueDrawn (w : World) (e : Ending) (w' : World) : Prop := e = .returned (.bool true) ∧ Drawn w w'

set_option maxRecDepth 100000 in
set_option maxHeartbeats 4000000 in
theorem same_any (v v' : Value) (xss : List (List Bs)) (w : World) (h : GridAt w v xss) (h' : GridAt w v' xss) : Calls Tryd.prog 13 #[v, v'] w (TrueDrawn w) := by
  obtain ⟨a, c, rfl, h1, h2, h3⟩ := h.cases
  obtain ⟨a', c', rfl, h1', h2', h3'⟩ := h'.cases
  clear h h'
  rcases h3 with rfl | ⟨b, o, rfl, hb, hc⟩
  · clear h3'
    go_enter Tryd.func13, Tryd.ntmps13
    go_wp2
    go_loop [14] (fun i => i = .int .i64 0) (fun _ => 0)
    case atStart => rfl
    case round =>
      subst hrel
      go_wp2
      go_ret
      exact ⟨rfl, drawn_refl w⟩
  · rcases h3' with rfl | ⟨b', o', rfl, hb', hc'⟩
    · clear hc
      go_enter Tryd.func13, Tryd.ntmps13
      go_wp2
      go_loop [14] (fun i => i = .int .i64 0) (fun _ => 0)
      case atStart => rfl
      case round =>
        subst hrel
        go_wp2
        go_ret
        exact ⟨rfl, drawn_refl w⟩
    · have HC := Lib.hid hc
      have HC' := Lib.hid hc'
      clear hc hc'
      go_enter Tryd.func13, Tryd.ntmps13
      go_wp2
      go_loopw [14] (fun i wr => ∃ k : Nat, k ≤ xss.length ∧ i = .int .i64 k ∧ Drawn w wr) (fun i _ => xss.length - (intOf i).toNat)
      case atStart => exact ⟨0, Nat.zero_le _, rfl, drawn_refl w⟩
      case round =>
        obtain ⟨k, hk, rfl, hr⟩ := hrel
        by_cases hlt : k < xss.length
        · have hx : xss[k]? = some xss[k] := List.getElem?_eq_getElem hlt
          obtain ⟨a1, c1, e1, g1, g2, g3⟩ := HC.out k _ hx
          obtain ⟨a2, c2, e2, g1', g2', g3'⟩ := HC'.out k _ hx
          rw [← hr.cell] at e1 e2
          generalize xss[k] = x at *
          clear hx
          have HR := Lib.hid hr
          by_cases hx0 : x = []
          · subst hx0
            clear g3 g3'
            go_wp2
            go_quiet (fail)
            go_wp2
            go_loop [33] (fun i => i = .int .i64 0) (fun _ => 0)
            case atStart => rfl
            case round =>
              subst hrel
              go_wp2
              go_roundw
              case rel => exact ⟨k + 1, by omega, by go_num, hr.more _⟩
              case measure => simp [intOf]; omega
          · obtain ⟨b1, o1, rfl, hb1, hc1⟩ := g3.resolve_left hx0
            obtain ⟨b2, o2, rfl, hb2, hc2⟩ := g3'.resolve_left hx0
            have H1 := Lib.hid hc1
            have H2 := Lib.hid hc2
            clear hx0 g3 g3' hc1 hc2
            go_wp2
            go_quiet (fail)
            go_wp2
            go_loopw [33] (fun i wi => ∃ j : Nat, j ≤ x.length ∧ i = .int .i64 j ∧ Drawn w wi) (fun i _ => x.length - (intOf i).toNat)
            case atStart => exact ⟨0, Nat.zero_le _, rfl, hr.more _⟩
            case round =>
              obtain ⟨j, hj, rfl, hq⟩ := hrel
              by_cases hjt : j < x.length
              · have hy : x[j]? = some x[j] := List.getElem?_eq_getElem hjt
                have f1 := H1.out j _ hy
                have f2 := H2.out j _ hy
                rw [← hq.cell] at f1 f2
                rw [hr.cell, ← hq.cell] at e1 e2
                generalize x[j] = y at *
                clear hy
                go_wp2
                go_quiet (fail)
                go_wp2
                go_roundw
                case rel => exact ⟨j + 1, by omega, by go_num, hq.more _⟩
                case measure => simp [intOf]; omega
              · go_wp2
                go_roundw
                case rel => exact ⟨k + 1, by omega, by go_num, hq⟩
                case measure => simp [intOf]; omega
        · go_wp2
          go_ret
          exact ⟨rfl, hr⟩
end Go.Proofs.YtpecigjdellpaaaDoor
