/-
  The program's leak: May.
  A region that draws its order, whose operations only read and whose callees keep what is read: walked once, in the order of the text, in a class of worlds of one's own.
-/
import Derived.Test.YtcjhgibhenocpaaGreatDoorJProgB
import Derived.Test.YtcjhgibhenocpaaGreatDoorUAE
import Derived.BigQuiet
import Derived.Lib.AppendZeros
import Derived.Deep.RegionLaw

/- The program's leak: May. -/
namespace Go.Proofs.YtcjhgibhenocpaaGreatDoor
set_option linter.unusedSimpArgs false
set_option linter.unusedVariables false
open Go.RowKit

section
variable {q : PProg}
theorem may_way {M : Nat → Nat → Bool} (hok : ∀ i ∈ q.code, OkI i) (hw : WayM q M) {i : PIns} {k y : Nat} (hi : q.code[k]? = some i) (h5 : i.op = 5) (hy : i.a = (y : Int)) (hyn : y < q.locals.length) (b : Nat) : mayB q (b : Int) k = M y b := by
  have h1 : mayB q (b : Int) k = true ↔ M y b = true := by
    rw [mayB_iff, may_star hok, hw y b hyn]
    constructor
    · rintro ⟨j, a, hj, _, ha, hs⟩
      rw [hi] at hj
      cases hj
      have : a = y := by omega
      rw [← this]; exact hs
    · intro hs
      exact ⟨i, y, hi, h5, hy, hs⟩
  exact Bool.eq_iff_iff.2 h1
theorem may_none (hok : ∀ i ∈ q.code, OkI i) {k : Nat} (h : ∀ i, q.code[k]? = some i → i.op ≠ 5) (b : Nat) : mayB q (b : Int) k = false := by
  rw [mayB_no, may_star hok]
  rintro ⟨i, _, hi, h5, _⟩
  exact h i hi h5
/-- The truths of May behind the first m places. -/
def MayM (q : PProg) (m : Nat) (M : Nat → Nat → Bool) : Prop := ∀ a j, a < q.locals.length → M a j = (decide (j < m) && mayB q (a : Int) j)
def MayI (q : PProg) (m x : Nat) (M : Nat → Nat → Bool) : Prop := ∀ a j, a < q.locals.length → M a j = ((decide (j < m) && mayB q (a : Int) j) || (decide (j = m) && decide (a < x) && mayB q (a : Int) m))
theorem MayM.nought : MayM q 0 (fun _ _ => false) := fun a j _ => by simp
theorem MayM.skip {m : Nat} {M : Nat → Nat → Bool} (h : MayM q m M) (hn : ∀ b : Nat, mayB q (b : Int) m = false) : MayM q (m + 1) M := fun a j ha => by
  rw [h a j ha]
  by_cases e : j = m
  · subst e; simp [hn]
  · have e2 : (j < m + 1) = (j < m) := propext (by omega)
    simp [e2]
theorem MayI.next {m x : Nat} {M : Nat → Nat → Bool} {r : Bool} (h : MayI q m x M) (hr : mayB q (x : Int) m = r) : MayI q m (x + 1) (fun a => if a = x then (fun j => if j = m then r else M x j) else M a) := fun a j ha => by
  show (if a = x then (fun j => if j = m then r else M x j) else M a) j = _
  by_cases e : a = x
  · subst e
    rw [if_pos rfl]
    by_cases e2 : j = m
    · subst e2
      simp [hr]
    · have h9 := h a j ha
      simp [e2] at h9 ⊢
      exact h9
  · rw [if_neg e, h a j ha]
    have e2 : (a < x + 1) = (a < x) := propext (by omega)
    simp [e2]
theorem MayI.done {m : Nat} {M : Nat → Nat → Bool} (h : MayI q m q.locals.length M) : MayM q (m + 1) M := fun a j ha => by
  rw [h a j ha]
  by_cases e : j = m
  · subst e; simp [ha]
  · have e2 : (j < m + 1) = (j < m) := propext (by omega)
    simp [e, e2]
theorem MayM.done {M : Nat → Nat → Bool} (hok : ∀ i ∈ q.code, OkI i) (h : MayM q q.code.length M) {a k : Nat} (ha : a < q.locals.length) (hk : k ≤ q.code.length) : M a k = mayB q (a : Int) k := by
  rw [h a k ha]
  by_cases e : k < q.code.length
  · simp [e]
  · rw [may_none hok (fun i hi => absurd (List.getElem?_eq_some_iff.1 hi).1 e)]
    simp
end
end Go.Proofs.YtcjhgibhenocpaaGreatDoor

/- A region that draws its order, whose operations only read and whose callees keep what is read: walked once, in the order of the text, in a class of worlds of one's own. -/
namespace Go.Proofs.YtcjhgibhenocpaaGreatDoor
set_option linter.unusedSimpArgs false
set_option linter.unusedVariables false
open Go.RowKit

/-- A world of a class. -/
structure InW (Good : World → Prop) where
  w : World
  ok : Good w
/-- 'Good': what holds of the world all the while, whatever the callees do. -/
theorem wp_quiet_in {P : Program} {id : Nat} {Q : Exit → Act → World → Prop} {a : Act} {w : World} {l : List Oper} (Good : World → Prop) (hm : P.follows .mixedOrders = true) (hB : Region.lexB .any l.toArray = true) (hG : Good w.drew)
    (h : wpQuiet P l.toArray (fun w' => ∃ u : InW Good, w' = u.w) (fun a' => ∀ w', (∃ u : InW Good, w' = u.w) → Q .normal a' w') l a) : (Code.region id l.toArray true).wp P Q a w :=
  wp_region_quiet (C := fun w' => ∃ u : InW Good, w' = u.w) hm hB ⟨⟨_, hG⟩, rfl⟩ (by simpa using h)
end Go.Proofs.YtcjhgibhenocpaaGreatDoor
