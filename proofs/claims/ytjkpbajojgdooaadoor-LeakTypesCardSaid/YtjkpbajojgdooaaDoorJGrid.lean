/-
  What May answers, wherever it lies: a row of rows of truths.
-/
import Derived.Test.YtjkpbajojgdooaaDoorBRB
import Derived.Test.YtjkpbajojgdooaaDoorJPu
namespace Go.Proofs.YtjkpbajojgdooaaDoor
set_option linter.unusedSimpArgs false
set_option linter.unusedVariables false
open Go.RowKit

section
variable {w w' : World} {v : Value} {q : PProg}
/-- One local's row. -/
noncomputable def mayRow (q : PProg) (a : Nat) : List Value := (List.range (q.code.length + 1)).map fun k => .bool (mayB q (a : Int) k)
theorem mayRow_len (q : PProg) (a : Nat) : (mayRow q a).length = q.code.length + 1 := by unfold mayRow; simp
theorem mayRow_at {a k : Nat} (h : k ≤ q.code.length) : (mayRow q a)[k]? = some (.bool (mayB q (a : Int) k)) := by
  unfold mayRow
  rw [List.getElem?_map, List.getElem?_range (by omega)]; rfl
/-- All rows. -/
def MayAt (w : World) (v : Value) (q : PProg) : Prop :=
  ∃ rows : List Value, rows.length = q.locals.length ∧ RowAt w v rows ∧ ∀ (a : Nat) (r : Value), rows[a]? = some r → RowAt w r (mayRow q a)
theorem MayAt.below (h : MayAt w v q) (hb : Below w.heap.size w w') : MayAt w' v q := by
  obtain ⟨rows, h1, h2, h3⟩ := h
  exact ⟨rows, h1, h2.below hb, fun a r hr => (h3 a r hr).below hb⟩
def MayPost (w : World) (q : PProg) (e : Ending) (w' : World) : Prop := ∃ v, e = .returned v ∧ MayAt w' v q ∧ Below w.heap.size w w'
theorem MayAt.form (h : MayAt w v q) : ∃ x c, v = .slice x q.locals.length c ∧ q.locals.length ≤ c ∧ c ≤ 9223372036854775807 := by
  obtain ⟨rows, h1, ⟨x, c, rfl, h2, h3, -⟩, -⟩ := h
  unfold maxLen at h3
  exact ⟨x, c, by rw [h1], by omega, by omega⟩
/-- A row of it. -/
theorem MayAt.row {x : Option Addr} {n c a : Nat} (h : MayAt w (.slice x n c) q) (ha : a < q.locals.length) : ∃ b o b2 o2 c2, x = some ⟨b, o, none⟩ ∧ b < w.heap.size ∧ b2 < w.heap.size ∧ q.code.length + 1 ≤ c2 ∧ c2 ≤ 9223372036854775807 ∧
    w.cell? ⟨b, o + a, none⟩ = some (.slice (some ⟨b2, o2, none⟩) (q.code.length + 1) c2) ∧ ∀ k, k ≤ q.code.length → w.cell? ⟨b2, o2 + k, none⟩ = some (.bool (mayB q (a : Int) k)) := by
  obtain ⟨rows, h1, ⟨x', c', e, h2, h3, h4⟩, h5⟩ := h
  cases e
  have hlt : a < rows.length := by omega
  rcases h4 with h4 | ⟨b, o, rfl, hb, h4⟩
  · rw [h4] at hlt; exact absurd hlt (by simp)
  have hr := List.getElem?_eq_getElem hlt
  obtain ⟨y, c2, e2, g1, g2, g3⟩ := h5 a _ hr
  rcases g3 with g3 | ⟨b2, o2, rfl, hb2, g3⟩
  · have := mayRow_len q a; rw [g3] at this; simp at this
  rw [mayRow_len] at g1 e2
  unfold maxLen at g2
  exact ⟨b, o, b2, o2, c2, rfl, hb, hb2, g1, by omega, by rw [h4 a _ hr, e2], fun k hk => g3 k _ (mayRow_at hk)⟩
theorem MayAt.rowAt {x : Option Addr} {n c a : Nat} (h : MayAt w (.slice x n c) q) (ha : a < q.locals.length) : ∃ b o y c2, x = some ⟨b, o, none⟩ ∧ q.code.length + 1 ≤ c2 ∧ c2 ≤ 9223372036854775807 ∧
    w.cell? ⟨b, o + a, none⟩ = some (.slice y (q.code.length + 1) c2) ∧ RowAt w (.slice y (q.code.length + 1) c2) (mayRow q a) := by
  obtain ⟨rows, h1, ⟨x', c', e, h2, h3, h4⟩, h5⟩ := h
  cases e
  have hlt : a < rows.length := by omega
  rcases h4 with h4 | ⟨b, o, rfl, hb, h4⟩
  · rw [h4] at hlt; exact absurd hlt (by simp)
  have hr := List.getElem?_eq_getElem hlt
  have hra := h5 a _ hr
  obtain ⟨y, c2, e2, g1, g2, g3⟩ := id hra
  rw [mayRow_len] at g1 e2
  unfold maxLen at g2
  rw [e2] at hra
  exact ⟨b, o, y, c2, rfl, g1, by omega, by rw [h4 a _ hr, e2], hra⟩
theorem mayRow_cell {y : Option Addr} {n c a k : Nat} (h : RowAt w (.slice y n c) (mayRow q a)) (hk : k ≤ q.code.length) : ∃ b o, y = some ⟨b, o, none⟩ ∧ w.cell? ⟨b, o + k, none⟩ = some (.bool (mayB q (a : Int) k)) := by
  obtain ⟨x', c', e, h2, h3, h4⟩ := h
  cases e
  rcases h4 with h4 | ⟨b, o, rfl, hb, h4⟩
  · have := mayRow_len q a; rw [h4] at this; simp at this
  exact ⟨b, o, rfl, h4 k _ (mayRow_at hk)⟩
/-- Leaks, at any number. -/
noncomputable def leakV (q : PProg) (k : Int) : Bool := decide (0 ≤ k) && leakB q k.toNat
theorem leakV_nat (k : Nat) : leakV q (k : Int) = leakB q k := by unfold leakV; simp
end
end Go.Proofs.YtjkpbajojgdooaaDoor
