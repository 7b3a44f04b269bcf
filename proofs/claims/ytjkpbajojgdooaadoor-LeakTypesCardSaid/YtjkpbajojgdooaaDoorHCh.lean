/-
  The contract of namesFit.
  Contracts of check: Check, Need.
-/
import Derived.Test.YtjkpbajojgdooaaDoorHNF
import Derived.Test.YtjkpbajojgdooaaDoorBRB
import Derived.Deep.RegionHeld3
import Derived.Laws.RangeAny

/- The contract of namesFit. -/
namespace Go.Proofs.YtjkpbajojgdooaaDoor
set_option linter.unusedSimpArgs false
set_option linter.unusedVariables false
open Go.RowKit

theorem byOp_cases {op : Int} {o : Int × Bs × Bs} (h : byOpL op = some o) : op = 1 ∨ op = 2 ∨ op = 3 ∨ op = 4 ∨ op = 5 ∨ op = 6 ∨ op = 7 ∨ op = 8 ∨ op = 9 ∨ op = 10 ∨ op = 11 ∨ op = 12 ∨ op = 13 ∨ op = 14 ∨ op = 15 := by
  obtain ⟨hm, rfl⟩ := byOp_mem h
  have h0 : OPS.all (fun o => decide (1 ≤ o.1) && decide (o.1 ≤ 15)) = true := by decide
  have := List.all_eq_true.1 h0 o hm
  simp only [Bool.and_eq_true, decide_eq_true_eq] at this
  omega
theorem right_op {i : PIns} (h : rightL i = true) : i.op = 1 ∨ i.op = 2 ∨ i.op = 3 ∨ i.op = 4 ∨ i.op = 5 ∨ i.op = 6 ∨ i.op = 7 ∨ i.op = 8 ∨ i.op = 9 ∨ i.op = 10 ∨ i.op = 11 ∨ i.op = 12 ∨ i.op = 13 ∨ i.op = 14 ∨ i.op = 15 := by
  unfold rightL at h
  rcases ho : byOpL i.op with _ | o
  · rw [ho] at h; cases h
  · exact byOp_cases ho
end Go.Proofs.YtjkpbajojgdooaaDoor

/- Contracts of check: Check, Need. -/
namespace Go.Proofs.YtjkpbajojgdooaaDoor
set_option linter.unusedSimpArgs false
set_option linter.unusedVariables false
open Go.RowKit

theorem check_here {p : PProg} {k : Nat} {i : PIns} (hh : headB p = true) (h1 : 1 ≤ p.code.length) (h2 : p.code.length ≤ 200) (hk : p.code[k]? = some i) (hall : ∀ j ∈ p.code.take k, insE p p.code.length j = 0) (hi : insE p p.code.length i ≠ 0) : checkL p = ((k : Int), insE p p.code.length i) := by
  obtain ⟨hlt, rfl⟩ := List.getElem?_eq_some_iff.1 hk
  rw [check_code hh h1 h2]
  have e : firstE p p.code.length 0 p.code = firstE p p.code.length 0 (p.code.take k ++ p.code[k] :: p.code.drop (k + 1)) := by
    congr 1
    rw [← List.drop_eq_getElem_cons hlt, List.take_append_drop]
  rw [e, firstE_at 0 hall hi, List.length_take, Nat.min_eq_left (Nat.le_of_lt hlt)]
  simp
theorem check_none {p : PProg} (hh : headB p = true) (h1 : 1 ≤ p.code.length) (h2 : p.code.length ≤ 200) (hall : ∀ j ∈ p.code, insE p p.code.length j = 0) : checkL p = (-1, 0) := by
  rw [check_code hh h1 h2, firstE_all 0 hall]
theorem all0_next {p : PProg} {k : Nat} {i : PIns} (h : ∀ j ∈ p.code.take k, insE p p.code.length j = 0) (hk : p.code[k]? = some i) (hi : insE p p.code.length i = 0) : ∀ j ∈ p.code.take (k + 1), insE p p.code.length j = 0 := by
  obtain ⟨hlt, rfl⟩ := List.getElem?_eq_some_iff.1 hk
  intro j hj
  rw [List.take_succ_eq_append_getElem hlt] at hj
  rcases List.mem_append.1 hj with hj | hj
  · exact h j hj
  · simp at hj; subst hj; exact hi
def ChkPost (w : World) (z e : Int) : Ending → World → Prop := AggPost w (.tuple #[.int .i64 z, .int .i64 e])
theorem chk_post {w w' : World} {z e z' e' : Int} (h1 : z = z') (h2 : e = e') (h : Below w.heap.size w w') : ChkPost w z' e' (.returned (.tuple #[.int .i64 z, .int .i64 e])) w' := ⟨by rw [h1, h2], h⟩
end Go.Proofs.YtjkpbajojgdooaaDoor
