/-
  The contract of namesFit.
-/
import Derived.Test.YtcenjphpdgadmaaDoorHFld
import Derived.Test.YtcenjphpdgadmaaDoorCNum
import Derived.Deep.RegionHeld3
import Derived.Laws.RangeAny
namespace Go.Proofs.YtcenjphpdgadmaaDoor
set_option linter.unusedSimpArgs false
set_option linter.unusedVariables false
open Go.RowKit

theorem byOp_cases {op : Int} {o : Int × Bs × Bs} (h : byOpL op = some o) : op = 1 ∨ op = 2 ∨ op = 3 ∨ op = 4 ∨ op = 5 ∨ op = 6 ∨ op = 7 ∨ op = 8 ∨ op = 9 ∨ op = 10 ∨ op = 11 ∨ op = 12 ∨ op = 13 ∨ op = 14 ∨ op = 15 := by
  obtain ⟨hm, rfl⟩ := byOp_mem h
  have h0 : OPS.all (fun o => decide (1 ≤ o.1) && decide (o.1 ≤ 15)) = true := by decide
  have := List.all_eq_true.1 h0 o hm
  simp only [Bool.and_eq_true, decide_eq_true_eq] at this
  omega
theorem right_op {i : PIns} (h : rightL i = true) : i.op = 1 ∨ i.op = 2 ∨ i.op = 3 ∨ i.op = 4 ∨ i.op = 5 ∨ i.op = 6 ∨ i.op = 7 ∨ i.op = 8 ∨ i.op = 9 ∨ i.op = 10 ∨ i.op = 11 ∨ i.op = 12 ∨ i.op = 13 ∨ i.op = 14 ∨ i.op = 15 := by
  unfold rightL at h
  rcases ho : byOpL i.op with _ | o
  · rw [ho] at h; cases h
  · exact byOp_cases ho
end Go.Proofs.YtcenjphpdgadmaaDoor
