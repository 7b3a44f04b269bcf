/-
  The document's passes and Last.
  The set of the fields that are left, as the program keeps it: a bit for each.
-/
import Derived.Test.YtcjhgibhenocpaaGreatDoorUAT
import Derived.Test.YtcjhgibhenocpaaGreatDoorUAY
import Derived.Test.YtcjhgibhenocpaaGreatDoorUAW
import Derived.Test.YtcjhgibhenocpaaGreatDoorUBE
import Derived.Deep.LoopGhost
import Derived.Deep.RegionHeld3
import Derived.Deep.CutRange
import Derived.Deep.CutBlock
import Derived.Deep.QuietTactic
import Derived.Laws.IdiomCopy
import Derived.StillTailTactics
import Derived.ChangeKeysEq
import Derived.Lib.SliceRun
import Derived.WalkKit

/- The document's passes and Last. -/
namespace Go.Proofs.YtcjhgibhenocpaaGreatDoor
set_option linter.unusedSimpArgs false
set_option linter.unusedVariables false
open Go.RowKit

theorem goF_cons (a left : Int) (had : List Bool) (i : PIns) (r : List PIns) (k : Nat) : goF a left had (i :: r) k =
    if putsI i a = true then
      (if (if had.getD i.n.toNat false = true then left else left - 1) = 0 then (k : Int) else goF a (if had.getD i.n.toNat false = true then left else left - 1) (had.set i.n.toNat true) r (k + 1))
    else if passI i a = true then goF a left had r (k + 1) else -1 := rfl
theorem drop_at {l : List PIns} {m : Nat} {i : PIns} (h : l[m]? = some i) : l.drop m = i :: l.drop (m + 1) := by
  obtain ⟨hlt, rfl⟩ := List.getElem?_eq_some_iff.1 h
  exact List.drop_eq_getElem_cons hlt
end Go.Proofs.YtcjhgibhenocpaaGreatDoor

/- The set of the fields that are left, as the program keeps it: a bit for each. -/
namespace Go.Proofs.YtcjhgibhenocpaaGreatDoor
set_option linter.unusedSimpArgs false
set_option linter.unusedVariables false
open Go.RowKit

/-- The fields that are left of S ones, as a sum of powers. -/
def leftM (S : Nat) (had : List Bool) : Nat := (List.range 6).foldl (fun m k => if k < S ∧ had.getD k false = false then m + 2 ^ k else m) 0
/-- What was written is of the S fields. -/
def InS (S : Nat) (had : List Bool) : Prop := ∀ k, k < 6 → had.getD k false = true → k < S
theorem six_of {had : List Bool} (h : had.length = 6) : ∃ a b c d e f, had = [a, b, c, d, e, f] := by
  rcases had with _ | ⟨a, _ | ⟨b, _ | ⟨c, _ | ⟨d, _ | ⟨e, _ | ⟨f, _ | ⟨g, l⟩⟩⟩⟩⟩⟩⟩ <;> first | (simp at h; done) | skip
  exact ⟨a, b, c, d, e, f, rfl⟩
set_option maxRecDepth 100000 in
theorem left_nought : ∀ S, S < 7 → leftM S nought6 = 2 ^ S - 1 := by decide
set_option maxRecDepth 100000 in
theorem left_step' : ∀ S, S < 7 → ∀ n, n < S → ∀ a b c d e f : Bool, bits BinOp.andNot IntKind.u8 ((leftM S [a, b, c, d, e, f] : Nat) : Int) ((2 ^ n : Nat) : Int) = ((leftM S ([a, b, c, d, e, f].set n true) : Nat) : Int) := by decide +kernel
set_option maxRecDepth 100000 in
theorem left_none' : ∀ S, S < 7 → ∀ a b c d e f : Bool, (∀ k, k < 6 → [a, b, c, d, e, f].getD k false = true → k < S) → (leftM S [a, b, c, d, e, f] = 0 ↔ cnt [a, b, c, d, e, f] = S) := by decide +kernel
set_option maxRecDepth 100000 in
theorem left_max' : ∀ S, S < 7 → ∀ a b c d e f : Bool, leftM S [a, b, c, d, e, f] < 64 := by decide +kernel
theorem left_step {S n : Nat} {had : List Bool} (hl : had.length = 6) (hS : S ≤ 6) (hn : n < S) : bits BinOp.andNot IntKind.u8 ((leftM S had : Nat) : Int) ((2 ^ n : Nat) : Int) = ((leftM S (had.set n true) : Nat) : Int) := by
  obtain ⟨a, b, c, d, e, f, rfl⟩ := six_of hl
  exact left_step' S (by omega) n hn a b c d e f
theorem left_none {S : Nat} {had : List Bool} (hl : had.length = 6) (hS : S ≤ 6) (hi : InS S had) : leftM S had = 0 ↔ cnt had = S := by
  obtain ⟨a, b, c, d, e, f, rfl⟩ := six_of hl
  exact left_none' S (by omega) a b c d e f hi
theorem left_max {S : Nat} {had : List Bool} (hl : had.length = 6) (hS : S ≤ 6) : leftM S had < 64 := by
  obtain ⟨a, b, c, d, e, f, rfl⟩ := six_of hl
  exact left_max' S (by omega) a b c d e f
theorem nought_no : ∀ k, k < 6 → nought6.getD k false = false := by decide
theorem inS_nought (S : Nat) : InS S nought6 := fun k hk h => by rw [nought_no k hk] at h; cases h
theorem InS.set {S n : Nat} {had : List Bool} (h : InS S had) (hn : n < S) : InS S (had.set n true) := by
  intro k hk hg
  by_cases e : k = n
  · omega
  · refine h k hk ?_
    rw [List.getD_eq_getElem?_getD, List.getElem?_set_ne (by omega), ← List.getD_eq_getElem?_getD] at hg
    exact hg
end Go.Proofs.YtcjhgibhenocpaaGreatDoor
