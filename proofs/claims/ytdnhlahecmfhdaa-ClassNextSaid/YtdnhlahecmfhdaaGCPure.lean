/-
  Classes of blocks, in plain numbers.
-/
import Derived.Test.YtdnhlahecmfhdaaBPure
namespace Go.Proofs.Ytdnhlahecmfhdaa

def wordsZ (c : Int) : Int := if c = 0 then 1 else if c = 1 then 2 else if c = 2 then 4 else if c = 3 then 8 else 0
def ofZ (n : Int) : Int := if n < 1 then -1 else if n ≤ 1 then 0 else if n ≤ 2 then 1 else if n ≤ 4 then 2 else if n ≤ 8 then 3 else -1
def inZ (p : Int) : Int := if p < 1 then -1 else (p - 1) / 8
def beginsZ (p c : Int) : Bool := decide (1 ≤ p) && decide (0 < wordsZ c) && decide ((p - 1) % 8 % wordsZ c = 0)
/-- The first words of the blocks, of w words each. -/
def cutsZ (s w : Int) : List Int := (List.range (8 / w.toNat)).map fun (k : Nat) => 8 * s + 1 + (k : Int) * w
def blocksZ (s c : Int) : List Int := if s < 0 ∨ 1048576 < s ∨ wordsZ c = 0 then [] else cutsZ s (wordsZ c)
theorem words_or (c : Int) : (c = 0 ∧ wordsZ c = 1) ∨ (c = 1 ∧ wordsZ c = 2) ∨ (c = 2 ∧ wordsZ c = 4) ∨ (c = 3 ∧ wordsZ c = 8) ∨ (c ≠ 0 ∧ c ≠ 1 ∧ c ≠ 2 ∧ c ≠ 3 ∧ wordsZ c = 0) := by
  unfold wordsZ
  by_cases h0 : c = 0
  · exact .inl ⟨h0, by rw [if_pos h0]⟩
  by_cases h1 : c = 1
  · exact .inr (.inl ⟨h1, by rw [if_neg h0, if_pos h1]⟩)
  by_cases h2 : c = 2
  · exact .inr (.inr (.inl ⟨h2, by rw [if_neg h0, if_neg h1, if_pos h2]⟩))
  by_cases h3 : c = 3
  · exact .inr (.inr (.inr (.inl ⟨h3, by rw [if_neg h0, if_neg h1, if_neg h2, if_pos h3]⟩)))
  · exact .inr (.inr (.inr (.inr ⟨h0, h1, h2, h3, by rw [if_neg h0, if_neg h1, if_neg h2, if_neg h3]⟩)))
theorem words_pos {c : Int} (h0 : 0 ≤ c) (h3 : c ≤ 3) : wordsZ c = 1 ∨ wordsZ c = 2 ∨ wordsZ c = 4 ∨ wordsZ c = 8 := by
  rcases words_or c with ⟨_, h⟩ | ⟨_, h⟩ | ⟨_, h⟩ | ⟨_, h⟩ | ⟨a, b, d, e, h⟩
  · exact .inl h
  · exact .inr (.inl h)
  · exact .inr (.inr (.inl h))
  · exact .inr (.inr (.inr h))
  · omega
theorem cuts_1 (s : Int) : cutsZ s 1 = [8 * s + 1, 8 * s + 2, 8 * s + 3, 8 * s + 4, 8 * s + 5, 8 * s + 6, 8 * s + 7, 8 * s + 8] := by
  show [8 * s + 1 + ((0 : Nat) : Int) * 1, 8 * s + 1 + ((1 : Nat) : Int) * 1, 8 * s + 1 + ((2 : Nat) : Int) * 1, 8 * s + 1 + ((3 : Nat) : Int) * 1, 8 * s + 1 + ((4 : Nat) : Int) * 1, 8 * s + 1 + ((5 : Nat) : Int) * 1, 8 * s + 1 + ((6 : Nat) : Int) * 1, 8 * s + 1 + ((7 : Nat) : Int) * 1] = _
  simp only [List.cons.injEq, and_true]; omega
theorem cuts_2 (s : Int) : cutsZ s 2 = [8 * s + 1, 8 * s + 3, 8 * s + 5, 8 * s + 7] := by
  show [8 * s + 1 + ((0 : Nat) : Int) * 2, 8 * s + 1 + ((1 : Nat) : Int) * 2, 8 * s + 1 + ((2 : Nat) : Int) * 2, 8 * s + 1 + ((3 : Nat) : Int) * 2] = _
  simp only [List.cons.injEq, and_true]; omega
theorem cuts_4 (s : Int) : cutsZ s 4 = [8 * s + 1, 8 * s + 5] := by
  show [8 * s + 1 + ((0 : Nat) : Int) * 4, 8 * s + 1 + ((1 : Nat) : Int) * 4] = _
  simp only [List.cons.injEq, and_true]; omega
theorem cuts_8 (s : Int) : cutsZ s 8 = [8 * s + 1] := by
  show [8 * s + 1 + ((0 : Nat) : Int) * 8] = _
  simp only [List.cons.injEq, and_true]; omega
end Go.Proofs.Ytdnhlahecmfhdaa
