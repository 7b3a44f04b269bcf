/-
  The model, in plain lists: what a step keeps.
  How a run goes, in plain lists: each step goes to a next place; between two times at one place there is a safepoint.
-/
import Derived.Test.YtapjgobkpehgfaaDoorUAI

/- The model, in plain lists: what a step keeps. -/
namespace Go.Proofs.YtapjgobkpehgfaaDoor
set_option linter.unusedSimpArgs false
set_option linter.unusedVariables false

theorem ins_parts {q : PProg} {n : Int} {i : PIns} (h : insE q n i = 0) : rightL i = true ∧ (jumpI i = true → 0 ≤ i.n ∧ i.n ≤ n) ∧ intsB i = true ∧ kindsB q i = true := by
  unfold insE at h
  by_cases h1 : rightL i = false
  · rw [if_pos h1] at h; cases h
  · rw [if_neg h1] at h
    by_cases h2 : jumpI i = true ∧ (i.n < 0 ∨ n < i.n)
    · rw [if_pos h2] at h; cases h
    · rw [if_neg h2] at h
      by_cases h3 : (intsB i && kindsB q i) = false
      · rw [if_pos h3] at h; cases h
      · have h3' : (intsB i && kindsB q i) = true := by simpa using h3
        simp only [Bool.and_eq_true] at h3'
        refine ⟨by simpa using h1, fun hj => ?_, h3'.1, h3'.2⟩
        constructor <;> (refine Int.not_lt.1 fun hn => h2 ⟨hj, ?_⟩)
        · exact .inl hn
        · exact .inr hn
theorem same_parts {s t : Int} (h : sameT s t = true) : 0 ≤ s ∧ s = t := by
  unfold sameT at h
  simpa using h
theorem num_parts {ts : List Bs} {t n : Int} (h : numF ts t n = true) : 0 ≤ n ∧ n < sizeP ts t ∧ toP ts t n < 0 := by
  unfold numF at h
  simp only [Bool.and_eq_true, decide_eq_true_eq] at h
  exact ⟨h.1.1, h.1.2, h.2⟩
theorem toP_has {ts : List Bs} {t n : Int} (h : 0 ≤ toP ts t n) : 0 ≤ n ∧ n < sizeP ts t := by
  unfold toP toI at h
  split at h
  · next e =>
    unfold sizeP sizeI
    rw [if_pos e.1]; exact ⟨e.2.1, e.2.2⟩
  · omega
section
variable {q : PProg} {s : PSt} {ts : List Nat} {i : PIns}
theorem local_lt (hh : headB q = true) {a : Int} (h0 : 0 ≤ a) (h : 0 ≤ localI q a) : a < q.locals.length ∧ localI q a < q.types.length :=
  ⟨(names_lt (head_parts hh).1 h0).1.1 h, (names_lt (head_parts hh).1 h0).2⟩
end
end Go.Proofs.YtapjgobkpehgfaaDoor

/- How a run goes, in plain lists: each step goes to a next place; between two times at one place there is a safepoint. -/
namespace Go.Proofs.YtapjgobkpehgfaaDoor
set_option linter.unusedSimpArgs false
set_option linter.unusedVariables false

section
variable {q : PProg} {s t : PSt}
/-- What is so of the places at which a run was: all lead here; those since the last safepoint lie behind. -/
structure Seen (q : PProg) (seen since : Nat → Bool) (k : Nat) : Prop where
  way : ∀ j, seen j = true → Way q j k
  back : ∀ j, since j = true → j < k
def addB (f : Nat → Bool) (k : Nat) : Nat → Bool := fun j => decide (j = k) || f j
theorem Seen.next {seen since : Nat → Bool} {k n : Nat} (h : Seen q seen since k) (hn : n ∈ nextL q k) : Seen q (addB seen k) (if safeL q k = true then fun _ => false else addB since k) n := by
  refine ⟨fun j hj => ?_, fun j hj => ?_⟩
  · simp only [addB, Bool.or_eq_true, decide_eq_true_eq] at hj
    rcases hj with rfl | hj
    · exact .one hn
    · exact (h.way j hj).step hn
  · by_cases hs : safeL q k = true
    · rw [if_pos hs] at hj; cases hj
    · rw [if_neg hs] at hj
      have ha := next_ahead hn (by simpa using hs)
      simp only [addB, Bool.or_eq_true, decide_eq_true_eq] at hj
      rcases hj with rfl | hj
      · exact ha
      · have := h.back j hj; omega
/-- The next places rise, each once, and lie where they may. -/
theorem next_form {k : Nat} {i : PIns} (hi : q.code[k]? = some i) (hp : i.op = 3 ∨ i.op = 4 → 0 ≤ i.n) : nextL q k = (if i.op = 3 then [i.n.toNat] else if i.op = 4 ∧ i.n < (k : Int) + 1 then [i.n.toNat, k + 1] else if i.op = 4 ∧ (k : Int) + 1 < i.n then [k + 1, i.n.toNat] else [k + 1]) := by
  unfold nextL
  rw [hi]
  simp only [nextI]
  by_cases h3 : i.op = 3
  · rw [if_pos h3, if_pos h3]
  · rw [if_neg h3, if_neg h3]
    by_cases h4 : i.op = 4
    · simp [h4]
    · simp [h4]
theorem next_sorted (k : Nat) : (nextL q k).length ≤ 2 ∧ ∀ a b, (nextL q k)[0]? = some a → (nextL q k)[1]? = some b → InP q → a < b := by
  unfold nextL
  rcases hi : q.code[k]? with _ | i
  · simp
  · simp only [nextI]
    refine ⟨?_, fun a b ha hb hin => ?_⟩
    · split
      · simp
      · split
        · split
          · simp
          · split <;> simp
        · simp
    · have hp := hin i (List.mem_of_getElem? hi)
      by_cases h3 : i.op = 3
      · rw [if_pos h3] at hb; simp at hb
      · rw [if_neg h3] at ha hb
        by_cases h4 : i.op = 4
        · rw [if_pos h4] at ha hb
          have := hp (.inr h4)
          split at ha
          · next e => rw [if_pos e] at hb; simp at ha hb; omega
          · next e =>
            rw [if_neg e] at hb
            split at ha
            · next e2 => rw [if_pos e2] at hb; simp at ha hb; omega
            · next e2 => rw [if_neg e2] at hb; simp at hb
        · rw [if_neg h4] at hb; simp at hb
end
end Go.Proofs.YtapjgobkpehgfaaDoor
