/-
  How a run goes, in plain lists: each step goes to a next place; between two times at one place there is a safepoint.
-/
import Derived.Test.YtcenjphpdgadmaaDoorFPure
import Derived.Test.YtcenjphpdgadmaaDoorMPu
namespace Go.Proofs.YtcenjphpdgadmaaDoor
set_option linter.unusedSimpArgs false
set_option linter.unusedVariables false

section
variable {q : PProg} {s t : PSt}
theorem doI_pc {i : PIns} (h3 : i.op ≠ 3) (h4 : i.op ≠ 4) (h : doI q s i = some t) : t.pc = s.pc := by
  unfold doI at h
  by_cases e1 : i.op = 1
  · rw [if_pos e1] at h; obtain rfl := Option.some.inj h; rfl
  rw [if_neg e1] at h
  by_cases e2 : i.op = 2
  · rw [if_pos e2] at h; obtain rfl := Option.some.inj h; rfl
  rw [if_neg e2, if_neg h3, if_neg h4] at h
  by_cases e5 : i.op = 5
  · rw [if_pos e5] at h; obtain rfl := Option.some.inj h; rfl
  rw [if_neg e5] at h
  by_cases e6 : i.op = 6
  · rw [if_pos e6] at h; obtain rfl := Option.some.inj h; rfl
  rw [if_neg e6] at h
  by_cases e7 : i.op = 7
  · rw [if_pos e7] at h; obtain rfl := Option.some.inj h; rfl
  rw [if_neg e7] at h
  by_cases e8 : i.op = 8
  · rw [if_pos e8] at h
    split at h
    · cases h
    · obtain rfl := Option.some.inj h; rfl
  rw [if_neg e8] at h
  by_cases e9 : i.op = 9
  · rw [if_pos e9] at h
    split at h
    · cases h
    · obtain rfl := Option.some.inj h; rfl
  rw [if_neg e9] at h
  by_cases e10 : i.op = 10
  · rw [if_pos e10] at h
    split at h
    · cases h
    · obtain rfl := Option.some.inj h; rfl
  rw [if_neg e10] at h
  by_cases e11 : i.op = 11
  · rw [if_pos e11] at h
    split at h
    · cases h
    · obtain rfl := Option.some.inj h; rfl
  rw [if_neg e11] at h
  by_cases e12 : i.op = 12
  · rw [if_pos e12] at h; obtain rfl := Option.some.inj h; rfl
  rw [if_neg e12] at h
  by_cases e13 : i.op = 13
  · rw [if_pos e13] at h; obtain rfl := Option.some.inj h; rfl
  rw [if_neg e13] at h
  by_cases e14 : i.op = 14
  · rw [if_pos e14] at h; obtain rfl := Option.some.inj h; rfl
  rw [if_neg e14] at h
  obtain rfl := Option.some.inj h; rfl
/-- A step goes to a next place. -/
theorem step_next {i : PIns} (hin : InP q) (hi : q.code[s.pc]? = some i) (h : doI q (onI s) i = some t) : t.pc ∈ nextL q s.pc := by
  have hp := hin i (List.mem_of_getElem? hi)
  unfold nextL
  rw [hi]
  simp only [nextI]
  by_cases h3 : i.op = 3
  · rw [doI_3 h3] at h
    obtain rfl := Option.some.inj h
    rw [if_pos h3]; simp
  · rw [if_neg h3]
    by_cases h4 : i.op = 4
    · rw [doI_4 h4] at h
      obtain rfl := Option.some.inj h
      have := hp (.inr h4)
      rw [if_pos h4]
      by_cases hx : xA (onI s) i.a = 0
      · rw [if_pos hx]
        show i.n.toNat ∈ _
        split
        · simp
        · split
          · simp
          · simp; omega
      · rw [if_neg hx]
        show s.pc + 1 ∈ _
        split
        · simp
        · split <;> simp
    · have := doI_pc h3 h4 h
      rw [if_neg h4, this]
      show s.pc + 1 ∈ [s.pc + 1]
      simp
/-- What is so of the places at which a run was: all lead here; those since the last safepoint lie behind. -/
structure Seen (q : PProg) (seen since : Nat → Bool) (k : Nat) : Prop where
  way : ∀ j, seen j = true → Way q j k
  back : ∀ j, since j = true → j < k
theorem seen_0 (q : PProg) : Seen q (fun _ => false) (fun _ => false) 0 := ⟨fun _ h => (by cases h), fun _ h => (by cases h)⟩
def addB (f : Nat → Bool) (k : Nat) : Nat → Bool := fun j => decide (j = k) || f j
theorem Seen.next {seen since : Nat → Bool} {k n : Nat} (h : Seen q seen since k) (hn : n ∈ nextL q k) : Seen q (addB seen k) (if safeL q k = true then fun _ => false else addB since k) n := by
  refine ⟨fun j hj => ?_, fun j hj => ?_⟩
  · simp only [addB, Bool.or_eq_true, decide_eq_true_eq] at hj
    rcases hj with rfl | hj
    · exact .one hn
    · exact (h.way j hj).step hn
  · by_cases hs : safeL q k = true
    · rw [if_pos hs] at hj; cases hj
    · rw [if_neg hs] at hj
      have ha := next_ahead hn (by simpa using hs)
      simp only [addB, Bool.or_eq_true, decide_eq_true_eq] at hj
      rcases hj with rfl | hj
      · exact ha
      · have := h.back j hj; omega
theorem Seen.loops {seen since : Nat → Bool} {k : Nat} (h : Seen q seen since k) (hin : InP q) (hk : k ≤ q.code.length) : (seen k = true → loopL q k = true) ∧ since k = false := by
  refine ⟨fun hs => (loops_iff hin hk).2 (h.way k hs), ?_⟩
  rcases hb : since k with _ | _
  · rfl
  · have := h.back k hb; omega
/-! ### What the statements ask of ways -/
theorem way_next (hin : InP q) {a : Nat} (ha : a ≤ q.code.length) {n : Nat} (hn : n ∈ nextL q a) : (wayL q a).getD n false = true := (reach_iff hin ha).2 (.one hn)
theorem way_on (hin : InP q) {a k j : Nat} (ha : a ≤ q.code.length) (hk : k ≤ q.code.length) (h1 : (wayL q a).getD k false = true) (h2 : (wayL q k).getD j false = true) : (wayL q a).getD j false = true :=
  (reach_iff hin ha).2 (((reach_iff hin ha).1 h1).trans ((reach_iff hin hk).1 h2))
theorem nextL_end : nextL q q.code.length = [] := by unfold nextL; rw [List.getElem?_eq_none (Nat.le_refl _)]
theorem way_end {b : Nat} : ¬ Way q q.code.length b := by
  intro h
  obtain ⟨c, hc, _⟩ := h.first
  rw [nextL_end] at hc; cases hc
theorem wayL_end (hin : InP q) (b : Nat) : (wayL q q.code.length).getD b false = false := by
  rcases h : (wayL q q.code.length).getD b false with _ | _
  · rfl
  · exact absurd ((reach_iff hin (Nat.le_refl _)).1 h) way_end
/-- A place loops just if one comes back to it from a next one, or it is one. -/
theorem loop_next (hin : InP q) {k : Nat} (hk : k ≤ q.code.length) : loopL q k = true ↔ ∃ n, n ∈ nextL q k ∧ (n = k ∨ (wayL q n).getD k false = true) := by
  rw [loops_iff hin hk]
  constructor
  · intro h
    obtain ⟨n, hn, h1⟩ := h.first
    exact ⟨n, hn, h1.imp id (fun h2 => (reach_iff hin (next_le hin hn).1).2 h2)⟩
  · rintro ⟨n, hn, rfl | h1⟩
    · exact .one hn
    · exact (Way.one hn).trans ((reach_iff hin (next_le hin hn).1).1 h1)
/-- From a place that goes ahead alone one comes to the next one, and to all that this one comes to. -/
theorem way_ahead (hin : InP q) {k : Nat} (hk : k < q.code.length) {i : PIns} (hi : q.code[k]? = some i) (h3 : i.op ≠ 3) (h4 : i.op ≠ 4) (b : Nat) : (wayL q k).getD b false = ((wayL q (k + 1)).getD b false || decide (b = k + 1)) := by
  have hn : nextL q k = [k + 1] := by unfold nextL; rw [hi]; simp only [nextI]; rw [if_neg h3, if_neg h4]
  rw [Bool.eq_iff_iff, Bool.or_eq_true, decide_eq_true_eq, reach_iff hin (by omega), reach_iff hin (by omega)]
  constructor
  · intro h
    obtain ⟨n, h1, h2⟩ := h.first
    rw [hn] at h1
    simp at h1
    subst h1
    exact h2.symm.imp id (fun e => e.symm)
  · rintro (h | rfl)
    · exact (Way.one (by rw [hn]; simp)).trans h
    · exact .one (by rw [hn]; simp)
/-- The next places rise, each once, and lie where they may. -/
theorem next_form {k : Nat} {i : PIns} (hi : q.code[k]? = some i) (hp : i.op = 3 ∨ i.op = 4 → 0 ≤ i.n) : nextL q k = (if i.op = 3 then [i.n.toNat] else if i.op = 4 ∧ i.n < (k : Int) + 1 then [i.n.toNat, k + 1] else if i.op = 4 ∧ (k : Int) + 1 < i.n then [k + 1, i.n.toNat] else [k + 1]) := by
  unfold nextL
  rw [hi]
  simp only [nextI]
  by_cases h3 : i.op = 3
  · rw [if_pos h3, if_pos h3]
  · rw [if_neg h3, if_neg h3]
    by_cases h4 : i.op = 4
    · simp [h4]
    · simp [h4]
theorem next_sorted (k : Nat) : (nextL q k).length ≤ 2 ∧ ∀ a b, (nextL q k)[0]? = some a → (nextL q k)[1]? = some b → InP q → a < b := by
  unfold nextL
  rcases hi : q.code[k]? with _ | i
  · simp
  · simp only [nextI]
    refine ⟨?_, fun a b ha hb hin => ?_⟩
    · split
      · simp
      · split
        · split
          · simp
          · split <;> simp
        · simp
    · have hp := hin i (List.mem_of_getElem? hi)
      by_cases h3 : i.op = 3
      · rw [if_pos h3] at hb; simp at hb
      · rw [if_neg h3] at ha hb
        by_cases h4 : i.op = 4
        · rw [if_pos h4] at ha hb
          have := hp (.inr h4)
          split at ha
          · next e => rw [if_pos e] at hb; simp at ha hb; omega
          · next e =>
            rw [if_neg e] at hb
            split at ha
            · next e2 => rw [if_pos e2] at hb; simp at ha hb; omega
            · next e2 => rw [if_neg e2] at hb; simp at hb
        · rw [if_neg h4] at hb; simp at hb
theorem next_nil {k : Nat} (hk : k ≤ q.code.length) : nextL q k = [] ↔ k = q.code.length := by
  constructor
  · intro h
    refine Nat.le_antisymm hk (Nat.le_of_not_lt fun hlt => ?_)
    unfold nextL at h
    rw [List.getElem?_eq_getElem hlt] at h
    simp only [nextI] at h
    split at h
    · simp at h
    · split at h
      · split at h
        · simp at h
        · split at h <;> simp at h
      · simp at h
  · rintro rfl; exact nextL_end
end
end Go.Proofs.YtcenjphpdgadmaaDoor
