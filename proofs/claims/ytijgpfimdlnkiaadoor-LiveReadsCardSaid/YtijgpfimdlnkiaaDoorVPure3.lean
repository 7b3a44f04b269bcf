/-
  What the statements ask of the least sets, in plain numbers.
-/
import Derived.Test.YtijgpfimdlnkiaaDoorVPa
namespace Go.Proofs.YtijgpfimdlnkiaaDoor
set_option linter.unusedSimpArgs false
set_option linter.unusedVariables false

section
variable {q : PProg} {i : PIns}
/-- What an instruction of a program that may be run uses is there. -/
theorem uses_local (hc : (checkL q).2 = 0) (hok : ∀ i ∈ q.code, OkI i) (hm : i ∈ q.code) {a : Nat} (h : (usesN i).testBit a = true) : a < q.locals.length := by
  obtain ⟨hh, _, _, hall, _⟩ := check_ok hc
  obtain ⟨hrt, hju, hin, hki⟩ := ins_parts (hall i hm)
  obtain ⟨o0, o1, a0, a1, b0, b1, c0, c1, n0, n1⟩ := hok i hm
  have key : ∀ x : Int, 0 ≤ x → 0 ≤ localI q x → (bitN x).testBit a = true → a < q.locals.length := by
    intro x h0 hl hb
    rw [testBit_bit] at hb
    simp only [Bool.and_eq_true, decide_eq_true_eq] at hb
    have := (local_lt hh h0 hl).1
    omega
  unfold usesN at h
  by_cases h7 : i.op = 7
  · have hl : sameT (localI q i.a) (localI q i.b) = true := by unfold kindsB at hki; simpa [h7] using hki
    obtain ⟨m1, m2⟩ := same_parts hl
    rw [if_pos (.inl h7)] at h
    exact key i.b b0 (by omega) h
  by_cases h8 : i.op = 8
  · have hl : 0 ≤ localI q i.b ∧ numF q.types (localI q i.b) i.n = true := by unfold kindsB at hki; simpa [h8] using hki
    rw [if_pos (.inr (.inl h8))] at h
    exact key i.b b0 hl.1 h
  by_cases h10 : i.op = 10
  · have hl : 0 ≤ localI q i.b ∧ sameT (localI q i.a) (toP q.types (localI q i.b) i.n) = true := by unfold kindsB at hki; simpa [h10] using hki
    rw [if_pos (.inr (.inr (.inl h10)))] at h
    exact key i.b b0 hl.1 h
  by_cases h13 : i.op = 13
  · have hl : sameT (localI q i.b) (globI q i.a) = true := by unfold kindsB at hki; simpa [h13] using hki
    obtain ⟨m1, m2⟩ := same_parts hl
    rw [if_pos (.inr (.inr (.inr h13)))] at h
    exact key i.b b0 m1 h
  rw [if_neg (by rintro (e | e | e | e); exact h7 e; exact h8 e; exact h10 e; exact h13 e)] at h
  by_cases h9 : i.op = 9
  · have hl : 0 ≤ localI q i.a ∧ numF q.types (localI q i.a) i.n = true := by unfold kindsB at hki; simpa [h9] using hki
    rw [if_pos h9] at h
    exact key i.a a0 hl.1 h
  rw [if_neg h9] at h
  by_cases h11 : i.op = 11
  · have hl : 0 ≤ localI q i.a ∧ sameT (localI q i.b) (toP q.types (localI q i.a) i.n) = true := by unfold kindsB at hki; simpa [h11] using hki
    obtain ⟨m1, m2⟩ := same_parts hl.2
    rw [if_pos h11, Nat.testBit_or, Bool.or_eq_true] at h
    rcases h with h | h
    · exact key i.a a0 hl.1 h
    · exact key i.b b0 m1 h
  rw [if_neg h11] at h
  by_cases h15 : i.op = 15
  · have hl : sameT (localI q i.b) (localI q i.c) = true := by unfold kindsB at hki; simpa [h15] using hki
    obtain ⟨m1, m2⟩ := same_parts hl
    rw [if_pos h15, Nat.testBit_or, Bool.or_eq_true] at h
    rcases h with h | h
    · exact key i.b b0 m1 h
    · exact key i.c c0 (by omega) h
  rw [if_neg h15, Nat.zero_testBit] at h
  cases h
theorem lv_local (hc : (checkL q).2 = 0) (hok : ∀ i ∈ q.code, OkI i) {a k : Nat} (h : Lv q a k) : a < q.locals.length := by
  obtain ⟨m, hm⟩ := h
  induction m generalizing k with
  | zero =>
    have h2 : (usesK q k).testBit a = true := hm
    unfold usesK at h2
    rcases hi : q.code[k]? with _ | i
    · rw [hi] at h2; simp at h2
    · rw [hi] at h2; exact uses_local hc hok (List.mem_of_getElem? hi) h2
  | succ m ih => obtain ⟨_, n, _, hm'⟩ := hm; exact ih hm'
theorem live_small (hc : (checkL q).2 = 0) (hok : ∀ i ∈ q.code, OkI i) (k : Nat) : (liveL q).getD k 0 < 2 ^ q.locals.length := by
  refine Nat.lt_pow_two_of_testBit _ fun a ha => ?_
  rcases h : ((liveL q).getD k 0).testBit a with _ | _
  · rfl
  · have := lv_local hc hok ((live_iff a k).1 h); omega
theorem live_at {k : Nat} (hi : q.code[k]? = some i) : (liveL q).getD k 0 = butN (behN (liveL q) (nextL q k)) (setsN i) ||| usesN i := by
  have := live_fix (q := q) k
  unfold flowN at this
  rwa [setsK_at hi, usesK_at hi] at this
theorem live_at' {k : Nat} (hi : q.code[k]? = some i) : (liveL q).getD k 0 = usesN i ||| butN (behN (liveL q) (nextL q k)) (setsN i) := by rw [live_at hi, Nat.or_comm]
/-- What is set and not used doesn't matter; what is used does. -/
theorem live_dead {k : Nat} (hi : q.code[k]? = some i) : (liveL q).getD k 0 &&& butN (setsN i) (usesN i) = 0 ∧ butN (usesN i) ((liveL q).getD k 0) = 0 := by
  rw [live_at hi]
  constructor
  · refine eq_bits fun a => ?_
    rw [Nat.testBit_and, Nat.testBit_or, testBit_but, testBit_but, Nat.zero_testBit]
    cases (setsN i).testBit a <;> cases (usesN i).testBit a <;> simp
  · refine eq_bits fun a => ?_
    rw [testBit_but, Nat.testBit_or, Nat.zero_testBit]
    cases (usesN i).testBit a <;> simp
theorem live_jump {k : Nat} (hi : q.code[k]? = some i) (h3 : i.op = 3) : (liveL q).getD k 0 = (liveL q).getD i.n.toNat 0 := by
  have hn : nextL q k = [i.n.toNat] := by unfold nextL; rw [hi]; simp only [nextI]; rw [if_pos h3]
  rw [live_at hi, hn, show setsN i = 0 by simp [setsN, h3], show usesN i = 0 by simp [usesN, h3]]
  refine eq_bits fun a => ?_
  rw [Nat.testBit_or, testBit_but, Nat.zero_testBit]
  simp [behN]
/-! ### A use more -/
def useQ (q : PProg) (k : Nat) (x : Nat) : PProg := { q with code := q.code.set k ⟨15, 7, x, x, 0⟩ }
theorem useQ_at {k x j : Nat} (hk : k < q.code.length) : (useQ q k x).code[j]? = if k = j then some ⟨15, 7, x, x, 0⟩ else q.code[j]? := by
  show (q.code.set k _)[j]? = _
  rw [List.getElem?_set]
  by_cases h : k = j
  · rw [if_pos h, if_pos h, if_pos (by omega)]
  · rw [if_neg h, if_neg h]
theorem useQ_next {k x : Nat} (hi : q.code[k]? = some i) (h14 : i.op = 14) (j : Nat) : nextL (useQ q k x) j = nextL q j := by
  have hk := (List.getElem?_eq_some_iff.1 hi).1
  unfold nextL
  rw [useQ_at hk]
  by_cases h : k = j
  · subst h
    rw [if_pos rfl, hi]
    simp only [nextI]
    rw [if_neg (by decide), if_neg (by decide), if_neg (by rw [h14]; decide), if_neg (by rw [h14]; decide)]
  · rw [if_neg h]
theorem useQ_more {k x : Nat} (hi : q.code[k]? = some i) (h14 : i.op = 14) {a j : Nat} (h : Lv q a j) : Lv (useQ q k x) a j := by
  have hk := (List.getElem?_eq_some_iff.1 hi).1
  obtain ⟨m, hm⟩ := h
  have hu : ∀ j, (usesK q j).testBit a = true → (usesK (useQ q k x) j).testBit a = true := by
    intro j h
    unfold usesK at h ⊢
    rw [useQ_at hk]
    by_cases e : k = j
    · subst e
      rw [hi] at h
      simp only [show usesN i = 0 by simp [usesN, h14], Nat.zero_testBit] at h
      cases h
    · rw [if_neg e]; exact h
  have hs : ∀ j, (setsK q j).testBit a = false → (setsK (useQ q k x) j).testBit a = false := by
    intro j h
    unfold setsK at h ⊢
    rw [useQ_at hk]
    by_cases e : k = j
    · rw [if_pos e]; simp [setsN]
    · rw [if_neg e]; exact h
  refine ⟨m, ?_⟩
  induction m generalizing j with
  | zero => exact hu j hm
  | succ m ih =>
    obtain ⟨h1, n, hn, h2⟩ := hm
    exact ⟨hs j h1, n, by rw [useQ_next hi h14]; exact hn, ih h2⟩
theorem useQ_live {k x : Nat} (hi : q.code[k]? = some i) (h14 : i.op = 14) (j : Nat) : butN ((liveL q).getD j 0) ((liveL (useQ q k x)).getD j 0) = 0 := by
  refine eq_bits fun a => ?_
  rw [testBit_but, Nat.zero_testBit]
  rcases h : ((liveL q).getD j 0).testBit a with _ | _
  · rfl
  · rw [(live_iff a j).2 (useQ_more hi h14 ((live_iff a j).1 h))]; rfl
theorem useQ_at_k {k x : Nat} (hi : q.code[k]? = some i) (hx : x ≤ 7) : ((liveL (useQ q k x)).getD k 0).testBit x = true := by
  have hk := (List.getElem?_eq_some_iff.1 hi).1
  refine (live_iff x k).2 ⟨0, ?_⟩
  show (usesK (useQ q k x) k).testBit x = true
  rw [usesK_at (i := ⟨15, 7, x, x, 0⟩) (by rw [useQ_at hk, if_pos rfl])]
  simp only [usesN]
  rw [if_neg (by decide), if_neg (by decide), if_neg (by decide), if_pos trivial, Nat.testBit_or, testBit_bit]
  simp; omega
theorem useQ_in {k x : Nat} (hin : InP q) : InP (useQ q k x) := by
  intro i hi ho
  have hl : (useQ q k x).code.length = q.code.length := by show (q.code.set k _).length = _; simp
  rw [hl]
  rcases List.mem_or_eq_of_mem_set hi with h | rfl
  · exact hin i h ho
  · rcases ho with h | h <;> cases h
end
end Go.Proofs.YtijgpfimdlnkiaaDoor
