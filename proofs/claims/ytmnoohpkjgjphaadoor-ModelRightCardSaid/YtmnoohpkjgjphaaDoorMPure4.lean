/-
  The model, in plain lists: states of a run; more fuel.
-/
import Derived.Test.YtmnoohpkjgjphaaDoorMPure3
namespace Go.Proofs.YtmnoohpkjgjphaaDoor
set_option linter.unusedSimpArgs false
set_option linter.unusedVariables false

/-- What is so behind k steps. -/
structure RunOk (q : PProg) (s : PSt) (ts : List Nat) (k : Nat) : Prop where
  inv : InvS q s ts
  pc : s.pc ≤ q.code.length
  st : s.steps = k
  lt : ts.length ≤ k
  lo : s.out.length ≤ k
theorem run_0 (q : PProg) : RunOk q st0 [] 0 := ⟨inv_0 q, Nat.zero_le _, rfl, Nat.le_refl _, Nat.le_refl _⟩
section
variable {q : PProg} {s t : PSt} {ts : List Nat} {k : Nat}
theorem step_one (hc : (checkL q).2 = 0) (h : RunOk q s ts k) : (s.pc = q.code.length ∧ stepL q s = (s, true, 0)) ∨
    ∃ i, q.code[s.pc]? = some i ∧ insE q q.code.length i = 0 ∧ ((doI q (onI s) i = none ∧ stepL q s = (s, false, 9)) ∨ ∃ t, doI q (onI s) i = some t ∧ stepL q s = (t, false, 0)) := by
  obtain ⟨_, _, _, hall, _⟩ := check_ok hc
  rcases step_cases hc h.pc with h1 | ⟨i, h1, h2, h3⟩
  · exact .inl h1
  · exact .inr ⟨i, h1, hall i h2, h3⟩
theorem run_next (hc : (checkL q).2 = 0) (hok : ∀ i ∈ q.code, OkI i) (hk : k < 9223372036854775807) (h : RunOk q s ts k) {i : PIns} (hi : q.code[s.pc]? = some i) (hd : doI q (onI s) i = some t) :
    ∃ ts', RunOk q t ts' (k + 1) ∧ ∃ e, ts' = ts ++ e := by
  obtain ⟨hh, _, _, hall, _⟩ := check_ok hc
  have hm := List.mem_of_getElem? hi
  have hlt := (List.getElem?_eq_some_iff.1 hi).1
  have he := hall i hm
  have hop := right_op' (ins_parts he).1
  obtain ⟨ts', h1, h2, h3⟩ := step_inv (inv_on h.inv) hh (hok i hm) he (by have := h.lt; omega) hd
  obtain ⟨g1, _, _, _, g5, g6, g7⟩ := doI_grow hop hd
  refine ⟨ts', ⟨h1, ?_, ?_, ?_, ?_⟩, h2⟩
  · rcases g5 with g5 | g5
    · rw [g5]; show s.pc + 1 ≤ _; omega
    · by_cases hj : jumpI i = true
      · have := (ins_parts he).2.1 hj
        rw [g5]; omega
      · by_cases e : t.pc = s.pc + 1
        · omega
        · exfalso
          have hj3 : i.op ≠ 3 ∧ i.op ≠ 4 := by unfold jumpI at hj; simp at hj; exact hj
          have : t.pc = (onI s).pc := by
            rcases hop with e | e | e | e | e | e | e | e | e | e | e | e | e | e | e
            · rw [doI_1 e] at hd; rw [← Option.some.inj hd]; rfl
            · rw [doI_2 e] at hd; rw [← Option.some.inj hd]; rfl
            · exact absurd e hj3.1
            · exact absurd e hj3.2
            · rw [doI_5 e] at hd; rw [← Option.some.inj hd]; rfl
            · rw [doI_6 e] at hd; rw [← Option.some.inj hd]; rfl
            · rw [doI_7 e] at hd; rw [← Option.some.inj hd]; rfl
            · rw [doI_8 e] at hd; split at hd
              · cases hd
              · rw [← Option.some.inj hd]; rfl
            · rw [doI_9 e] at hd; split at hd
              · cases hd
              · rw [← Option.some.inj hd]; rfl
            · rw [doI_10 e] at hd; split at hd
              · cases hd
              · rw [← Option.some.inj hd]; rfl
            · rw [doI_11 e] at hd; split at hd
              · cases hd
              · rw [← Option.some.inj hd]; rfl
            · rw [doI_12 e] at hd; rw [← Option.some.inj hd]; rfl
            · rw [doI_13 e] at hd; rw [← Option.some.inj hd]; rfl
            · rw [doI_14 e] at hd; rw [← Option.some.inj hd]
            · rw [doI_15 e] at hd; rw [← Option.some.inj hd]; rfl
          exact e this
  · rw [g1]; show s.steps + 1 = k + 1; have := h.st; omega
  · have := h.lt; omega
  · have := h.lo
    split at g7
    · rw [g7]
      show (s.out ++ [_]).length ≤ _
      simp; omega
    · rw [g7]; show s.out.length ≤ _; omega
/-- What is printed stays. -/
theorem step_out (hc : (checkL q).2 = 0) (h : RunOk q s ts k) : ∃ e, (stepL q s).1.out = s.out ++ e := by
  rcases step_one hc h with ⟨_, e⟩ | ⟨i, _, hz, ⟨_, e⟩ | ⟨t, hd, e⟩⟩
  · rw [e]; exact ⟨[], by simp⟩
  · rw [e]; exact ⟨[], by simp⟩
  · rw [e]
    have g7 := (doI_grow (right_op' (ins_parts hz).1) hd).2.2.2.2.2.2
    split at g7
    · exact ⟨_, g7⟩
    · exact ⟨[], by rw [g7]; simp [onI]⟩
theorem go_out (hc : (checkL q).2 = 0) (hok : ∀ i ∈ q.code, OkI i) : ∀ (n : Nat) (s : PSt) (ts : List Nat) (k : Nat), RunOk q s ts k → k + n < 9223372036854775807 → ∃ e, (goL q n s).1.out = s.out ++ e
  | 0, s, _, _, _, _ => by
    refine ⟨[], ?_⟩
    unfold goL; split
    · simp
    · split <;> simp
  | n + 1, s, ts, k, h, hk => by
    unfold goL
    split
    · exact ⟨[], by simp⟩
    · next hs =>
      rcases step_one hc h with ⟨_, e⟩ | ⟨i, hi, _, ⟨_, e⟩ | ⟨t, hd, e⟩⟩
      · rw [e] at hs; simp at hs
      · rw [e] at hs; simp at hs
      · obtain ⟨ts', h', _⟩ := run_next hc hok (by omega) h hi hd
        rw [e]
        obtain ⟨e1, h1⟩ := go_out hc hok n t ts' (k + 1) h' (by omega)
        obtain ⟨e2, h2⟩ := step_out hc h
        rw [e] at h2
        exact ⟨e2 ++ e1, by rw [h1]; simp only at h2; rw [h2, List.append_assoc]⟩
/-- With more fuel. -/
theorem go_more (hc : (checkL q).2 = 0) (hok : ∀ i ∈ q.code, OkI i) (m : Nat) : ∀ (n : Nat) (s : PSt) (ts : List Nat) (k : Nat), RunOk q s ts k → k + n + m < 9223372036854775807 →
    (∃ e, (goL q (n + m) s).1.out = (goL q n s).1.out ++ e) ∧ ((goL q n s).2 ≠ 10 → goL q (n + m) s = goL q n s)
  | 0, s, ts, k, h, hk => by
    have e0 : (goL q 0 s).1 = s := by
      unfold goL
      split
      · rfl
      · split <;> rfl
    refine ⟨?_, fun h10 => ?_⟩
    · rw [e0, Nat.zero_add]; exact go_out hc hok m s ts k h (by omega)
    · rw [Nat.zero_add]
      rcases m with _ | m
      · rfl
      · unfold goL at h10 ⊢
        by_cases h1 : (stepL q s).2.1 = true
        · rw [if_pos (.inl h1), if_pos h1]
          rcases step_one hc h with ⟨_, e⟩ | ⟨i, _, _, ⟨_, e⟩ | ⟨t, _, e⟩⟩
          · rw [e]
          · rw [e] at h1; cases h1
          · rw [e] at h1; cases h1
        · rw [if_neg h1] at h10 ⊢
          by_cases h2 : (stepL q s).2.2 ≠ 0
          · rw [if_pos (.inr h2), if_pos h2]
          · rw [if_neg h2] at h10; exact absurd rfl h10
  | n + 1, s, ts, k, h, hk => by
    rw [show n + 1 + m = (n + m) + 1 by omega]
    unfold goL
    by_cases h1 : (stepL q s).2.1 = true ∨ (stepL q s).2.2 ≠ 0
    · rw [if_pos h1, if_pos h1]; exact ⟨⟨[], by simp⟩, fun _ => rfl⟩
    · rw [if_neg h1, if_neg h1]
      rcases step_one hc h with ⟨_, e⟩ | ⟨i, hi, _, ⟨_, e⟩ | ⟨t, hd, e⟩⟩
      · rw [e] at h1; simp at h1
      · rw [e] at h1; simp at h1
      · obtain ⟨ts', h', _⟩ := run_next hc hok (by omega) h hi hd
        rw [e]
        exact go_more hc hok m n t ts' (k + 1) h' (by omega)
theorem go_err (hc : (checkL q).2 = 0) (hok : ∀ i ∈ q.code, OkI i) : ∀ (n : Nat) (s : PSt) (ts : List Nat) (k : Nat), RunOk q s ts k → k + n < 9223372036854775807 → (goL q n s).2 = 0 ∨ (goL q n s).2 = 9 ∨ (goL q n s).2 = 10
  | 0, s, ts, k, h, hk => by
    unfold goL
    rcases step_one hc h with ⟨_, e⟩ | ⟨i, hi, _, ⟨_, e⟩ | ⟨t, hd, e⟩⟩ <;> simp [e]
  | n + 1, s, ts, k, h, hk => by
    unfold goL
    rcases step_one hc h with ⟨_, e⟩ | ⟨i, hi, _, ⟨_, e⟩ | ⟨t, hd, e⟩⟩
    · simp [e]
    · simp [e]
    · rw [e, if_neg (by simp)]
      obtain ⟨ts', h', _⟩ := run_next hc hok (by omega) h hi hd
      exact go_err hc hok n t ts' (k + 1) h' (by omega)
end
/-- P6.3. -/
theorem law_further {q : PProg} (hok : ∀ i ∈ q.code, OkI i) (f m : Nat) (h : f + m < 9223372036854775807) :
    (∃ e, (runL q (f + m : Nat)).1 = (runL q f).1 ++ e) ∧ ((runL q f).2 ≠ 10 → runL q (f + m : Nat) = runL q f) := by
  unfold runL
  by_cases hc : (checkL q).2 ≠ 0
  · rw [if_pos (.inl hc), if_pos (.inl hc)]; exact ⟨⟨[], by simp⟩, fun _ => rfl⟩
  · have hc' : (checkL q).2 = 0 := Decidable.not_not.1 hc
    rw [if_neg (by omega), if_neg (by omega), Int.toNat_natCast, Int.toNat_natCast]
    obtain ⟨h1, h2⟩ := go_more hc' hok m f st0 [] 0 (run_0 q) (by omega)
    refine ⟨h1, fun h3 => ?_⟩
    rw [h2 h3]
end Go.Proofs.YtmnoohpkjgjphaaDoor
