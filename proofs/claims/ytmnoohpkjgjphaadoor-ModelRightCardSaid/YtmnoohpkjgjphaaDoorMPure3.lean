/-
  The model, in plain lists: what a step keeps.
-/
import Derived.Test.YtmnoohpkjgjphaaDoorMPure2
namespace Go.Proofs.YtmnoohpkjgjphaaDoor
set_option linter.unusedSimpArgs false
set_option linter.unusedVariables false

theorem byOp_cases' {op : Int} {o : Int × Bs × Bs} (h : byOpL op = some o) : op = 1 ∨ op = 2 ∨ op = 3 ∨ op = 4 ∨ op = 5 ∨ op = 6 ∨ op = 7 ∨ op = 8 ∨ op = 9 ∨ op = 10 ∨ op = 11 ∨ op = 12 ∨ op = 13 ∨ op = 14 ∨ op = 15 := by
  obtain ⟨hm, rfl⟩ := byOp_mem h
  have h0 : OPS.all (fun o => decide (1 ≤ o.1) && decide (o.1 ≤ 15)) = true := by decide
  have := List.all_eq_true.1 h0 o hm
  simp only [Bool.and_eq_true, decide_eq_true_eq] at this
  omega
theorem right_op' {i : PIns} (h : rightL i = true) : i.op = 1 ∨ i.op = 2 ∨ i.op = 3 ∨ i.op = 4 ∨ i.op = 5 ∨ i.op = 6 ∨ i.op = 7 ∨ i.op = 8 ∨ i.op = 9 ∨ i.op = 10 ∨ i.op = 11 ∨ i.op = 12 ∨ i.op = 13 ∨ i.op = 14 ∨ i.op = 15 := by
  unfold rightL at h
  rcases ho : byOpL i.op with _ | o
  · rw [ho] at h; cases h
  · exact byOp_cases' ho
theorem ins_parts {q : PProg} {n : Int} {i : PIns} (h : insE q n i = 0) : rightL i = true ∧ (jumpI i = true → 0 ≤ i.n ∧ i.n ≤ n) ∧ intsB i = true ∧ kindsB q i = true := by
  unfold insE at h
  by_cases h1 : rightL i = false
  · rw [if_pos h1] at h; cases h
  · rw [if_neg h1] at h
    by_cases h2 : jumpI i = true ∧ (i.n < 0 ∨ n < i.n)
    · rw [if_pos h2] at h; cases h
    · rw [if_neg h2] at h
      by_cases h3 : (intsB i && kindsB q i) = false
      · rw [if_pos h3] at h; cases h
      · have h3' : (intsB i && kindsB q i) = true := by simpa using h3
        simp only [Bool.and_eq_true] at h3'
        refine ⟨by simpa using h1, fun hj => ?_, h3'.1, h3'.2⟩
        constructor <;> (refine Int.not_lt.1 fun hn => h2 ⟨hj, ?_⟩)
        · exact .inl hn
        · exact .inr hn
theorem same_parts {s t : Int} (h : sameT s t = true) : 0 ≤ s ∧ s = t := by
  unfold sameT at h
  simpa using h
theorem num_parts {ts : List Bs} {t n : Int} (h : numF ts t n = true) : 0 ≤ n ∧ n < sizeP ts t ∧ toP ts t n < 0 := by
  unfold numF at h
  simp only [Bool.and_eq_true, decide_eq_true_eq] at h
  exact ⟨h.1.1, h.1.2, h.2⟩
theorem toP_has {ts : List Bs} {t n : Int} (h : 0 ≤ toP ts t n) : 0 ≤ n ∧ n < sizeP ts t := by
  unfold toP toI at h
  split at h
  · next e =>
    unfold sizeP sizeI
    rw [if_pos e.1]; exact ⟨e.2.1, e.2.2⟩
  · omega
section
variable {q : PProg} {s : PSt} {ts : List Nat} {i : PIns}
theorem local_lt (hh : headB q = true) {a : Int} (h0 : 0 ≤ a) (h : 0 ≤ localI q a) : a < q.locals.length ∧ localI q a < q.types.length :=
  ⟨(names_lt (head_parts hh).1 h0).1.1 h, (names_lt (head_parts hh).1 h0).2⟩
theorem glob_lt (hh : headB q = true) {a : Int} (h0 : 0 ≤ a) (h : 0 ≤ globI q a) : a < q.globs.length ∧ globI q a < q.types.length :=
  ⟨(names_lt (head_parts hh).2.1 h0).1.1 h, (names_lt (head_parts hh).2.1 h0).2⟩
theorem InvS.pA (h : InvS q s ts) (hh : headB q = true) {a : Int} (h0 : 0 ≤ a) (hl : 0 ≤ localI q a) : PtrOk ts (pA s a) (localI q a) := by
  have := h.pl a.toNat (by have := (local_lt hh h0 hl).1; omega)
  rw [Int.toNat_of_nonneg h0] at this; exact this
theorem InvS.gA (h : InvS q s ts) (hh : headB q = true) {a : Int} (h0 : 0 ≤ a) (hl : 0 ≤ globI q a) : PtrOk ts (gA s a) (globI q a) := by
  have := h.gl a.toNat (by have := (glob_lt hh h0 hl).1; omega)
  rw [Int.toNat_of_nonneg h0] at this; exact this
theorem InvS.xA (h : InvS q s ts) {a : Int} (h8 : a < 8) (_h0 : 0 ≤ a) : I64 (xA s a) := by
  refine h.ix _ ?_
  unfold Go.Proofs.YtmnoohpkjgjphaaDoor.xA
  exact getD_mem' (by rw [h.lx]; omega)
/-- The object that a pointer of some type has. -/
theorem InvS.obj (h : InvS q s ts) {v t : Int} (hp : PtrOk ts v t) (hv : v ≠ 0) : 1 ≤ v ∧ v ≤ ts.length ∧ ((ts.getD (v.toNat - 1) 0 : Nat) : Int) = t ∧ ((objA s.objs v).length : Int) = sizeP q.types t := by
  rcases hp with hp | ⟨h1, h2, h3⟩
  · exact absurd hp hv
  · refine ⟨h1, h2, h3, ?_⟩
    have := h.os (v.toNat - 1) (by omega)
    rw [h3] at this; exact this
theorem wr64_I (n : Int) : I64 (wr64 n) := by unfold wr64 I64; omega
theorem step_inv (h : InvS q s ts) (hh : headB q = true) (ho : OkI i) {n : Int} (he : insE q n i = 0) (hlen : ts.length < 9223372036854775807) {t : PSt} (hd : doI q s i = some t) :
    ∃ ts', InvS q t ts' ∧ (∃ e, ts' = ts ++ e) ∧ ts'.length ≤ ts.length + 1 := by
  obtain ⟨hr, _, hi, hk⟩ := ins_parts he
  obtain ⟨o0, o1, a0, a1, b0, b1, c0, c1, n0, n1⟩ := ho
  have same : ∀ {t : PSt}, InvS q t ts → ∃ ts', InvS q t ts' ∧ (∃ e, ts' = ts ++ e) ∧ ts'.length ≤ ts.length + 1 := fun h => ⟨ts, h, ⟨[], by simp⟩, by omega⟩
  rcases right_op' hr with e | e | e | e | e | e | e | e | e | e | e | e | e | e | e
  · rw [doI_1 e] at hd; obtain rfl := Option.some.inj hd
    exact same (inv_x h ⟨n0, n1⟩)
  · rw [doI_2 e] at hd; obtain rfl := Option.some.inj hd
    exact same (inv_x h (wr64_I _))
  · rw [doI_3 e] at hd; obtain rfl := Option.some.inj hd
    exact same (inv_pc h _)
  · rw [doI_4 e] at hd; obtain rfl := Option.some.inj hd
    split
    · exact same (inv_pc h _)
    · exact same h
  · rw [doI_5 e] at hd; obtain rfl := Option.some.inj hd
    have hl : 0 ≤ localI q i.a := by unfold kindsB at hk; rw [e] at hk; simpa using hk
    obtain ⟨h1, h2⟩ := local_lt hh a0 hl
    have hr' := (refs_list.1 (head_parts hh).1).1
    have hn := inv_new h (t := (localI q i.a).toNat) (by omega) hr'
    rw [Int.toNat_of_nonneg hl] at hn
    refine ⟨ts ++ [(localI q i.a).toNat], inv_p hn a0 h1 ?_, ⟨_, rfl⟩, by simp⟩
    have hlo := h.lo
    refine .inr ⟨by omega, by simp; omega, ?_⟩
    rw [show ((s.objs.length : Int) + 1).toNat - 1 = ts.length by rw [h.lo]; omega, getD_app, if_neg (by omega), if_pos rfl, Int.toNat_of_nonneg hl]
  · rw [doI_6 e] at hd; obtain rfl := Option.some.inj hd
    have hl : 0 ≤ localI q i.a := by unfold kindsB at hk; rw [e] at hk; simpa using hk
    exact same (inv_p h a0 (local_lt hh a0 hl).1 (.inl rfl))
  · rw [doI_7 e] at hd; obtain rfl := Option.some.inj hd
    have hl : sameT (localI q i.a) (localI q i.b) = true := by unfold kindsB at hk; rw [e] at hk; simpa using hk
    obtain ⟨h1, h2⟩ := same_parts hl
    exact same (inv_p h a0 (local_lt hh a0 h1).1 (by rw [h2]; exact h.pA hh b0 (by omega)))
  · rw [doI_8 e] at hd
    have hl : 0 ≤ localI q i.b ∧ numF q.types (localI q i.b) i.n = true := by unfold kindsB at hk; rw [e] at hk; simpa using hk
    split at hd
    · cases hd
    · next hz =>
      obtain rfl := Option.some.inj hd
      obtain ⟨g1, g2, g3, g4⟩ := h.obj (h.pA hh b0 hl.1) hz
      obtain ⟨m1, m2, _⟩ := num_parts hl.2
      refine same (inv_x h (h.ov _ (show (pA s i.b).toNat - 1 < ts.length by omega) _ ?_))
      exact getD_mem' (by have : (objA s.objs (pA s i.b)).length = (s.objs.getD ((pA s i.b).toNat - 1) []).length := rfl; omega)
  · rw [doI_9 e] at hd
    have hl : 0 ≤ localI q i.a ∧ numF q.types (localI q i.a) i.n = true := by unfold kindsB at hk; rw [e] at hk; simpa using hk
    have hx : i.b < 8 := by unfold intsB at hi; rw [e] at hi; simpa using hi
    split at hd
    · cases hd
    · next hz =>
      obtain rfl := Option.some.inj hd
      obtain ⟨g1, g2, g3, g4⟩ := h.obj (h.pA hh a0 hl.1) hz
      obtain ⟨m1, m2, m3⟩ := num_parts hl.2
      exact same (inv_put h g1 g2 m1 (h.xA hx b0) (fun h9 => by rw [g3] at h9; omega))
  · rw [doI_10 e] at hd
    have hl : 0 ≤ localI q i.b ∧ sameT (localI q i.a) (toP q.types (localI q i.b) i.n) = true := by unfold kindsB at hk; rw [e] at hk; simpa using hk
    split at hd
    · cases hd
    · next hz =>
      obtain rfl := Option.some.inj hd
      obtain ⟨g1, g2, g3, g4⟩ := h.obj (h.pA hh b0 hl.1) hz
      obtain ⟨m1, m2⟩ := same_parts hl.2
      obtain ⟨f1, _⟩ := toP_has (ts := q.types) (t := localI q i.b) (n := i.n) (by omega)
      refine same (inv_p h a0 (local_lt hh a0 m1).1 ?_)
      have := h.op ((pA s i.b).toNat - 1) (by omega) i.n.toNat (by rw [g3, Int.toNat_of_nonneg f1]; omega)
      rw [g3, Int.toNat_of_nonneg f1, ← m2] at this
      exact this
  · rw [doI_11 e] at hd
    have hl : 0 ≤ localI q i.a ∧ sameT (localI q i.b) (toP q.types (localI q i.a) i.n) = true := by unfold kindsB at hk; rw [e] at hk; simpa using hk
    split at hd
    · cases hd
    · next hz =>
      obtain rfl := Option.some.inj hd
      obtain ⟨g1, g2, g3, g4⟩ := h.obj (h.pA hh a0 hl.1) hz
      obtain ⟨m1, m2⟩ := same_parts hl.2
      obtain ⟨f1, _⟩ := toP_has (ts := q.types) (t := localI q i.a) (n := i.n) (by omega)
      have hpb := h.pA hh b0 m1
      have hrg := hpb.range
      refine same (inv_put h g1 g2 f1 ⟨by omega, by omega⟩ (fun _ => ?_))
      rw [g3, ← m2]; exact hpb
  · rw [doI_12 e] at hd; obtain rfl := Option.some.inj hd
    have hl : sameT (localI q i.a) (globI q i.b) = true := by unfold kindsB at hk; rw [e] at hk; simpa using hk
    obtain ⟨h1, h2⟩ := same_parts hl
    exact same (inv_p h a0 (local_lt hh a0 h1).1 (by rw [h2]; exact h.gA hh b0 (by omega)))
  · rw [doI_13 e] at hd; obtain rfl := Option.some.inj hd
    have hl : sameT (localI q i.b) (globI q i.a) = true := by unfold kindsB at hk; rw [e] at hk; simpa using hk
    obtain ⟨h1, h2⟩ := same_parts hl
    exact same (inv_g h a0 (glob_lt hh a0 (by omega)).1 (by rw [← h2]; exact h.pA hh b0 h1))
  · rw [doI_14 e] at hd; obtain rfl := Option.some.inj hd
    have hx : i.a < 8 := by unfold intsB at hi; rw [e] at hi; simpa using hi
    exact same (inv_out h (h.xA hx a0))
  · rw [doI_15 e] at hd; obtain rfl := Option.some.inj hd
    exact same (inv_x h (by split <;> (unfold I64; omega)))
end
end Go.Proofs.YtmnoohpkjgjphaaDoor
