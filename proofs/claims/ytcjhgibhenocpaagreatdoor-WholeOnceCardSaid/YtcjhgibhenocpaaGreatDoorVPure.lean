/-
  Which pointer locals matter, in plain numbers: bits, one by one; by rounds and by ways.
-/
import Derived.Test.YtcjhgibhenocpaaGreatDoorUAO
namespace Go.Proofs.YtcjhgibhenocpaaGreatDoor
set_option linter.unusedSimpArgs false
set_option linter.unusedVariables false

/-- The bit of a pointer local. -/
def bitN (a : Int) : Nat := if 7 < a then 0 else 2 ^ a.toNat
def usesN (i : PIns) : Nat :=
  if i.op = 7 ∨ i.op = 8 ∨ i.op = 10 ∨ i.op = 13 then bitN i.b
  else if i.op = 9 then bitN i.a
  else if i.op = 11 then bitN i.a ||| bitN i.b
  else if i.op = 15 then bitN i.b ||| bitN i.c
  else 0
def setsN (i : PIns) : Nat := if i.op = 5 ∨ i.op = 6 ∨ i.op = 7 ∨ i.op = 10 ∨ i.op = 12 then bitN i.a else 0
/-- What the one has and the other hasn't. -/
def butN (m s : Nat) : Nat := m &&& (m ^^^ s)
theorem testBit_but (m s a : Nat) : (butN m s).testBit a = (m.testBit a && !s.testBit a) := by
  unfold butN
  rw [Nat.testBit_and, Nat.testBit_xor]
  cases m.testBit a <;> cases s.testBit a <;> rfl
theorem bit_lt (x : Int) : bitN x < 256 := by
  unfold bitN
  by_cases h : 7 < x
  · rw [if_pos h]; omega
  · rw [if_neg h]
    calc 2 ^ x.toNat ≤ 2 ^ 7 := Nat.pow_le_pow_right (by decide) (by omega)
      _ < 256 := by decide
theorem or_lt {a b : Nat} (ha : a < 256) (hb : b < 256) : a ||| b < 256 := Nat.or_lt_two_pow (n := 8) ha hb
theorem but_lt {a : Nat} (b : Nat) (ha : a < 256) : butN a b < 256 := by
  unfold butN; exact Nat.lt_of_le_of_lt Nat.and_le_left ha
theorem uses_lt (i : PIns) : usesN i < 256 := by
  unfold usesN
  split
  · exact bit_lt _
  · split
    · exact bit_lt _
    · split
      · exact or_lt (bit_lt _) (bit_lt _)
      · split
        · exact or_lt (bit_lt _) (bit_lt _)
        · omega
theorem sets_lt (i : PIns) : setsN i < 256 := by
  unfold setsN
  split
  · exact bit_lt _
  · omega
theorem testBit_hi {m : Nat} (h : m < 256) {a : Nat} (ha : 8 ≤ a) : m.testBit a = false :=
  Nat.testBit_lt_two_pow (Nat.lt_of_lt_of_le h (Nat.pow_le_pow_right (n := 2) (by decide) ha))
theorem eq_bits {m n : Nat} (h : ∀ a, m.testBit a = n.testBit a) : m = n := Nat.eq_of_testBit_eq h
section
variable {q : PProg}
def usesK (q : PProg) (k : Nat) : Nat := match q.code[k]? with
  | some i => usesN i
  | none => 0
def setsK (q : PProg) (k : Nat) : Nat := match q.code[k]? with
  | some i => setsN i
  | none => 0
theorem usesK_lt (k : Nat) : usesK q k < 256 := by
  unfold usesK; split
  · exact uses_lt _
  · omega
def behN (out : List Nat) (ns : List Nat) : Nat := ns.foldl (fun m n => m ||| out.getD n 0) 0
def flowN (q : PProg) (out : List Nat) (k : Nat) : Nat := butN (behN out (nextL q k)) (setsK q k) ||| usesK q k
def sweepN (q : PProg) (out : List Nat) (k : Nat) : List Nat := out.set k (flowN q out k)
def turnN (q : PProg) (out : List Nat) : List Nat := (List.range q.code.length).reverse.foldl (sweepN q) out
def turnsN (q : PProg) : Nat → List Nat → List Nat
  | 0, out => out
  | r + 1, out => turnsN q r (turnN q out)
def liveL (q : PProg) : List Nat := turnsN q (8 * q.code.length + 1) (List.replicate (q.code.length + 1) 0)

/-! ### Bit by bit -/
def pB (a : Nat) (out : List Nat) : List Bool := out.map (fun m => m.testBit a)
theorem pB_get (a : Nat) (out : List Nat) (k : Nat) : (pB a out).getD k false = (out.getD k 0).testBit a := by
  unfold pB
  rw [List.getD_eq_getElem?_getD, List.getD_eq_getElem?_getD, List.getElem?_map]
  cases out[k]? <;> simp
theorem pB_len (a : Nat) (out : List Nat) : (pB a out).length = out.length := by unfold pB; simp
theorem beh_bit (a : Nat) (out ns : List Nat) : (behN out ns).testBit a = ns.any (fun n => (pB a out).getD n false) := by
  have key : ∀ (ns : List Nat) (m : Nat), (ns.foldl (fun m n => m ||| out.getD n 0) m).testBit a = (m.testBit a || ns.any (fun n => (pB a out).getD n false)) := by
    intro ns
    induction ns with
    | nil => intro m; simp
    | cons n ns ih =>
      intro m
      rw [List.foldl_cons, ih, Nat.testBit_or, List.any_cons, pB_get, Bool.or_assoc]
  rw [behN, key, Nat.zero_testBit, Bool.false_or]
def flowB (q : PProg) (a : Nat) (had : List Bool) (k : Nat) : Bool := ((nextL q k).any (fun n => had.getD n false) && !(setsK q k).testBit a) || (usesK q k).testBit a
theorem flow_bit (a : Nat) (out : List Nat) (k : Nat) : (flowN q out k).testBit a = flowB q a (pB a out) k := by
  unfold flowN flowB
  rw [Nat.testBit_or, testBit_but, beh_bit]
def sweepB (q : PProg) (a : Nat) (had : List Bool) (k : Nat) : List Bool := had.set k (flowB q a had k)
def turnB (q : PProg) (a : Nat) (had : List Bool) : List Bool := (List.range q.code.length).reverse.foldl (sweepB q a) had
def turnsB (q : PProg) (a : Nat) : Nat → List Bool → List Bool
  | 0, had => had
  | r + 1, had => turnsB q a r (turnB q a had)
theorem sweep_bit (a : Nat) (out : List Nat) (k : Nat) : pB a (sweepN q out k) = sweepB q a (pB a out) k := by
  unfold sweepN sweepB
  rw [← flow_bit]
  unfold pB
  rw [List.map_set]
theorem sweeps_bit (a : Nat) (ks : List Nat) (out : List Nat) : pB a (ks.foldl (sweepN q) out) = ks.foldl (sweepB q a) (pB a out) := by
  induction ks generalizing out with
  | nil => rfl
  | cons k ks ih => rw [List.foldl_cons, List.foldl_cons, ih, sweep_bit]
theorem turns_bit (a : Nat) (r : Nat) (out : List Nat) : pB a (turnsN q r out) = turnsB q a r (pB a out) := by
  induction r generalizing out with
  | zero => rfl
  | succ r ih => unfold turnsN turnsB; rw [ih]; unfold turnN turnB; rw [sweeps_bit]
/-- A way on which it is not set, to a place where it is used. -/
def LvN (q : PProg) (a : Nat) : Nat → Nat → Prop
  | 0, k => (usesK q k).testBit a = true
  | m + 1, k => (setsK q k).testBit a = false ∧ ∃ n, n ∈ nextL q k ∧ LvN q a m n
def Lv (q : PProg) (a k : Nat) : Prop := ∃ m, LvN q a m k
def LvB (q : PProg) (a : Nat) (had : List Bool) : Prop := ∀ k, had.getD k false = true → Lv q a k
/-- Nothing is told without a reason. -/
def JustB (q : PProg) (a : Nat) (had : List Bool) : Prop := ∀ k, had.getD k false = true → flowB q a had k = true
theorem flow_mono {a : Nat} {x y : List Bool} (h : leB x y) {k : Nat} (hf : flowB q a x k = true) : flowB q a y k = true := by
  unfold flowB at hf ⊢
  simp only [Bool.or_eq_true, Bool.and_eq_true, List.any_eq_true] at hf ⊢
  exact hf.imp (fun ⟨⟨n, hn, h1⟩, h2⟩ => ⟨⟨n, hn, h.2 n h1⟩, h2⟩) id
theorem getD_setF {l : List Bool} {k j : Nat} {v : Bool} : (l.set k v).getD j false = if k = j ∧ k < l.length then v else l.getD j false := by
  rw [List.getD_eq_getElem?_getD, List.getElem?_set]
  by_cases h : k = j
  · subst h
    by_cases h2 : k < l.length
    · simp [h2]
    · simp [h2, List.getElem?_eq_none (Nat.le_of_not_lt h2)]
  · simp [h]
theorem sweep_le {a : Nat} {had : List Bool} (h : JustB q a had) (k : Nat) : leB had (sweepB q a had k) := by
  refine ⟨by unfold sweepB; simp, fun j hj => ?_⟩
  unfold sweepB
  rw [getD_setF]
  split
  · next e => rw [e.1]; exact h j hj
  · exact hj
theorem sweep_just {a : Nat} {had : List Bool} (h : JustB q a had) (k : Nat) : JustB q a (sweepB q a had k) := by
  intro j hj
  refine flow_mono (sweep_le h k) ?_
  unfold sweepB at hj
  rw [getD_setF] at hj
  split at hj
  · next e => rw [← e.1]; exact hj
  · exact h j hj
theorem sweep_lv {a : Nat} {had : List Bool} (h : LvB q a had) (k : Nat) : LvB q a (sweepB q a had k) := by
  intro j hj
  unfold sweepB at hj
  rw [getD_setF] at hj
  split at hj
  · next e =>
    rw [← e.1]
    unfold flowB at hj
    simp only [Bool.or_eq_true, Bool.and_eq_true, List.any_eq_true, Bool.not_eq_true'] at hj
    rcases hj with ⟨⟨n, hn, h1⟩, h2⟩ | h2
    · obtain ⟨m, hm⟩ := h n h1
      exact ⟨m + 1, h2, n, hn, hm⟩
    · exact ⟨0, h2⟩
  · exact h j hj
theorem sweeps_all {a : Nat} (ks : List Nat) {had : List Bool} (h : JustB q a had) (h2 : LvB q a had) : leB had (ks.foldl (sweepB q a) had) ∧ JustB q a (ks.foldl (sweepB q a) had) ∧ LvB q a (ks.foldl (sweepB q a) had) := by
  induction ks generalizing had with
  | nil => exact ⟨leB_refl _, h, h2⟩
  | cons k ks ih =>
    obtain ⟨h3, h4, h5⟩ := ih (sweep_just h k) (sweep_lv h2 k)
    exact ⟨(sweep_le h k).trans h3, h4, h5⟩
def FixB (q : PProg) (a : Nat) (had : List Bool) : Prop := ∀ k, k < q.code.length → had.getD k false = flowB q a had k
/-- A turn that changes nothing. -/
theorem fix_of_same {a : Nat} {had : List Bool} (hl : had.length = q.code.length + 1) (hj : JustB q a had) (hv : LvB q a had) (h : turnB q a had = had) : FixB q a had := by
  intro k hk
  unfold turnB at h
  have hsplit : ∃ l1 l2, (List.range q.code.length).reverse = l1 ++ k :: l2 := List.append_of_mem (by simp [hk])
  obtain ⟨l1, l2, e⟩ := hsplit
  rw [e, List.foldl_append, List.foldl_cons] at h
  obtain ⟨a1, a2, a3⟩ := sweeps_all l1 hj hv
  have b1 := sweep_le a2 k
  obtain ⟨c1, _, _⟩ := sweeps_all l2 (sweep_just a2 k) (sweep_lv a3 k)
  rw [h] at c1
  have e1 : l1.foldl (sweepB q a) had = had := leB.eq (b1.trans c1) a1
  rw [e1] at b1 c1
  have e2 : sweepB q a had k = had := leB.eq c1 b1
  have e3 := congrArg (fun l => l.getD k false) e2
  have e4 : (sweepB q a had k).getD k false = flowB q a had k := by unfold sweepB; rw [getD_setF, if_pos ⟨rfl, by omega⟩]
  rw [← e4]; exact e3.symm
theorem turns_same {a : Nat} (r : Nat) {had : List Bool} (h : turnB q a had = had) : turnsB q a r had = had := by
  induction r with
  | zero => rfl
  | succ r ih => unfold turnsB; rw [h]; exact ih
theorem turns_fix {a : Nat} : ∀ (r : Nat) (had : List Bool), had.length = q.code.length + 1 → JustB q a had → LvB q a had → q.code.length + 1 ≤ cnt had + r →
    FixB q a (turnsB q a r had) ∧ LvB q a (turnsB q a r had) ∧ (turnsB q a r had).length = q.code.length + 1
  | 0, had, hl, hj, hv, hc => by
    have hcm := cnt_max had
    have hall : had = List.replicate had.length true := by
      have : cnt had = had.length := by omega
      exact List.eq_replicate_iff.2 ⟨rfl, fun b hb => by have := List.countP_eq_length.1 this b hb; simpa using this⟩
    refine ⟨fun k hk => ?_, hv, hl⟩
    have ht : had.getD k false = true := by rw [hall, List.getD_eq_getElem?_getD, List.getElem?_replicate, if_pos (by omega)]; rfl
    show had.getD k false = flowB q a had k
    rw [ht, hj k ht]
  | r + 1, had, hl, hj, hv, hc => by
    obtain ⟨a1, a2, a3⟩ := sweeps_all (List.range q.code.length).reverse hj hv
    by_cases hs : turnB q a had = had
    · rw [turns_same _ hs]; exact ⟨fix_of_same hl hj hv hs, hv, hl⟩
    · have h1 := cnt_le a1
      have hne : cnt had ≠ cnt (turnB q a had) := fun e => hs (h1.2 e).symm
      have h2 : cnt had ≤ cnt (turnB q a had) := h1.1
      exact turns_fix r (turnB q a had) (by rw [show (turnB q a had).length = had.length from a1.1.symm]; exact hl) a2 a3 (by omega)
theorem nextL_lt {k n : Nat} (h : n ∈ nextL q k) : k < q.code.length := by
  unfold nextL at h
  rcases hi : q.code[k]? with _ | i
  · rw [hi] at h; cases h
  · exact (List.getElem?_eq_some_iff.1 hi).1
theorem usesK_in {k a : Nat} (h : (usesK q k).testBit a = true) : k < q.code.length := by
  unfold usesK at h
  rcases hi : q.code[k]? with _ | i
  · rw [hi] at h; simp at h
  · exact (List.getElem?_eq_some_iff.1 hi).1
theorem Lv.lt {a k : Nat} (h : Lv q a k) : k < q.code.length := by
  obtain ⟨m, hm⟩ := h
  cases m with
  | zero => exact usesK_in hm
  | succ m => obtain ⟨_, n, hn, _⟩ := hm; exact nextL_lt hn
theorem fix_iff {a : Nat} {had : List Bool} (hf : FixB q a had) (hv : LvB q a had) (k : Nat) : had.getD k false = true ↔ Lv q a k := by
  refine ⟨hv k, ?_⟩
  rintro ⟨m, hm⟩
  induction m generalizing k with
  | zero =>
    rw [hf k (usesK_in hm)]
    unfold flowB
    rw [show (usesK q k).testBit a = true from hm, Bool.or_true]
  | succ m ih =>
    obtain ⟨hs, n, hn, hm'⟩ := hm
    rw [hf k (nextL_lt hn)]
    unfold flowB
    simp only [Bool.or_eq_true, Bool.and_eq_true, List.any_eq_true, Bool.not_eq_true']
    exact .inl ⟨⟨n, hn, ih n hm'⟩, hs⟩
theorem getD_rep0 (n k : Nat) : (List.replicate n (0 : Nat)).getD k 0 = 0 := by
  rw [List.getD_eq_getElem?_getD, List.getElem?_replicate]
  split <;> rfl
theorem live_len : (liveL q).length = q.code.length + 1 := by
  have h : ∀ (r : Nat) (out : List Nat), (turnsN q r out).length = out.length := by
    intro r
    induction r with
    | zero => intro out; rfl
    | succ r ih =>
      intro out
      unfold turnsN
      rw [ih]
      unfold turnN
      generalize (List.range q.code.length).reverse = ks
      induction ks generalizing out with
      | nil => rfl
      | cons k ks ih2 => rw [List.foldl_cons, ih2]; unfold sweepN; simp
  unfold liveL
  rw [h, List.length_replicate]
/-- What matters at a place is what is used on some way from it ahead of being set. -/
theorem live_iff (a k : Nat) : ((liveL q).getD k 0).testBit a = true ↔ Lv q a k := by
  rw [← pB_get]
  have h0 : ∀ k, (pB a (List.replicate (q.code.length + 1) 0)).getD k false = false := fun k => by rw [pB_get, getD_rep0, Nat.zero_testBit]
  have hz := turns_fix (q := q) (a := a) (8 * q.code.length + 1) (pB a (List.replicate (q.code.length + 1) 0)) (by rw [pB_len]; simp) (fun k hk => by rw [h0 k] at hk; cases hk) (fun k hk => by rw [h0 k] at hk; cases hk) (by omega)
  unfold liveL
  rw [turns_bit]
  exact fix_iff hz.1 hz.2.1 k
/-! ### Whoever comes to the least sets -/
structure PartN (q : PProg) (out : List Nat) : Prop where
  len : out.length = q.code.length + 1
  lt : ∀ k, out.getD k 0 < 256
  just : ∀ a, JustB q a (pB a out)
  lv : ∀ a, LvB q a (pB a out)
theorem PartN.start : PartN q (List.replicate (q.code.length + 1) 0) := by
  have h0 : ∀ a k, (pB a (List.replicate (q.code.length + 1) 0)).getD k false = false := fun a k => by rw [pB_get, getD_rep0, Nat.zero_testBit]
  exact ⟨by simp, fun k => by rw [getD_rep0]; omega, fun a k hk => (by rw [h0 a k] at hk; cases hk), fun a k hk => (by rw [h0 a k] at hk; cases hk)⟩
theorem getD_setN {l : List Nat} {k j : Nat} {v : Nat} : (l.set k v).getD j 0 = if k = j ∧ k < l.length then v else l.getD j 0 := by
  rw [List.getD_eq_getElem?_getD, List.getElem?_set]
  by_cases h : k = j
  · subst h
    by_cases h2 : k < l.length
    · simp [h2]
    · simp [h2, List.getElem?_eq_none (Nat.le_of_not_lt h2)]
  · simp [h]
theorem beh_lt {out : List Nat} (h : ∀ k, out.getD k 0 < 256) (ns : List Nat) : behN out ns < 256 := by
  have key : ∀ (ns : List Nat) (m : Nat), m < 256 → ns.foldl (fun m n => m ||| out.getD n 0) m < 256 := by
    intro ns
    induction ns with
    | nil => intro m hm; exact hm
    | cons n ns ih => intro m hm; rw [List.foldl_cons]; exact ih _ (or_lt hm (h n))
  exact key ns 0 (by omega)
theorem flow_lt {out : List Nat} (h : ∀ k, out.getD k 0 < 256) (k : Nat) : flowN q out k < 256 := or_lt (but_lt _ (beh_lt h _)) (usesK_lt k)
theorem PartN.sweep {out : List Nat} (h : PartN q out) (k : Nat) : PartN q (sweepN q out k) := by
  refine ⟨by unfold sweepN; rw [List.length_set]; exact h.len, fun j => ?_, fun a => by rw [sweep_bit]; exact sweep_just (h.just a) k, fun a => by rw [sweep_bit]; exact sweep_lv (h.lv a) k⟩
  unfold sweepN
  rw [getD_setN]
  split
  · exact flow_lt h.lt k
  · exact h.lt j
def totN (out : List Nat) : Nat := cnt (pB 0 out) + cnt (pB 1 out) + cnt (pB 2 out) + cnt (pB 3 out) + cnt (pB 4 out) + cnt (pB 5 out) + cnt (pB 6 out) + cnt (pB 7 out)
theorem tot_max (out : List Nat) : totN out ≤ 8 * out.length := by
  have h : ∀ a, cnt (pB a out) ≤ out.length := fun a => by have := cnt_max (pB a out); rwa [pB_len] at this
  have := h 0; have := h 1; have := h 2; have := h 3; have := h 4; have := h 5; have := h 6; have := h 7
  unfold totN; omega
/-- Who changes a set has more. -/
theorem PartN.more {out : List Nat} (h : PartN q out) {k : Nat} (hk : k ≤ q.code.length) (hne : out.getD k 0 ≠ flowN q out k) : totN out < totN (sweepN q out k) := by
  have hs := h.sweep k
  have hc : ∀ a, cnt (pB a out) ≤ cnt (pB a (sweepN q out k)) ∧ (cnt (pB a out) = cnt (pB a (sweepN q out k)) → pB a out = pB a (sweepN q out k)) := fun a => cnt_le (by rw [sweep_bit]; exact sweep_le (h.just a) k)
  have h0 := hc 0; have h1 := hc 1; have h2 := hc 2; have h3 := hc 3; have h4 := hc 4; have h5 := hc 5; have h6 := hc 6; have h7 := hc 7
  rcases Nat.lt_or_ge (totN out) (totN (sweepN q out k)) with hlt | hge
  · exact hlt
  · exfalso
    unfold totN at hge
    have e0 := h0.2 (by omega); have e1 := h1.2 (by omega); have e2 := h2.2 (by omega); have e3 := h3.2 (by omega)
    have e4 := h4.2 (by omega); have e5 := h5.2 (by omega); have e6 := h6.2 (by omega); have e7 := h7.2 (by omega)
    have he : (sweepN q out k).getD k 0 = flowN q out k := by unfold sweepN; rw [getD_setN, if_pos ⟨rfl, by rw [h.len]; omega⟩]
    refine hne (eq_bits fun a => ?_)
    rw [← he, ← pB_get, ← pB_get]
    rcases Nat.lt_or_ge a 8 with h8 | h8
    · have : a = 0 ∨ a = 1 ∨ a = 2 ∨ a = 3 ∨ a = 4 ∨ a = 5 ∨ a = 6 ∨ a = 7 := by omega
      rcases this with rfl | rfl | rfl | rfl | rfl | rfl | rfl | rfl
      · rw [e0]
      · rw [e1]
      · rw [e2]
      · rw [e3]
      · rw [e4]
      · rw [e5]
      · rw [e6]
      · rw [e7]
    · rw [pB_get, pB_get, testBit_hi (h.lt k) h8, testBit_hi (hs.lt k) h8]
theorem PartN.done {out : List Nat} (h : PartN q out) (hf : ∀ k, k < q.code.length → out.getD k 0 = flowN q out k) : out = liveL q := by
  refine List.ext_getElem (by rw [h.len, live_len]) fun k h1 h2 => ?_
  have e1 : out[k] = out.getD k 0 := by rw [List.getD_eq_getElem?_getD, List.getElem?_eq_getElem h1]; rfl
  have e2 : (liveL q)[k] = (liveL q).getD k 0 := by rw [List.getD_eq_getElem?_getD, List.getElem?_eq_getElem h2]; rfl
  rw [e1, e2]
  refine eq_bits fun a => ?_
  rw [← pB_get, Bool.eq_iff_iff, live_iff]
  refine fix_iff (fun j hj => ?_) (h.lv a) k
  rw [pB_get, hf j hj, flow_bit]
end
end Go.Proofs.YtcjhgibhenocpaaGreatDoor
