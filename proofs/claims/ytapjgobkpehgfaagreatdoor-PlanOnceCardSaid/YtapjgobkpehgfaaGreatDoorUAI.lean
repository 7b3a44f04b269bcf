/-
  Which pointer locals are surely of new objects, in plain numbers: what an instruction makes of a set, bit by bit; the greatest sets, by rounds and by what holds of them.
  States that differ in pointer locals alone: what a step makes of them.
  What the statements ask of the least sets, in plain numbers.
-/
import Derived.Test.YtapjgobkpehgfaaGreatDoorUAH

/- Which pointer locals are surely of new objects, in plain numbers: what an instruction makes of a set, bit by bit; the greatest sets, by rounds and by what holds of them. -/
namespace Go.Proofs.YtapjgobkpehgfaaGreatDoor
set_option linter.unusedSimpArgs false
set_option linter.unusedVariables false

/-- What is left of a set by a safepoint. -/
def leftN (sf : Bool) (m : Nat) : Nat := if sf = true then 0 else m
def outI (i : PIns) (s : Nat) : Nat :=
  if i.op = 5 ∨ i.op = 6 then s ||| setsN i
  else if i.op = 7 then (if s &&& usesN i = 0 then butN s (setsN i) else s ||| setsN i)
  else if i.op = 10 ∨ i.op = 12 then butN s (setsN i)
  else s
theorem left_lt {sf : Bool} {m : Nat} (h : m < 256) : leftN sf m < 256 := by unfold leftN; split <;> omega
theorem outI_lt {i : PIns} {s : Nat} (h : s < 256) : outI i s < 256 := by
  unfold outI
  split
  · exact or_lt h (sets_lt i)
  · split
    · split
      · exact but_lt _ h
      · exact or_lt h (sets_lt i)
    · split
      · exact but_lt _ h
      · exact h
/-- An instruction makes this bit always. -/
def genI (i : PIns) (a : Nat) : Prop := (i.op = 5 ∨ i.op = 6) ∧ (setsN i).testBit a = true
/-- It makes this bit of that one. -/
def srcI (i : PIns) (a b : Nat) : Prop :=
  if i.op = 7 then (if (setsN i).testBit a = true then (usesN i).testBit b = true ∨ False else a = b)
  else if i.op = 10 ∨ i.op = 12 then a = b ∧ (setsN i).testBit a = false
  else a = b
theorem and_ne_zero {s u : Nat} : ¬ (s &&& u = 0) ↔ ∃ b, s.testBit b = true ∧ u.testBit b = true := by
  constructor
  · intro h
    rcases Classical.em (∃ b, s.testBit b = true ∧ u.testBit b = true) with h1 | h1
    · exact h1
    · exfalso
      refine h (eq_bits fun b => ?_)
      rw [Nat.testBit_and, Nat.zero_testBit]
      rcases hs : s.testBit b with _ | _
      · rfl
      · rcases hu : u.testBit b with _ | _
        · rfl
        · exact absurd ⟨b, hs, hu⟩ h1
  · rintro ⟨b, h1, h2⟩ h
    have h3 : (s &&& u).testBit b = true := by rw [Nat.testBit_and, h1, h2]; rfl
    rw [h, Nat.zero_testBit] at h3
    cases h3
theorem outI_iff (i : PIns) (s a : Nat) : (outI i s).testBit a = true ↔ genI i a ∨ ∃ b, srcI i a b ∧ s.testBit b = true := by
  unfold outI genI srcI
  by_cases h5 : i.op = 5 ∨ i.op = 6
  · have h7 : ¬ i.op = 7 := by omega
    have h10 : ¬ (i.op = 10 ∨ i.op = 12) := by omega
    rw [if_pos h5, Nat.testBit_or, Bool.or_eq_true]
    simp only [h5, h7, h10, if_false, true_and]
    constructor
    · rintro (h | h)
      · exact .inr ⟨a, rfl, h⟩
      · exact .inl h
    · rintro (h | ⟨b, rfl, h⟩)
      · exact .inr h
      · exact .inl h
  rw [if_neg h5]
  simp only [h5, false_and, false_or]
  by_cases h7 : i.op = 7
  · simp only [h7, if_true]
    by_cases hu : s &&& usesN i = 0
    · rw [if_pos hu, testBit_but]
      by_cases ha : (setsN i).testBit a = true
      · simp only [ha, if_true]
        constructor
        · intro h; simp at h
        · rintro ⟨b, h1 | h1, h2⟩
          · exact absurd hu (and_ne_zero.2 ⟨b, h2, h1⟩)
          · exact h1.elim
      · simp only [ha]
        constructor
        · intro h
          simp at h
          exact ⟨a, rfl, h⟩
        · rintro ⟨b, h1, h2⟩
          subst h1
          simp [h2]
    · rw [if_neg hu, Nat.testBit_or]
      by_cases ha : (setsN i).testBit a = true
      · simp only [ha, if_true, Bool.or_true, true_iff]
        obtain ⟨b, h1, h2⟩ := and_ne_zero.1 hu
        exact ⟨b, .inl h2, h1⟩
      · simp only [ha]
        constructor
        · intro h
          simp at h
          exact ⟨a, rfl, h⟩
        · rintro ⟨b, h1, h2⟩
          subst h1
          simp [h2]
  · rw [if_neg h7]
    simp only [h7, if_false]
    by_cases h10 : i.op = 10 ∨ i.op = 12
    · rw [if_pos h10, testBit_but]
      simp only [h10, if_true]
      constructor
      · intro h
        simp at h
        exact ⟨a, ⟨rfl, h.2⟩, h.1⟩
      · rintro ⟨b, ⟨rfl, h1⟩, h2⟩
        simp [h1, h2]
    · rw [if_neg h10]
      simp only [h10, if_false]
      exact ⟨fun h => ⟨a, rfl, h⟩, fun ⟨b, h1, h2⟩ => by rw [h1]; exact h2⟩
/-- Of more there comes no less. -/
def leN (x y : Nat) : Prop := ∀ a, x.testBit a = true → y.testBit a = true
theorem leN_refl (x : Nat) : leN x x := fun _ h => h
theorem leN.trans {x y z : Nat} (h : leN x y) (h2 : leN y z) : leN x z := fun a ha => h2 a (h a ha)
theorem leN.eq {x y : Nat} (h : leN x y) (h2 : leN y x) : x = y := eq_bits fun a => by rw [Bool.eq_iff_iff]; exact ⟨h a, h2 a⟩
theorem leN_and {x y : Nat} : leN (x &&& y) x := fun a h => by rw [Nat.testBit_and, Bool.and_eq_true] at h; exact h.1
theorem leN_and2 {x y : Nat} : leN (x &&& y) y := fun a h => by rw [Nat.testBit_and, Bool.and_eq_true] at h; exact h.2
theorem leN_zero (x : Nat) : leN 0 x := fun a h => by rw [Nat.zero_testBit] at h; cases h
section
variable {q : PProg}
def outN (q : PProg) (k m : Nat) : Nat := match q.code[k]? with
  | some i => outI i (leftN (safeL q k) m)
  | none => m
theorem outN_at {k m : Nat} {i : PIns} (h : q.code[k]? = some i) : outN q k m = outI i (leftN (safeL q k) m) := by unfold outN; rw [h]
theorem outN_lt {k m : Nat} (h : m < 256) : outN q k m < 256 := by
  unfold outN
  split
  · exact outI_lt (left_lt h)
  · exact h
/-! ### The greatest sets -/
def meetN (v : Nat) (out : List Nat) (n : Nat) : List Nat := out.set n (out.getD n 0 &&& v)
def sweepF (q : PProg) (out : List Nat) (k : Nat) : List Nat := (nextL q k).foldl (meetN (outN q k (out.getD k 0))) out
def turnF (q : PProg) (out : List Nat) : List Nat := (List.range q.code.length).foldl (sweepF q) out
def turnsF (q : PProg) : Nat → List Nat → List Nat
  | 0, out => out
  | r + 1, out => turnsF q r (turnF q out)
def freshL (q : PProg) : List Nat := turnsF q (8 * q.code.length + 1) (List.replicate (q.code.length + 1) 255)
def leF (x y : List Nat) : Prop := x.length = y.length ∧ ∀ n, leN (x.getD n 0) (y.getD n 0)
theorem leF_refl (x : List Nat) : leF x x := ⟨rfl, fun _ => leN_refl _⟩
theorem leF.trans {x y z : List Nat} (h : leF x y) (h2 : leF y z) : leF x z := ⟨h.1.trans h2.1, fun n => (h.2 n).trans (h2.2 n)⟩
theorem meet_get {v : Nat} {out : List Nat} {n j : Nat} : (meetN v out n).getD j 0 = if n = j ∧ n < out.length then out.getD n 0 &&& v else out.getD j 0 := by unfold meetN; exact getD_setN
theorem meet_le (v : Nat) (out : List Nat) (n : Nat) : leF (meetN v out n) out := by
  refine ⟨by unfold meetN; simp, fun j => ?_⟩
  rw [meet_get]
  split
  · next e => rw [← e.1]; exact leN_and
  · exact leN_refl _
theorem meets_le (v : Nat) (ns : List Nat) (out : List Nat) : leF (ns.foldl (meetN v) out) out := by
  induction ns generalizing out with
  | nil => exact leF_refl _
  | cons n ns ih => exact (ih _).trans (meet_le v out n)
theorem meets_in {v : Nat} {ns : List Nat} {out : List Nat} {n : Nat} (h : n ∈ ns) (hn : n < out.length) : leN ((ns.foldl (meetN v) out).getD n 0) v := by
  induction ns generalizing out with
  | nil => cases h
  | cons m ns ih =>
    rw [List.foldl_cons]
    rcases List.mem_cons.1 h with rfl | h
    · refine ((meets_le v ns (meetN v out n)).2 n).trans ?_
      rw [meet_get, if_pos ⟨rfl, hn⟩]
      exact leN_and2
    · exact ih h (by rw [(meet_le v out m).1]; exact hn)
theorem sweepF_le (out : List Nat) (k : Nat) : leF (sweepF q out k) out := meets_le _ _ _
theorem sweepsF_le (ks : List Nat) (out : List Nat) : leF (ks.foldl (sweepF q) out) out := by
  induction ks generalizing out with
  | nil => exact leF_refl _
  | cons n ns ih => exact (ih _).trans (sweepF_le out n)
theorem turnF_le (out : List Nat) : leF (turnF q out) out := sweepsF_le _ _
/-- Every way to a place has what is told of it. -/
def ClosedF (q : PProg) (out : List Nat) : Prop := ∀ k n, n ∈ nextL q k → n < out.length → leN (out.getD n 0) (outN q k (out.getD k 0))
/-- Surely so: told by some sets that every way keeps. -/
def SetsOk (q : PProg) (S : Nat → Nat) : Prop := ∀ k n, n ∈ nextL q k → leN (S n) (outN q k (S k))
/-- Nothing is taken away without a reason. -/
structure PartF (q : PProg) (out : List Nat) : Prop where
  len : out.length = q.code.length + 1
  lt : ∀ k, out.getD k 0 < 256
  sure : ∀ S, SetsOk q S → ∀ n, n ≤ q.code.length → ∀ a, a < 8 → (S n).testBit a = true → (out.getD n 0).testBit a = true
theorem bit255 {a : Nat} (h : a < 8) : (255 : Nat).testBit a = true := by
  have : a = 0 ∨ a = 1 ∨ a = 2 ∨ a = 3 ∨ a = 4 ∨ a = 5 ∨ a = 6 ∨ a = 7 := by omega
  rcases this with rfl | rfl | rfl | rfl | rfl | rfl | rfl | rfl <;> rfl
theorem getD_rep255 {n k : Nat} (h : k < n) : (List.replicate n (255 : Nat)).getD k 0 = 255 := by
  rw [List.getD_eq_getElem?_getD, List.getElem?_replicate, if_pos h]; rfl
theorem PartF.start : PartF q (List.replicate (q.code.length + 1) 255) := by
  refine ⟨by simp, fun k => ?_, fun S hS n hn a ha _ => ?_⟩
  · rcases Nat.lt_or_ge k (q.code.length + 1) with h | h
    · rw [getD_rep255 h]; omega
    · rw [List.getD_eq_getElem?_getD, List.getElem?_eq_none (by simpa using h)]; decide
  · rw [getD_rep255 (by omega)]; exact bit255 ha
/-- A set cut to its eight bits keeps what every way keeps. -/
theorem outN_cut {k x y a : Nat} (h : ∀ b, b < 8 → x.testBit b = true → y.testBit b = true) (ha : a < 8) (hx : (outN q k x).testBit a = true) : (outN q k y).testBit a = true := by
  unfold outN at hx ⊢
  rcases hi : q.code[k]? with _ | i
  · rw [hi] at hx; exact h a ha hx
  · rw [hi] at hx
    simp only at hx ⊢
    unfold leftN at hx ⊢
    by_cases hs : safeL q k = true
    · rw [if_pos hs] at hx ⊢; exact hx
    · rw [if_neg hs] at hx ⊢
      rw [outI_iff] at hx ⊢
      refine hx.imp id fun ⟨b, h1, h2⟩ => ⟨b, h1, h b ?_ h2⟩
      unfold srcI at h1
      rcases Nat.lt_or_ge b 8 with hb | hb
      · exact hb
      · exfalso
        split at h1
        · split at h1
          · rcases h1 with h1 | h1
            · rw [testBit_hi (uses_lt i) hb] at h1; cases h1
            · exact h1
          · omega
        · split at h1
          · omega
          · omega
theorem PartF.meet {out : List Nat} (h : PartF q out) {k n : Nat} (hk : k ≤ q.code.length) (hn : n ∈ nextL q k) {m : Nat} (hm : m < 256) (hs : ∀ S, SetsOk q S → ∀ a, a < 8 → (S k).testBit a = true → m.testBit a = true) : PartF q (meetN (outN q k m) out n) := by
  refine ⟨by unfold meetN; rw [List.length_set]; exact h.len, fun j => ?_, fun S hS j hj a ha hx => ?_⟩
  · rw [meet_get]
    split
    · exact Nat.lt_of_le_of_lt Nat.and_le_left (h.lt n)
    · exact h.lt j
  · rw [meet_get]
    split
    · next e =>
      obtain ⟨rfl, -⟩ := e
      rw [Nat.testBit_and, h.sure S hS n hj a ha hx, Bool.true_and]
      exact outN_cut (hs S hS) ha (hS k n hn a hx)
    · exact h.sure S hS j hj a ha hx
theorem PartF.meets {k m : Nat} (hk : k ≤ q.code.length) (hm : m < 256) (hs : ∀ S, SetsOk q S → ∀ a, a < 8 → (S k).testBit a = true → m.testBit a = true) : ∀ (ns : List Nat), (∀ n ∈ ns, n ∈ nextL q k) → ∀ {out : List Nat}, PartF q out → PartF q (ns.foldl (meetN (outN q k m)) out)
  | [], _, _, h => h
  | n :: ns, hn, _, h => PartF.meets hk hm hs ns (fun j hj => hn j (List.mem_cons_of_mem _ hj)) (h.meet hk (hn n List.mem_cons_self) hm hs)
theorem PartF.sweep {out : List Nat} (h : PartF q out) {k : Nat} (hk : k ≤ q.code.length) : PartF q (sweepF q out k) :=
  PartF.meets hk (h.lt k) (fun S hS a ha hx => h.sure S hS k hk a ha hx) _ (fun _ hn => hn) h
theorem PartF.sweeps : ∀ (ks : List Nat), (∀ k ∈ ks, k ≤ q.code.length) → ∀ {out : List Nat}, PartF q out → PartF q (ks.foldl (sweepF q) out)
  | [], _, _, h => h
  | k :: ks, hk, _, h => PartF.sweeps ks (fun j hj => hk j (List.mem_cons_of_mem _ hj)) (h.sweep (hk k List.mem_cons_self))
theorem PartF.turn {out : List Nat} (h : PartF q out) : PartF q (turnF q out) := PartF.sweeps _ (fun k hk => by have := List.mem_range.1 hk; omega) h
/-- A turn that changes no instruction's place is done. -/
theorem closed_of_same {out : List Nat} (hl : out.length = q.code.length + 1) (h : ∀ k, k < q.code.length → (turnF q out).getD k 0 = out.getD k 0) : ClosedF q (turnF q out) := by
  intro k n hn hnl
  have hk := nextL_lt hn
  obtain ⟨l1, l2, e⟩ : ∃ l1 l2, List.range q.code.length = l1 ++ k :: l2 := List.append_of_mem (by simp [hk])
  have hT : turnF q out = l2.foldl (sweepF q) (sweepF q (l1.foldl (sweepF q) out) k) := by unfold turnF; rw [e, List.foldl_append, List.foldl_cons]
  have h1 := sweepsF_le (q := q) l1 out
  have h2 := sweepF_le (q := q) (l1.foldl (sweepF q) out) k
  have h3 := sweepsF_le (q := q) l2 (sweepF q (l1.foldl (sweepF q) out) k)
  have h4 : (l1.foldl (sweepF q) out).getD k 0 = out.getD k 0 := by
    refine (h1.2 k).eq ?_
    rw [← h k hk, hT]
    exact (h3.trans h2).2 k
  have hlen : (l1.foldl (sweepF q) out).length = q.code.length + 1 := h1.1.trans hl
  have hn2 : n < (l1.foldl (sweepF q) out).length := by
    rw [hT, h3.1, h2.1] at hnl; exact hnl
  rw [h k hk]
  rw [hT]
  refine (h3.2 n).trans ?_
  have h5 := meets_in (v := outN q k ((l1.foldl (sweepF q) out).getD k 0)) hn hn2
  rw [h4] at h5
  have h6 : ∀ o : List Nat, o.getD k 0 = out.getD k 0 → sweepF q o k = (nextL q k).foldl (meetN (outN q k (out.getD k 0))) o := fun o ho => by unfold sweepF; rw [ho]
  rw [h6 _ h4]
  exact h5
theorem meet_same {v : Nat} {out : List Nat} {n : Nat} (h : leN (out.getD n 0) v) : meetN v out n = out := by
  have e : out.getD n 0 &&& v = out.getD n 0 := leN_and.eq fun a ha => by rw [Nat.testBit_and, ha, h a ha]; rfl
  unfold meetN
  rw [e]
  rcases Nat.lt_or_ge n out.length with h1 | h1
  · rw [List.getD_eq_getElem?_getD, List.getElem?_eq_getElem h1]
    simp
  · exact List.set_eq_of_length_le h1
theorem closed_sweep {out : List Nat} (h : ClosedF q out) (k : Nat) : sweepF q out k = out := by
  have key : ∀ ns : List Nat, (∀ n ∈ ns, n ∈ nextL q k) → ns.foldl (meetN (outN q k (out.getD k 0))) out = out := by
    intro ns
    induction ns with
    | nil => intro _; rfl
    | cons n ns ih =>
      intro hn
      have e : meetN (outN q k (out.getD k 0)) out n = out := by
        rcases Nat.lt_or_ge n out.length with h1 | h1
        · exact meet_same (h k n (hn n List.mem_cons_self) h1)
        · unfold meetN; exact List.set_eq_of_length_le h1
      rw [List.foldl_cons, e]
      exact ih fun j hj => hn j (List.mem_cons_of_mem _ hj)
  exact key _ fun _ h => h
theorem closed_turn {out : List Nat} (h : ClosedF q out) : turnF q out = out := by
  unfold turnF
  generalize List.range q.code.length = ks
  induction ks with
  | nil => rfl
  | cons k ks ih => rw [List.foldl_cons, closed_sweep h]; exact ih
theorem closed_turns {out : List Nat} (h : ClosedF q out) (r : Nat) : turnsF q r out = out := by
  induction r with
  | zero => rfl
  | succ r ih => unfold turnsF; rw [closed_turn h]; exact ih
theorem pB_le {x y : List Nat} (h : leF x y) (a : Nat) : leB (pB a x) (pB a y) := ⟨by rw [pB_len, pB_len]; exact h.1, fun k hk => by rw [pB_get] at hk ⊢; exact h.2 k a hk⟩
theorem tot_le {x y : List Nat} (h : leF x y) : totN x ≤ totN y ∧ (totN x = totN y → ∀ k a, a < 8 → (x.getD k 0).testBit a = (y.getD k 0).testBit a) := by
  have h0 := cnt_le (pB_le h 0); have h1 := cnt_le (pB_le h 1); have h2 := cnt_le (pB_le h 2); have h3 := cnt_le (pB_le h 3)
  have h4 := cnt_le (pB_le h 4); have h5 := cnt_le (pB_le h 5); have h6 := cnt_le (pB_le h 6); have h7 := cnt_le (pB_le h 7)
  unfold totN
  refine ⟨by omega, fun he k a ha => ?_⟩
  rw [← pB_get, ← pB_get]
  have : a = 0 ∨ a = 1 ∨ a = 2 ∨ a = 3 ∨ a = 4 ∨ a = 5 ∨ a = 6 ∨ a = 7 := by omega
  rcases this with rfl | rfl | rfl | rfl | rfl | rfl | rfl | rfl
  · rw [h0.2 (by omega)]
  · rw [h1.2 (by omega)]
  · rw [h2.2 (by omega)]
  · rw [h3.2 (by omega)]
  · rw [h4.2 (by omega)]
  · rw [h5.2 (by omega)]
  · rw [h6.2 (by omega)]
  · rw [h7.2 (by omega)]
theorem tot_eq {x y : List Nat} (h : leF x y) (hx : ∀ k, x.getD k 0 < 256) (hy : ∀ k, y.getD k 0 < 256) (he : totN x = totN y) (k : Nat) : x.getD k 0 = y.getD k 0 := by
  refine eq_bits fun a => ?_
  rcases Nat.lt_or_ge a 8 with ha | ha
  · exact (tot_le h).2 he k a ha
  · rw [testBit_hi (hx k) ha, testBit_hi (hy k) ha]
/-- Whoever takes something away has less. -/
theorem tot_less {x y : List Nat} (h : leF x y) (hx : ∀ k, x.getD k 0 < 256) (hy : ∀ k, y.getD k 0 < 256) (hne : ∃ k, x.getD k 0 ≠ y.getD k 0) : totN x < totN y := by
  rcases Nat.lt_or_ge (totN x) (totN y) with h1 | h1
  · exact h1
  · obtain ⟨k, hk⟩ := hne
    exact absurd (tot_eq h hx hy (Nat.le_antisymm (tot_le h).1 h1) k) hk
theorem getD_take {l : List Nat} {m k : Nat} : (l.take m).getD k 0 = if k < m then l.getD k 0 else 0 := by
  rw [List.getD_eq_getElem?_getD, List.getElem?_take]
  split
  · rw [List.getD_eq_getElem?_getD]
  · rfl
theorem leF_take {x y : List Nat} (h : leF x y) (m : Nat) : leF (x.take m) (y.take m) := by
  refine ⟨by rw [List.length_take, List.length_take, h.1], fun k => ?_⟩
  rw [getD_take, getD_take]
  split
  · exact h.2 k
  · exact leN_refl _
theorem turns_done : ∀ (r : Nat) (out : List Nat), PartF q out → 8 * q.code.length + 1 ≤ (8 * q.code.length - totN (out.take q.code.length)) + r → ClosedF q (turnsF q r out) ∧ PartF q (turnsF q r out)
  | 0, out, _, hc => by omega
  | r + 1, out, hp, hc => by
    have hp2 := hp.turn
    by_cases hs : ∀ k, k < q.code.length → (turnF q out).getD k 0 = out.getD k 0
    · have h1 := closed_of_same hp.len hs
      unfold turnsF
      rw [closed_turns h1]
      exact ⟨h1, hp2⟩
    · obtain ⟨k, hk⟩ := Classical.not_forall.1 hs
      obtain ⟨hkl, hne⟩ := Classical.not_imp.1 hk
      have hlt : totN ((turnF q out).take q.code.length) < totN (out.take q.code.length) := by
        refine tot_less (leF_take (turnF_le out) _) (fun k => ?_) (fun k => ?_) ⟨k, ?_⟩
        · rw [getD_take]; split
          · exact hp2.lt k
          · omega
        · rw [getD_take]; split
          · exact hp.lt k
          · omega
        · rw [getD_take, getD_take, if_pos hkl, if_pos hkl]; exact hne
      have hmax := tot_max (out.take q.code.length)
      have hl2 : (out.take q.code.length).length = q.code.length := by rw [List.length_take, hp.len]; omega
      rw [hl2] at hmax
      unfold turnsF
      exact turns_done r (turnF q out) hp2 (by omega)
theorem fresh_part : ClosedF q (freshL q) ∧ PartF q (freshL q) := turns_done _ _ PartF.start (by omega)
theorem fresh_len : (freshL q).length = q.code.length + 1 := fresh_part.2.len
theorem fresh_lt (k : Nat) : (freshL q).getD k 0 < 256 := fresh_part.2.lt k
/-- P9.2: each place has only what each way to it has. -/
theorem fresh_le (hin : InP q) {k n : Nat} (hn : n ∈ nextL q k) : leN ((freshL q).getD n 0) (outN q k ((freshL q).getD k 0)) :=
  fresh_part.1 k n hn (by rw [fresh_len]; have := (next_le hin hn).1; omega)
theorem closed_ok {out : List Nat} (hl : out.length = q.code.length + 1) (h : ClosedF q out) : SetsOk q fun n => if n ≤ q.code.length then out.getD n 0 else 0 := by
  intro k n hn
  have hk := nextL_lt hn
  simp only
  rw [if_pos (show k ≤ q.code.length by omega)]
  split
  · exact h k n hn (by omega)
  · exact leN_zero _
/-- Whoever keeps what is sure, and is closed, has the greatest sets. -/
theorem PartF.done {out : List Nat} (h : PartF q out) (hc : ClosedF q out) : out = freshL q := by
  refine List.ext_getElem (by rw [h.len, fresh_len]) fun k h1 h2 => ?_
  have e1 : out[k] = out.getD k 0 := by rw [List.getD_eq_getElem?_getD, List.getElem?_eq_getElem h1]; rfl
  have e2 : (freshL q)[k] = (freshL q).getD k 0 := by rw [List.getD_eq_getElem?_getD, List.getElem?_eq_getElem h2]; rfl
  rw [e1, e2]
  have hk : k ≤ q.code.length := by have := h.len; omega
  refine leN.eq (fun a ha => ?_) (fun a ha => ?_)
  · have ha8 : a < 8 := by
      rcases Nat.lt_or_ge a 8 with h8 | h8
      · exact h8
      · rw [testBit_hi (h.lt k) h8] at ha; cases ha
    exact fresh_part.2.sure _ (closed_ok h.len hc) k hk a ha8 (by simp only [if_pos hk]; exact ha)
  · have ha8 : a < 8 := by
      rcases Nat.lt_or_ge a 8 with h8 | h8
      · exact h8
      · rw [testBit_hi (fresh_lt k) h8] at ha; cases ha
    exact h.sure _ (closed_ok fresh_len fresh_part.1) k hk a ha8 (by simp only [if_pos hk]; exact ha)
end
end Go.Proofs.YtapjgobkpehgfaaGreatDoor

/- States that differ in pointer locals alone: what a step makes of them. -/
namespace Go.Proofs.YtapjgobkpehgfaaGreatDoor
set_option linter.unusedSimpArgs false
set_option linter.unusedVariables false

/-- The same, but for pointer locals; those of a set are the same. -/
structure Agr (m : Nat) (s t : PSt) : Prop where
  x : t.x = s.x
  g : t.g = s.g
  objs : t.objs = s.objs
  out : t.out = s.out
  pc : t.pc = s.pc
  steps : t.steps = s.steps
  ls : s.p.length = 8
  lt : t.p.length = 8
  p : ∀ a, m.testBit a = true → t.p.getD a 0 = s.p.getD a 0
section
variable {q : PProg} {m : Nat} {s t : PSt} {i : PIns}
theorem Agr.pA (h : Agr m s t) {b : Int} (hb : ∀ a, (bitN b).testBit a = true → m.testBit a = true) : pA t b = pA s b := by
  unfold Go.Proofs.YtapjgobkpehgfaaGreatDoor.pA
  rcases Int.lt_or_le 7 b with h7 | h7
  · rw [List.getD_eq_getElem?_getD, List.getD_eq_getElem?_getD, List.getElem?_eq_none (by rw [h.lt]; omega), List.getElem?_eq_none (by rw [h.ls]; omega)]
  · exact h.p _ (hb _ (by rw [testBit_bit]; simp [h7]))
/-- Of two results that a step makes of them. -/
structure Out2 (i : PIns) (s t u v : PSt) : Prop where
  x : v.x = u.x
  g : v.g = u.g
  objs : v.objs = u.objs
  out : v.out = u.out
  pc : v.pc = u.pc
  steps : v.steps = u.steps
  ls : u.p.length = 8
  lt : v.p.length = 8
  set : ∀ a, (setsN i).testBit a = true → v.p.getD a 0 = u.p.getD a 0
  old : ∀ a, (setsN i).testBit a = false → u.p.getD a 0 = s.p.getD a 0 ∧ v.p.getD a 0 = t.p.getD a 0
theorem getD_setI {l : List Int} {k j : Nat} {v : Int} : (l.set k v).getD j 0 = if k = j ∧ k < l.length then v else l.getD j 0 := by
  rw [List.getD_eq_getElem?_getD, List.getElem?_set]
  by_cases h : k = j
  · subst h
    by_cases h2 : k < l.length
    · simp [h2]
    · simp [h2, List.getElem?_eq_none (Nat.le_of_not_lt h2)]
  · simp [h]
theorem setP_two (h : Agr m s t) (hs : setsN i = bitN i.a) (v : Int) {x y : PSt} (hx : x = setP s i.a v) (hy : y = setP t i.a v) : Out2 i s t x y := by
  subst hx; subst hy
  have key : ∀ (l : List Int) (a : Nat), l.length = 8 → (setsN i).testBit a = false → (l.set i.a.toNat v).getD a 0 = l.getD a 0 := by
    intro l a hl ha
    rw [hs, testBit_bit] at ha
    rw [getD_setI, if_neg]
    rintro ⟨e, e2⟩
    simp only [Bool.and_eq_false_iff, decide_eq_false_iff_not] at ha
    omega
  refine ⟨h.x, h.g, h.objs, h.out, h.pc, h.steps, by simp [setP, h.ls], by simp [setP, h.lt], fun a ha => ?_, fun a ha => ⟨key _ a h.ls ha, key _ a h.lt ha⟩⟩
  rw [hs, testBit_bit] at ha
  simp only [Bool.and_eq_true, decide_eq_true_eq] at ha
  show (t.p.set i.a.toNat v).getD a 0 = (s.p.set i.a.toNat v).getD a 0
  rw [getD_setI, getD_setI, if_pos ⟨ha.2, by rw [h.lt]; omega⟩, if_pos ⟨ha.2, by rw [h.ls]; omega⟩]
theorem noP_two (h : Agr m s t) (hs : setsN i = 0) {x y : PSt} (hx : y.x = x.x) (hg : y.g = x.g) (ho : y.objs = x.objs) (hu : y.out = x.out) (hp : y.pc = x.pc) (hst : y.steps = x.steps) (h1 : x.p = s.p) (h2 : y.p = t.p) : Out2 i s t x y :=
  ⟨hx, hg, ho, hu, hp, hst, by rw [h1, h.ls], by rw [h2, h.lt], fun a ha => (by rw [hs, Nat.zero_testBit] at ha; cases ha), fun a _ => by rw [h1, h2]; exact ⟨rfl, rfl⟩⟩
/-- A step reads no pointer local but those that its instruction uses. -/
theorem doI_two (h : Agr m s t) (hop : i.op = 1 ∨ i.op = 2 ∨ i.op = 3 ∨ i.op = 4 ∨ i.op = 5 ∨ i.op = 6 ∨ i.op = 7 ∨ i.op = 8 ∨ i.op = 9 ∨ i.op = 10 ∨ i.op = 11 ∨ i.op = 12 ∨ i.op = 13 ∨ i.op = 14 ∨ i.op = 15)
    (hu : ∀ a, (usesN i).testBit a = true → m.testBit a = true) :
    (doI q s i = none ∧ doI q t i = none) ∨ ∃ x y, doI q s i = some x ∧ doI q t i = some y ∧ Out2 i s t x y := by
  have xa : ∀ b, xA t b = xA s b := fun b => by unfold xA; rw [h.x]
  have ga : ∀ b, gA t b = gA s b := fun b => by unfold gA; rw [h.g]
  rcases hop with e | e | e | e | e | e | e | e | e | e | e | e | e | e | e
  · refine .inr ⟨_, _, doI_1 e, doI_1 e, noP_two h (by simp [setsN, e]) ?_ h.g h.objs h.out h.pc h.steps rfl rfl⟩
    show t.x.set _ _ = s.x.set _ _; rw [h.x]
  · refine .inr ⟨_, _, doI_2 e, doI_2 e, noP_two h (by simp [setsN, e]) ?_ h.g h.objs h.out h.pc h.steps rfl rfl⟩
    show t.x.set _ _ = s.x.set _ _; rw [h.x, xa, xa]
  · exact .inr ⟨_, _, doI_3 e, doI_3 e, noP_two h (by simp [setsN, e]) h.x h.g h.objs h.out rfl h.steps rfl rfl⟩
  · refine .inr ⟨_, _, doI_4 e, doI_4 e, ?_⟩
    rw [xa]
    by_cases h0 : xA s i.a = 0
    · rw [if_pos h0, if_pos h0]; exact noP_two h (by simp [setsN, e]) h.x h.g h.objs h.out rfl h.steps rfl rfl
    · rw [if_neg h0, if_neg h0]; exact noP_two h (by simp [setsN, e]) h.x h.g h.objs h.out h.pc h.steps rfl rfl
  · refine .inr ⟨_, _, doI_5 e, doI_5 e, ?_⟩
    have hA : Agr m { s with objs := s.objs ++ [List.replicate (sizeP q.types (localI q i.a)).toNat 0] } { t with objs := t.objs ++ [List.replicate (sizeP q.types (localI q i.a)).toNat 0] } := ⟨h.x, h.g, by show t.objs ++ _ = s.objs ++ _; rw [h.objs], h.out, h.pc, h.steps, h.ls, h.lt, h.p⟩
    have := setP_two (i := i) hA (by simp [setsN, e]) (s.objs.length + 1) rfl (y := setP { t with objs := t.objs ++ [List.replicate (sizeP q.types (localI q i.a)).toNat 0] } i.a (t.objs.length + 1)) (by rw [h.objs])
    exact ⟨this.x, this.g, this.objs, this.out, this.pc, this.steps, this.ls, this.lt, this.set, this.old⟩
  · exact .inr ⟨_, _, doI_6 e, doI_6 e, setP_two h (by simp [setsN, e]) 0 rfl rfl⟩
  · have hb := h.pA (b := i.b) (fun a ha => hu a (by simp [usesN, e]; exact ha))
    refine .inr ⟨_, _, doI_7 e, doI_7 e, setP_two h (by simp [setsN, e]) (pA s i.b) rfl (by rw [hb])⟩
  · have hb := h.pA (b := i.b) (fun a ha => hu a (by simp [usesN, e]; exact ha))
    rw [doI_8 e, doI_8 e, hb]
    by_cases h0 : pA s i.b = 0
    · rw [if_pos h0, if_pos h0]; exact .inl ⟨rfl, rfl⟩
    · rw [if_neg h0, if_neg h0]
      refine .inr ⟨_, _, rfl, rfl, noP_two h (by simp [setsN, e]) ?_ h.g h.objs h.out h.pc h.steps rfl rfl⟩
      show t.x.set _ (fldA t.objs _ _) = s.x.set _ _; rw [h.x, h.objs]
  · have hb := h.pA (b := i.a) (fun a ha => hu a (by simp [usesN, e]; exact ha))
    rw [doI_9 e, doI_9 e, hb]
    by_cases h0 : pA s i.a = 0
    · rw [if_pos h0, if_pos h0]; exact .inl ⟨rfl, rfl⟩
    · rw [if_neg h0, if_neg h0]
      refine .inr ⟨_, _, rfl, rfl, noP_two h (by simp [setsN, e]) h.x h.g ?_ h.out h.pc h.steps rfl rfl⟩
      show putA t.objs _ _ _ = putA s.objs _ _ _; rw [h.objs, xa]
  · have hb := h.pA (b := i.b) (fun a ha => hu a (by simp [usesN, e]; exact ha))
    rw [doI_10 e, doI_10 e, hb]
    by_cases h0 : pA s i.b = 0
    · rw [if_pos h0, if_pos h0]; exact .inl ⟨rfl, rfl⟩
    · rw [if_neg h0, if_neg h0]
      exact .inr ⟨_, _, rfl, rfl, setP_two h (by simp [setsN, e]) _ rfl (by rw [h.objs])⟩
  · have hb := h.pA (b := i.a) (fun a ha => hu a (by simp [usesN, e]; exact .inl ha))
    have hb2 := h.pA (b := i.b) (fun a ha => hu a (by simp [usesN, e]; exact .inr ha))
    rw [doI_11 e, doI_11 e, hb, hb2]
    by_cases h0 : pA s i.a = 0
    · rw [if_pos h0, if_pos h0]; exact .inl ⟨rfl, rfl⟩
    · rw [if_neg h0, if_neg h0]
      refine .inr ⟨_, _, rfl, rfl, noP_two h (by simp [setsN, e]) h.x h.g ?_ h.out h.pc h.steps rfl rfl⟩
      show putA t.objs _ _ _ = putA s.objs _ _ _; rw [h.objs]
  · exact .inr ⟨_, _, doI_12 e, doI_12 e, setP_two h (by simp [setsN, e]) (gA s i.b) rfl (by rw [ga])⟩
  · have hb := h.pA (b := i.b) (fun a ha => hu a (by simp [usesN, e]; exact ha))
    refine .inr ⟨_, _, doI_13 e, doI_13 e, noP_two h (by simp [setsN, e]) h.x ?_ h.objs h.out h.pc h.steps rfl rfl⟩
    show t.g.set _ _ = s.g.set _ _; rw [h.g, hb]
  · refine .inr ⟨_, _, doI_14 e, doI_14 e, noP_two h (by simp [setsN, e]) h.x h.g h.objs ?_ h.pc h.steps rfl rfl⟩
    show t.out ++ _ = s.out ++ _; rw [h.out, xa]
  · have hb := h.pA (b := i.b) (fun a ha => hu a (by simp [usesN, e]; exact .inl ha))
    have hb2 := h.pA (b := i.c) (fun a ha => hu a (by simp [usesN, e]; exact .inr ha))
    refine .inr ⟨_, _, doI_15 e, doI_15 e, noP_two h (by simp [setsN, e]) ?_ h.g h.objs h.out h.pc h.steps rfl rfl⟩
    show t.x.set _ _ = s.x.set _ _; rw [h.x, hb, hb2]
/-- What a step of a state asks of its pointers. -/
structure UseOk (q : PProg) (s : PSt) : Prop where
  pc : s.pc ≤ q.code.length
  st : s.steps ≤ 1000000
  key : ∀ i, q.code[s.pc]? = some i → ∀ a : Int, (((i.op = 8 ∨ i.op = 10) ∧ a = i.b) ∨ ((i.op = 9 ∨ i.op = 11) ∧ a = i.a)) → pA s a ≠ 0 → 1 ≤ pA s a ∧ pA s a ≤ s.objs.length ∧ i.n.toNat < (objA s.objs (pA s a)).length
theorem UseOk.of_run {ts : List Nat} {k : Nat} (hc : (checkL q).2 = 0) (hok : ∀ i ∈ q.code, OkI i) (hr : RunOk q s ts k) (hk : k ≤ 1000000) : UseOk q s := by
  refine ⟨hr.pc, by rw [hr.st]; exact hk, fun i hi a ha hz => ?_⟩
  obtain ⟨hh, hc1, hc2, hall, _⟩ := check_ok hc
  have hmem := List.mem_of_getElem? hi
  obtain ⟨hrt, hju, hin, hki⟩ := ins_parts (hall i hmem)
  have hv := hr.inv
  have hlo := hv.lo
  obtain ⟨o0, o1, a0, a1, b0, b1, c0, c1, n0, n1⟩ := hok i hmem
  have hl : 0 ≤ localI q a ∧ 0 ≤ a ∧ (0 ≤ i.n ∧ i.n < sizeP q.types (localI q a)) := by
    rcases ha with ⟨h1 | h1, rfl⟩ | ⟨h1 | h1, rfl⟩
    · have hl : 0 ≤ localI q i.b ∧ numF q.types (localI q i.b) i.n = true := by unfold kindsB at hki; simpa [h1] using hki
      have := num_parts hl.2
      exact ⟨hl.1, b0, by omega, by omega⟩
    · have hl : 0 ≤ localI q i.b ∧ sameT (localI q i.a) (toP q.types (localI q i.b) i.n) = true := by unfold kindsB at hki; simpa [h1] using hki
      obtain ⟨m1, m2⟩ := same_parts hl.2
      have := toP_has (ts := q.types) (t := localI q i.b) (n := i.n) (by omega)
      exact ⟨hl.1, b0, by omega, by omega⟩
    · have hl : 0 ≤ localI q i.a ∧ numF q.types (localI q i.a) i.n = true := by unfold kindsB at hki; simpa [h1] using hki
      have := num_parts hl.2
      exact ⟨hl.1, a0, by omega, by omega⟩
    · have hl : 0 ≤ localI q i.a ∧ sameT (localI q i.b) (toP q.types (localI q i.a) i.n) = true := by unfold kindsB at hki; simpa [h1] using hki
      obtain ⟨m1, m2⟩ := same_parts hl.2
      have := toP_has (ts := q.types) (t := localI q i.a) (n := i.n) (by omega)
      exact ⟨hl.1, a0, by omega, by omega⟩
  obtain ⟨q1, q2, _, q4⟩ := hv.obj (hv.pA hh hl.2.1 hl.1) hz
  exact ⟨q1, by omega, by omega⟩
end
end Go.Proofs.YtapjgobkpehgfaaGreatDoor

/- What the statements ask of the least sets, in plain numbers. -/
namespace Go.Proofs.YtapjgobkpehgfaaGreatDoor
set_option linter.unusedSimpArgs false
set_option linter.unusedVariables false

section
variable {q : PProg} {i : PIns}
/-- What an instruction of a program that may be run uses is there. -/
theorem uses_local (hc : (checkL q).2 = 0) (hok : ∀ i ∈ q.code, OkI i) (hm : i ∈ q.code) {a : Nat} (h : (usesN i).testBit a = true) : a < q.locals.length := by
  obtain ⟨hh, _, _, hall, _⟩ := check_ok hc
  obtain ⟨hrt, hju, hin, hki⟩ := ins_parts (hall i hm)
  obtain ⟨o0, o1, a0, a1, b0, b1, c0, c1, n0, n1⟩ := hok i hm
  have key : ∀ x : Int, 0 ≤ x → 0 ≤ localI q x → (bitN x).testBit a = true → a < q.locals.length := by
    intro x h0 hl hb
    rw [testBit_bit] at hb
    simp only [Bool.and_eq_true, decide_eq_true_eq] at hb
    have := (local_lt hh h0 hl).1
    omega
  unfold usesN at h
  by_cases h7 : i.op = 7
  · have hl : sameT (localI q i.a) (localI q i.b) = true := by unfold kindsB at hki; simpa [h7] using hki
    obtain ⟨m1, m2⟩ := same_parts hl
    rw [if_pos (.inl h7)] at h
    exact key i.b b0 (by omega) h
  by_cases h8 : i.op = 8
  · have hl : 0 ≤ localI q i.b ∧ numF q.types (localI q i.b) i.n = true := by unfold kindsB at hki; simpa [h8] using hki
    rw [if_pos (.inr (.inl h8))] at h
    exact key i.b b0 hl.1 h
  by_cases h10 : i.op = 10
  · have hl : 0 ≤ localI q i.b ∧ sameT (localI q i.a) (toP q.types (localI q i.b) i.n) = true := by unfold kindsB at hki; simpa [h10] using hki
    rw [if_pos (.inr (.inr (.inl h10)))] at h
    exact key i.b b0 hl.1 h
  by_cases h13 : i.op = 13
  · have hl : sameT (localI q i.b) (globI q i.a) = true := by unfold kindsB at hki; simpa [h13] using hki
    obtain ⟨m1, m2⟩ := same_parts hl
    rw [if_pos (.inr (.inr (.inr h13)))] at h
    exact key i.b b0 m1 h
  rw [if_neg (by rintro (e | e | e | e); exact h7 e; exact h8 e; exact h10 e; exact h13 e)] at h
  by_cases h9 : i.op = 9
  · have hl : 0 ≤ localI q i.a ∧ numF q.types (localI q i.a) i.n = true := by unfold kindsB at hki; simpa [h9] using hki
    rw [if_pos h9] at h
    exact key i.a a0 hl.1 h
  rw [if_neg h9] at h
  by_cases h11 : i.op = 11
  · have hl : 0 ≤ localI q i.a ∧ sameT (localI q i.b) (toP q.types (localI q i.a) i.n) = true := by unfold kindsB at hki; simpa [h11] using hki
    obtain ⟨m1, m2⟩ := same_parts hl.2
    rw [if_pos h11, Nat.testBit_or, Bool.or_eq_true] at h
    rcases h with h | h
    · exact key i.a a0 hl.1 h
    · exact key i.b b0 m1 h
  rw [if_neg h11] at h
  by_cases h15 : i.op = 15
  · have hl : sameT (localI q i.b) (localI q i.c) = true := by unfold kindsB at hki; simpa [h15] using hki
    obtain ⟨m1, m2⟩ := same_parts hl
    rw [if_pos h15, Nat.testBit_or, Bool.or_eq_true] at h
    rcases h with h | h
    · exact key i.b b0 m1 h
    · exact key i.c c0 (by omega) h
  rw [if_neg h15, Nat.zero_testBit] at h
  cases h
end
end Go.Proofs.YtapjgobkpehgfaaGreatDoor
