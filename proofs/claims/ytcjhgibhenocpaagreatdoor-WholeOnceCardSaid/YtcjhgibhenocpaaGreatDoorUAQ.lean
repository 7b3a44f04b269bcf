/-
  Which pointer locals are surely of new objects, in plain numbers: what an instruction makes of a set, bit by bit; the greatest sets, by rounds and by what holds of them.
  What the statements ask of the greatest sets, in plain numbers; what a run keeps of them.
  A program as it lies; the contract of Few.
  Appends of instructions, and of texts, to rows of the call's own.
  Rows of structs of whatever cells: as they lie, in memory of the call's own, and as they grow.
-/
import Derived.Test.YtcjhgibhenocpaaGreatDoorVPure
import Derived.Laws.Shifts
import Derived.Laws.ShiftsVarLaws
import Derived.Test.YtcjhgibhenocpaaGreatDoorUAE
import Derived.Test.YtcjhgibhenocpaaGreatDoorUAM
import Derived.Test.YtcjhgibhenocpaaGreatDoorUAH
import Derived.Test.YtcjhgibhenocpaaGreatDoorCProg
import Derived.Test.YtcjhgibhenocpaaGreatDoorCInstr
import Derived.Laws.AppendOwnNone
import Derived.BigFrame

/- Which pointer locals are surely of new objects, in plain numbers: what an instruction makes of a set, bit by bit; the greatest sets, by rounds and by what holds of them. -/
namespace Go.Proofs.YtcjhgibhenocpaaGreatDoor
set_option linter.unusedSimpArgs false
set_option linter.unusedVariables false

/-- What is left of a set by a safepoint. -/
def leftN (sf : Bool) (m : Nat) : Nat := if sf = true then 0 else m
def outI (i : PIns) (s : Nat) : Nat :=
  if i.op = 5 ∨ i.op = 6 then s ||| setsN i
  else if i.op = 7 then (if s &&& usesN i = 0 then butN s (setsN i) else s ||| setsN i)
  else if i.op = 10 ∨ i.op = 12 then butN s (setsN i)
  else s
theorem left_lt {sf : Bool} {m : Nat} (h : m < 256) : leftN sf m < 256 := by unfold leftN; split <;> omega
theorem outI_lt {i : PIns} {s : Nat} (h : s < 256) : outI i s < 256 := by
  unfold outI
  split
  · exact or_lt h (sets_lt i)
  · split
    · split
      · exact but_lt _ h
      · exact or_lt h (sets_lt i)
    · split
      · exact but_lt _ h
      · exact h
/-- An instruction makes this bit always. -/
def genI (i : PIns) (a : Nat) : Prop := (i.op = 5 ∨ i.op = 6) ∧ (setsN i).testBit a = true
/-- It makes this bit of that one. -/
def srcI (i : PIns) (a b : Nat) : Prop :=
  if i.op = 7 then (if (setsN i).testBit a = true then (usesN i).testBit b = true ∨ False else a = b)
  else if i.op = 10 ∨ i.op = 12 then a = b ∧ (setsN i).testBit a = false
  else a = b
theorem and_ne_zero {s u : Nat} : ¬ (s &&& u = 0) ↔ ∃ b, s.testBit b = true ∧ u.testBit b = true := by
  constructor
  · intro h
    rcases Classical.em (∃ b, s.testBit b = true ∧ u.testBit b = true) with h1 | h1
    · exact h1
    · exfalso
      refine h (eq_bits fun b => ?_)
      rw [Nat.testBit_and, Nat.zero_testBit]
      rcases hs : s.testBit b with _ | _
      · rfl
      · rcases hu : u.testBit b with _ | _
        · rfl
        · exact absurd ⟨b, hs, hu⟩ h1
  · rintro ⟨b, h1, h2⟩ h
    have h3 : (s &&& u).testBit b = true := by rw [Nat.testBit_and, h1, h2]; rfl
    rw [h, Nat.zero_testBit] at h3
    cases h3
theorem outI_iff (i : PIns) (s a : Nat) : (outI i s).testBit a = true ↔ genI i a ∨ ∃ b, srcI i a b ∧ s.testBit b = true := by
  unfold outI genI srcI
  by_cases h5 : i.op = 5 ∨ i.op = 6
  · have h7 : ¬ i.op = 7 := by omega
    have h10 : ¬ (i.op = 10 ∨ i.op = 12) := by omega
    rw [if_pos h5, Nat.testBit_or, Bool.or_eq_true]
    simp only [h5, h7, h10, if_false, true_and]
    constructor
    · rintro (h | h)
      · exact .inr ⟨a, rfl, h⟩
      · exact .inl h
    · rintro (h | ⟨b, rfl, h⟩)
      · exact .inr h
      · exact .inl h
  rw [if_neg h5]
  simp only [h5, false_and, false_or]
  by_cases h7 : i.op = 7
  · simp only [h7, if_true]
    by_cases hu : s &&& usesN i = 0
    · rw [if_pos hu, testBit_but]
      by_cases ha : (setsN i).testBit a = true
      · simp only [ha, if_true]
        constructor
        · intro h; simp at h
        · rintro ⟨b, h1 | h1, h2⟩
          · exact absurd hu (and_ne_zero.2 ⟨b, h2, h1⟩)
          · exact h1.elim
      · simp only [ha]
        constructor
        · intro h
          simp at h
          exact ⟨a, rfl, h⟩
        · rintro ⟨b, h1, h2⟩
          subst h1
          simp [h2]
    · rw [if_neg hu, Nat.testBit_or]
      by_cases ha : (setsN i).testBit a = true
      · simp only [ha, if_true, Bool.or_true, true_iff]
        obtain ⟨b, h1, h2⟩ := and_ne_zero.1 hu
        exact ⟨b, .inl h2, h1⟩
      · simp only [ha]
        constructor
        · intro h
          simp at h
          exact ⟨a, rfl, h⟩
        · rintro ⟨b, h1, h2⟩
          subst h1
          simp [h2]
  · rw [if_neg h7]
    simp only [h7, if_false]
    by_cases h10 : i.op = 10 ∨ i.op = 12
    · rw [if_pos h10, testBit_but]
      simp only [h10, if_true]
      constructor
      · intro h
        simp at h
        exact ⟨a, ⟨rfl, h.2⟩, h.1⟩
      · rintro ⟨b, ⟨rfl, h1⟩, h2⟩
        simp [h1, h2]
    · rw [if_neg h10]
      simp only [h10, if_false]
      exact ⟨fun h => ⟨a, rfl, h⟩, fun ⟨b, h1, h2⟩ => by rw [h1]; exact h2⟩
/-- Of more there comes no less. -/
def leN (x y : Nat) : Prop := ∀ a, x.testBit a = true → y.testBit a = true
theorem leN_refl (x : Nat) : leN x x := fun _ h => h
theorem leN.trans {x y z : Nat} (h : leN x y) (h2 : leN y z) : leN x z := fun a ha => h2 a (h a ha)
theorem leN.eq {x y : Nat} (h : leN x y) (h2 : leN y x) : x = y := eq_bits fun a => by rw [Bool.eq_iff_iff]; exact ⟨h a, h2 a⟩
theorem leN_and {x y : Nat} : leN (x &&& y) x := fun a h => by rw [Nat.testBit_and, Bool.and_eq_true] at h; exact h.1
theorem leN_and2 {x y : Nat} : leN (x &&& y) y := fun a h => by rw [Nat.testBit_and, Bool.and_eq_true] at h; exact h.2
theorem leN_zero (x : Nat) : leN 0 x := fun a h => by rw [Nat.zero_testBit] at h; cases h
section
variable {q : PProg}
def outN (q : PProg) (k m : Nat) : Nat := match q.code[k]? with
  | some i => outI i (leftN (safeL q k) m)
  | none => m
theorem outN_at {k m : Nat} {i : PIns} (h : q.code[k]? = some i) : outN q k m = outI i (leftN (safeL q k) m) := by unfold outN; rw [h]
theorem outN_lt {k m : Nat} (h : m < 256) : outN q k m < 256 := by
  unfold outN
  split
  · exact outI_lt (left_lt h)
  · exact h
/-! ### The greatest sets -/
def meetN (v : Nat) (out : List Nat) (n : Nat) : List Nat := out.set n (out.getD n 0 &&& v)
def sweepF (q : PProg) (out : List Nat) (k : Nat) : List Nat := (nextL q k).foldl (meetN (outN q k (out.getD k 0))) out
def turnF (q : PProg) (out : List Nat) : List Nat := (List.range q.code.length).foldl (sweepF q) out
def turnsF (q : PProg) : Nat → List Nat → List Nat
  | 0, out => out
  | r + 1, out => turnsF q r (turnF q out)
def freshL (q : PProg) : List Nat := turnsF q (8 * q.code.length + 1) (List.replicate (q.code.length + 1) 255)
def leF (x y : List Nat) : Prop := x.length = y.length ∧ ∀ n, leN (x.getD n 0) (y.getD n 0)
theorem leF_refl (x : List Nat) : leF x x := ⟨rfl, fun _ => leN_refl _⟩
theorem leF.trans {x y z : List Nat} (h : leF x y) (h2 : leF y z) : leF x z := ⟨h.1.trans h2.1, fun n => (h.2 n).trans (h2.2 n)⟩
theorem meet_get {v : Nat} {out : List Nat} {n j : Nat} : (meetN v out n).getD j 0 = if n = j ∧ n < out.length then out.getD n 0 &&& v else out.getD j 0 := by unfold meetN; exact getD_setN
theorem meet_le (v : Nat) (out : List Nat) (n : Nat) : leF (meetN v out n) out := by
  refine ⟨by unfold meetN; simp, fun j => ?_⟩
  rw [meet_get]
  split
  · next e => rw [← e.1]; exact leN_and
  · exact leN_refl _
theorem meets_le (v : Nat) (ns : List Nat) (out : List Nat) : leF (ns.foldl (meetN v) out) out := by
  induction ns generalizing out with
  | nil => exact leF_refl _
  | cons n ns ih => exact (ih _).trans (meet_le v out n)
theorem meets_in {v : Nat} {ns : List Nat} {out : List Nat} {n : Nat} (h : n ∈ ns) (hn : n < out.length) : leN ((ns.foldl (meetN v) out).getD n 0) v := by
  induction ns generalizing out with
  | nil => cases h
  | cons m ns ih =>
    rw [List.foldl_cons]
    rcases List.mem_cons.1 h with rfl | h
    · refine ((meets_le v ns (meetN v out n)).2 n).trans ?_
      rw [meet_get, if_pos ⟨rfl, hn⟩]
      exact leN_and2
    · exact ih h (by rw [(meet_le v out m).1]; exact hn)
theorem sweepF_le (out : List Nat) (k : Nat) : leF (sweepF q out k) out := meets_le _ _ _
theorem sweepsF_le (ks : List Nat) (out : List Nat) : leF (ks.foldl (sweepF q) out) out := by
  induction ks generalizing out with
  | nil => exact leF_refl _
  | cons n ns ih => exact (ih _).trans (sweepF_le out n)
theorem turnF_le (out : List Nat) : leF (turnF q out) out := sweepsF_le _ _
/-- Every way to a place has what is told of it. -/
def ClosedF (q : PProg) (out : List Nat) : Prop := ∀ k n, n ∈ nextL q k → n < out.length → leN (out.getD n 0) (outN q k (out.getD k 0))
/-- Surely so: told by some sets that every way keeps. -/
def SetsOk (q : PProg) (S : Nat → Nat) : Prop := ∀ k n, n ∈ nextL q k → leN (S n) (outN q k (S k))
/-- Nothing is taken away without a reason. -/
structure PartF (q : PProg) (out : List Nat) : Prop where
  len : out.length = q.code.length + 1
  lt : ∀ k, out.getD k 0 < 256
  sure : ∀ S, SetsOk q S → ∀ n, n ≤ q.code.length → ∀ a, a < 8 → (S n).testBit a = true → (out.getD n 0).testBit a = true
theorem bit255 {a : Nat} (h : a < 8) : (255 : Nat).testBit a = true := by
  have : a = 0 ∨ a = 1 ∨ a = 2 ∨ a = 3 ∨ a = 4 ∨ a = 5 ∨ a = 6 ∨ a = 7 := by omega
  rcases this with rfl | rfl | rfl | rfl | rfl | rfl | rfl | rfl <;> rfl
theorem getD_rep255 {n k : Nat} (h : k < n) : (List.replicate n (255 : Nat)).getD k 0 = 255 := by
  rw [List.getD_eq_getElem?_getD, List.getElem?_replicate, if_pos h]; rfl
theorem PartF.start : PartF q (List.replicate (q.code.length + 1) 255) := by
  refine ⟨by simp, fun k => ?_, fun S hS n hn a ha _ => ?_⟩
  · rcases Nat.lt_or_ge k (q.code.length + 1) with h | h
    · rw [getD_rep255 h]; omega
    · rw [List.getD_eq_getElem?_getD, List.getElem?_eq_none (by simpa using h)]; decide
  · rw [getD_rep255 (by omega)]; exact bit255 ha
/-- A set cut to its eight bits keeps what every way keeps. -/
theorem outN_cut {k x y a : Nat} (h : ∀ b, b < 8 → x.testBit b = true → y.testBit b = true) (ha : a < 8) (hx : (outN q k x).testBit a = true) : (outN q k y).testBit a = true := by
  unfold outN at hx ⊢
  rcases hi : q.code[k]? with _ | i
  · rw [hi] at hx; exact h a ha hx
  · rw [hi] at hx
    simp only at hx ⊢
    unfold leftN at hx ⊢
    by_cases hs : safeL q k = true
    · rw [if_pos hs] at hx ⊢; exact hx
    · rw [if_neg hs] at hx ⊢
      rw [outI_iff] at hx ⊢
      refine hx.imp id fun ⟨b, h1, h2⟩ => ⟨b, h1, h b ?_ h2⟩
      unfold srcI at h1
      rcases Nat.lt_or_ge b 8 with hb | hb
      · exact hb
      · exfalso
        split at h1
        · split at h1
          · rcases h1 with h1 | h1
            · rw [testBit_hi (uses_lt i) hb] at h1; cases h1
            · exact h1
          · omega
        · split at h1
          · omega
          · omega
theorem PartF.meet {out : List Nat} (h : PartF q out) {k n : Nat} (hk : k ≤ q.code.length) (hn : n ∈ nextL q k) {m : Nat} (hm : m < 256) (hs : ∀ S, SetsOk q S → ∀ a, a < 8 → (S k).testBit a = true → m.testBit a = true) : PartF q (meetN (outN q k m) out n) := by
  refine ⟨by unfold meetN; rw [List.length_set]; exact h.len, fun j => ?_, fun S hS j hj a ha hx => ?_⟩
  · rw [meet_get]
    split
    · exact Nat.lt_of_le_of_lt Nat.and_le_left (h.lt n)
    · exact h.lt j
  · rw [meet_get]
    split
    · next e =>
      obtain ⟨rfl, -⟩ := e
      rw [Nat.testBit_and, h.sure S hS n hj a ha hx, Bool.true_and]
      exact outN_cut (hs S hS) ha (hS k n hn a hx)
    · exact h.sure S hS j hj a ha hx
theorem PartF.meets {k m : Nat} (hk : k ≤ q.code.length) (hm : m < 256) (hs : ∀ S, SetsOk q S → ∀ a, a < 8 → (S k).testBit a = true → m.testBit a = true) : ∀ (ns : List Nat), (∀ n ∈ ns, n ∈ nextL q k) → ∀ {out : List Nat}, PartF q out → PartF q (ns.foldl (meetN (outN q k m)) out)
  | [], _, _, h => h
  | n :: ns, hn, _, h => PartF.meets hk hm hs ns (fun j hj => hn j (List.mem_cons_of_mem _ hj)) (h.meet hk (hn n List.mem_cons_self) hm hs)
theorem PartF.sweep {out : List Nat} (h : PartF q out) {k : Nat} (hk : k ≤ q.code.length) : PartF q (sweepF q out k) :=
  PartF.meets hk (h.lt k) (fun S hS a ha hx => h.sure S hS k hk a ha hx) _ (fun _ hn => hn) h
theorem PartF.sweeps : ∀ (ks : List Nat), (∀ k ∈ ks, k ≤ q.code.length) → ∀ {out : List Nat}, PartF q out → PartF q (ks.foldl (sweepF q) out)
  | [], _, _, h => h
  | k :: ks, hk, _, h => PartF.sweeps ks (fun j hj => hk j (List.mem_cons_of_mem _ hj)) (h.sweep (hk k List.mem_cons_self))
theorem PartF.turn {out : List Nat} (h : PartF q out) : PartF q (turnF q out) := PartF.sweeps _ (fun k hk => by have := List.mem_range.1 hk; omega) h
/-- A turn that changes no instruction's place is done. -/
theorem closed_of_same {out : List Nat} (hl : out.length = q.code.length + 1) (h : ∀ k, k < q.code.length → (turnF q out).getD k 0 = out.getD k 0) : ClosedF q (turnF q out) := by
  intro k n hn hnl
  have hk := nextL_lt hn
  obtain ⟨l1, l2, e⟩ : ∃ l1 l2, List.range q.code.length = l1 ++ k :: l2 := List.append_of_mem (by simp [hk])
  have hT : turnF q out = l2.foldl (sweepF q) (sweepF q (l1.foldl (sweepF q) out) k) := by unfold turnF; rw [e, List.foldl_append, List.foldl_cons]
  have h1 := sweepsF_le (q := q) l1 out
  have h2 := sweepF_le (q := q) (l1.foldl (sweepF q) out) k
  have h3 := sweepsF_le (q := q) l2 (sweepF q (l1.foldl (sweepF q) out) k)
  have h4 : (l1.foldl (sweepF q) out).getD k 0 = out.getD k 0 := by
    refine (h1.2 k).eq ?_
    rw [← h k hk, hT]
    exact (h3.trans h2).2 k
  have hlen : (l1.foldl (sweepF q) out).length = q.code.length + 1 := h1.1.trans hl
  have hn2 : n < (l1.foldl (sweepF q) out).length := by
    rw [hT, h3.1, h2.1] at hnl; exact hnl
  rw [h k hk]
  rw [hT]
  refine (h3.2 n).trans ?_
  have h5 := meets_in (v := outN q k ((l1.foldl (sweepF q) out).getD k 0)) hn hn2
  rw [h4] at h5
  have h6 : ∀ o : List Nat, o.getD k 0 = out.getD k 0 → sweepF q o k = (nextL q k).foldl (meetN (outN q k (out.getD k 0))) o := fun o ho => by unfold sweepF; rw [ho]
  rw [h6 _ h4]
  exact h5
theorem meet_same {v : Nat} {out : List Nat} {n : Nat} (h : leN (out.getD n 0) v) : meetN v out n = out := by
  have e : out.getD n 0 &&& v = out.getD n 0 := leN_and.eq fun a ha => by rw [Nat.testBit_and, ha, h a ha]; rfl
  unfold meetN
  rw [e]
  rcases Nat.lt_or_ge n out.length with h1 | h1
  · rw [List.getD_eq_getElem?_getD, List.getElem?_eq_getElem h1]
    simp
  · exact List.set_eq_of_length_le h1
theorem closed_sweep {out : List Nat} (h : ClosedF q out) (k : Nat) : sweepF q out k = out := by
  have key : ∀ ns : List Nat, (∀ n ∈ ns, n ∈ nextL q k) → ns.foldl (meetN (outN q k (out.getD k 0))) out = out := by
    intro ns
    induction ns with
    | nil => intro _; rfl
    | cons n ns ih =>
      intro hn
      have e : meetN (outN q k (out.getD k 0)) out n = out := by
        rcases Nat.lt_or_ge n out.length with h1 | h1
        · exact meet_same (h k n (hn n List.mem_cons_self) h1)
        · unfold meetN; exact List.set_eq_of_length_le h1
      rw [List.foldl_cons, e]
      exact ih fun j hj => hn j (List.mem_cons_of_mem _ hj)
  exact key _ fun _ h => h
theorem closed_turn {out : List Nat} (h : ClosedF q out) : turnF q out = out := by
  unfold turnF
  generalize List.range q.code.length = ks
  induction ks with
  | nil => rfl
  | cons k ks ih => rw [List.foldl_cons, closed_sweep h]; exact ih
theorem closed_turns {out : List Nat} (h : ClosedF q out) (r : Nat) : turnsF q r out = out := by
  induction r with
  | zero => rfl
  | succ r ih => unfold turnsF; rw [closed_turn h]; exact ih
theorem pB_le {x y : List Nat} (h : leF x y) (a : Nat) : leB (pB a x) (pB a y) := ⟨by rw [pB_len, pB_len]; exact h.1, fun k hk => by rw [pB_get] at hk ⊢; exact h.2 k a hk⟩
theorem tot_le {x y : List Nat} (h : leF x y) : totN x ≤ totN y ∧ (totN x = totN y → ∀ k a, a < 8 → (x.getD k 0).testBit a = (y.getD k 0).testBit a) := by
  have h0 := cnt_le (pB_le h 0); have h1 := cnt_le (pB_le h 1); have h2 := cnt_le (pB_le h 2); have h3 := cnt_le (pB_le h 3)
  have h4 := cnt_le (pB_le h 4); have h5 := cnt_le (pB_le h 5); have h6 := cnt_le (pB_le h 6); have h7 := cnt_le (pB_le h 7)
  unfold totN
  refine ⟨by omega, fun he k a ha => ?_⟩
  rw [← pB_get, ← pB_get]
  have : a = 0 ∨ a = 1 ∨ a = 2 ∨ a = 3 ∨ a = 4 ∨ a = 5 ∨ a = 6 ∨ a = 7 := by omega
  rcases this with rfl | rfl | rfl | rfl | rfl | rfl | rfl | rfl
  · rw [h0.2 (by omega)]
  · rw [h1.2 (by omega)]
  · rw [h2.2 (by omega)]
  · rw [h3.2 (by omega)]
  · rw [h4.2 (by omega)]
  · rw [h5.2 (by omega)]
  · rw [h6.2 (by omega)]
  · rw [h7.2 (by omega)]
theorem tot_eq {x y : List Nat} (h : leF x y) (hx : ∀ k, x.getD k 0 < 256) (hy : ∀ k, y.getD k 0 < 256) (he : totN x = totN y) (k : Nat) : x.getD k 0 = y.getD k 0 := by
  refine eq_bits fun a => ?_
  rcases Nat.lt_or_ge a 8 with ha | ha
  · exact (tot_le h).2 he k a ha
  · rw [testBit_hi (hx k) ha, testBit_hi (hy k) ha]
/-- Whoever takes something away has less. -/
theorem tot_less {x y : List Nat} (h : leF x y) (hx : ∀ k, x.getD k 0 < 256) (hy : ∀ k, y.getD k 0 < 256) (hne : ∃ k, x.getD k 0 ≠ y.getD k 0) : totN x < totN y := by
  rcases Nat.lt_or_ge (totN x) (totN y) with h1 | h1
  · exact h1
  · obtain ⟨k, hk⟩ := hne
    exact absurd (tot_eq h hx hy (Nat.le_antisymm (tot_le h).1 h1) k) hk
theorem getD_take {l : List Nat} {m k : Nat} : (l.take m).getD k 0 = if k < m then l.getD k 0 else 0 := by
  rw [List.getD_eq_getElem?_getD, List.getElem?_take]
  split
  · rw [List.getD_eq_getElem?_getD]
  · rfl
theorem leF_take {x y : List Nat} (h : leF x y) (m : Nat) : leF (x.take m) (y.take m) := by
  refine ⟨by rw [List.length_take, List.length_take, h.1], fun k => ?_⟩
  rw [getD_take, getD_take]
  split
  · exact h.2 k
  · exact leN_refl _
theorem turns_done : ∀ (r : Nat) (out : List Nat), PartF q out → 8 * q.code.length + 1 ≤ (8 * q.code.length - totN (out.take q.code.length)) + r → ClosedF q (turnsF q r out) ∧ PartF q (turnsF q r out)
  | 0, out, _, hc => by omega
  | r + 1, out, hp, hc => by
    have hp2 := hp.turn
    by_cases hs : ∀ k, k < q.code.length → (turnF q out).getD k 0 = out.getD k 0
    · have h1 := closed_of_same hp.len hs
      unfold turnsF
      rw [closed_turns h1]
      exact ⟨h1, hp2⟩
    · obtain ⟨k, hk⟩ := Classical.not_forall.1 hs
      obtain ⟨hkl, hne⟩ := Classical.not_imp.1 hk
      have hlt : totN ((turnF q out).take q.code.length) < totN (out.take q.code.length) := by
        refine tot_less (leF_take (turnF_le out) _) (fun k => ?_) (fun k => ?_) ⟨k, ?_⟩
        · rw [getD_take]; split
          · exact hp2.lt k
          · omega
        · rw [getD_take]; split
          · exact hp.lt k
          · omega
        · rw [getD_take, getD_take, if_pos hkl, if_pos hkl]; exact hne
      have hmax := tot_max (out.take q.code.length)
      have hl2 : (out.take q.code.length).length = q.code.length := by rw [List.length_take, hp.len]; omega
      rw [hl2] at hmax
      unfold turnsF
      exact turns_done r (turnF q out) hp2 (by omega)
theorem fresh_part : ClosedF q (freshL q) ∧ PartF q (freshL q) := turns_done _ _ PartF.start (by omega)
theorem fresh_len : (freshL q).length = q.code.length + 1 := fresh_part.2.len
theorem fresh_lt (k : Nat) : (freshL q).getD k 0 < 256 := fresh_part.2.lt k
theorem closed_ok {out : List Nat} (hl : out.length = q.code.length + 1) (h : ClosedF q out) : SetsOk q fun n => if n ≤ q.code.length then out.getD n 0 else 0 := by
  intro k n hn
  have hk := nextL_lt hn
  simp only
  rw [if_pos (show k ≤ q.code.length by omega)]
  split
  · exact h k n hn (by omega)
  · exact leN_zero _
/-- Whoever keeps what is sure, and is closed, has the greatest sets. -/
theorem PartF.done {out : List Nat} (h : PartF q out) (hc : ClosedF q out) : out = freshL q := by
  refine List.ext_getElem (by rw [h.len, fresh_len]) fun k h1 h2 => ?_
  have e1 : out[k] = out.getD k 0 := by rw [List.getD_eq_getElem?_getD, List.getElem?_eq_getElem h1]; rfl
  have e2 : (freshL q)[k] = (freshL q).getD k 0 := by rw [List.getD_eq_getElem?_getD, List.getElem?_eq_getElem h2]; rfl
  rw [e1, e2]
  have hk : k ≤ q.code.length := by have := h.len; omega
  refine leN.eq (fun a ha => ?_) (fun a ha => ?_)
  · have ha8 : a < 8 := by
      rcases Nat.lt_or_ge a 8 with h8 | h8
      · exact h8
      · rw [testBit_hi (h.lt k) h8] at ha; cases ha
    exact fresh_part.2.sure _ (closed_ok h.len hc) k hk a ha8 (by simp only [if_pos hk]; exact ha)
  · have ha8 : a < 8 := by
      rcases Nat.lt_or_ge a 8 with h8 | h8
      · exact h8
      · rw [testBit_hi (fresh_lt k) h8] at ha; cases ha
    exact h.sure _ (closed_ok fresh_len fresh_part.1) k hk a ha8 (by simp only [if_pos hk]; exact ha)
end
end Go.Proofs.YtcjhgibhenocpaaGreatDoor

/- What the statements ask of the greatest sets, in plain numbers; what a run keeps of them. -/
namespace Go.Proofs.YtcjhgibhenocpaaGreatDoor
set_option linter.unusedSimpArgs false
set_option linter.unusedVariables false
open Go.RowKit

section
variable {q : PProg} {i : PIns}
/-- Out, at any number. -/
def outV (q : PProg) (k : Int) (m : Nat) : Nat := if k < 0 ∨ (q.code.length : Int) ≤ k then m else outN q k.toNat m
theorem outV_none {k : Int} {m : Nat} (h : k < 0 ∨ (q.code.length : Int) ≤ k) : outV q k m = m := by unfold outV; rw [if_pos h]
theorem outV_nat {k m : Nat} (h : k < q.code.length) : outV q (k : Int) m = outN q k m := by unfold outV; rw [if_neg (by omega), Int.toNat_natCast]
theorem but_le {x y : Nat} (h : leN x y) : butN x y = 0 := by
  refine eq_bits fun a => ?_
  rw [testBit_but, Nat.zero_testBit]
  rcases hx : x.testBit a with _ | _
  · rfl
  · rw [h a hx]; rfl
theorem sets_bit (h : i.op = 5 ∨ i.op = 6 ∨ i.op = 7 ∨ i.op = 10 ∨ i.op = 12) : setsN i = bitN i.a := by unfold setsN; rw [if_pos h]
theorem shl_bit {a : Int} (h0 : 0 ≤ a) : (2 : Int) ^ min a.toNat 8 % 256 = ((bitN a : Nat) : Int) := by
  rw [u8_shl_one_var a h0]
  unfold bitN
  by_cases h8 : 8 ≤ a
  · rw [if_pos h8, if_pos (show 7 < a by omega)]; rfl
  · rw [if_neg h8, if_neg (show ¬ 7 < a by omega)]; simp
end
end Go.Proofs.YtcjhgibhenocpaaGreatDoor

/- A program as it lies; the contract of Few. -/
namespace Go.Proofs.YtcjhgibhenocpaaGreatDoor
set_option linter.unusedSimpArgs false
set_option linter.unusedVariables false
open Go.RowKit

/-- Instructions in a block of their own. -/
theorem insRow_blk {w : World} {g : Nat} {cs : Array Value} {is : List PIns} (h : blk w g cs 60) (hc : cs.toList = codeCells is) (hl : is.length ≤ maxLen) : InsRow w (.slice (some ⟨g, 0, none⟩) is.length is.length) is := by
  refine ⟨some ⟨g, 0, none⟩, is.length, rfl, Nat.le_refl _, hl, fun j i hj => ⟨g, 0, rfl, blk_lt h, fun t v hv => ?_⟩⟩
  have := flat_get is j i t v hj hv
  rw [← hc] at this
  rw [Nat.zero_add]
  exact blk_cell h _ v (by simpa using this)
/-- One-cell values in a block of their own. -/
theorem row_blk {w : World} {g : Nat} {cs : Array Value} {t : TypeId} (h : blk w g cs t) (hl : cs.size ≤ maxLen) : RowAt w (.slice (some ⟨g, 0, none⟩) cs.size cs.size) cs.toList := by
  refine ⟨some ⟨g, 0, none⟩, cs.size, by simp, by simp, hl, .inr ⟨g, 0, rfl, blk_lt h, fun j x hx => ?_⟩⟩
  rw [Nat.zero_add]
  exact blk_cell h j x (by simpa using hx)
end Go.Proofs.YtcjhgibhenocpaaGreatDoor

/- Appends of instructions, and of texts, to rows of the call's own. -/
namespace Go.Proofs.YtcjhgibhenocpaaGreatDoor
set_option linter.unusedSimpArgs false
set_option linter.unusedVariables false
open Go.RowKit

theorem plain_addr {b off i : Nat} : (⟨b, off, none⟩ : Addr).add i = ⟨b, off + i, none⟩ := by
  unfold Addr.add
  by_cases h : i = 0 <;> simp [h]
theorem codeCells_app (is js : List PIns) : codeCells (is ++ js) = codeCells is ++ codeCells js := by unfold codeCells; simp
theorem flat_inv : ∀ (is : List PIns) (j : Nat) (u : Value), (codeCells is)[j]? = some u → ∃ i, is[j / 5]? = some i ∧ (insC i).toList[j % 5]? = some u
  | [], j, u, h => by simp [codeCells] at h
  | a :: r, j, u, h => by
    unfold codeCells at h
    rw [List.flatMap_cons] at h
    have hl : (insC a).toList.length = 5 := rfl
    by_cases hj : j < 5
    · rw [List.getElem?_append_left (by rw [hl]; exact hj)] at h
      exact ⟨a, by rw [Nat.div_eq_of_lt hj]; rfl, by rw [Nat.mod_eq_of_lt hj]; exact h⟩
    · rw [List.getElem?_append_right (by rw [hl]; omega), hl] at h
      obtain ⟨i, h1, h2⟩ := flat_inv r (j - 5) u h
      refine ⟨i, ?_, ?_⟩
      · rw [show j / 5 = (j - 5) / 5 + 1 by omega]; simpa using h1
      · rw [show j % 5 = (j - 5) % 5 by omega]; exact h2
theorem codeCells_one (is : List PIns) : ∀ u ∈ codeCells is, u.oneCell' = true := by
  intro u hu
  obtain ⟨j, hj⟩ := List.getElem?_of_mem hu
  obtain ⟨i, _, h2⟩ := flat_inv is j u hj
  have := List.mem_of_getElem? h2
  simp at this
  rcases this with rfl | rfl | rfl | rfl | rfl <;> rfl
theorem infoI : (Tryz.prog.info? 60).map (fun i => (i.zero, i.size, i.bytes)) = some (some (.agg zeroC), 5, 16) := by kernel_rfl
/-- A slice that is nil, or has an address. -/
def FormS (u : Value) : Prop := u = .slice none 0 0 ∨ ∃ ad n c, u = .slice (some ad) n c
/-- 'append(is, js...)': is a row of the call's own, js wherever it lies. -/
theorem wpList_append_ins {w : World} {ops : Array Oper} {rest : List Oper} {o : Oper} {a : Act} {Q : Exit → Act → World → Prop} (hw : Region.wanted o (yielded ops a.tmps) = true) (s x : Operand)
    (ho : o.op = .call { callee := .builtin .append, args := #[s, x], argTypes := #[23, 23] }) (base : Nat) (v : Value) (is js : List PIns) (hs : a.eval s = v) (hown : w.ownsRow base 60 5 v is.length (codeCells is))
    (u : Value) (hx : a.eval x = u) (hsrc : InsRow w u js) (hform : FormS u) (h63 : is.length + js.length ≤ 1000000) (hbase : base ≤ w.heap.size)
    (h : ∀ v' w', w'.ownsRow base 60 5 v' (is ++ js).length (codeCells (is ++ js)) → Below base w w' → wpList Tryz.prog ops Q rest (a.put o.dst v') w') : wpList Tryz.prog ops Q (o :: rest) a w := by
  obtain ⟨i0, hi, hz0, hz1, hz2⟩ := info_parts infoI
  rcases hform with rfl | ⟨ad, n, c, rfl⟩
  · obtain ⟨a0, c0, e, _, _, _⟩ := hsrc
    simp only [Value.slice.injEq] at e
    have hn : js = [] := List.length_eq_zero_iff.1 e.2.1.symm
    subst hn
    refine BigFrame.wpList_want hw fun K hK => ?_
    have hrun := run_append_owned_none (P := Tryz.prog) (w := w) base 23 o.type 60 i0 5 Tryz.underlying23 hi v is.length (codeCells is) hown
    unfold Oper.wp
    simp [execOp, ho, resolve, invoke, builtin, hs, hx, hrun, Result.andThen]
    exact hK _ _ (h v w (by simpa using hown) (Below.refl _ _))
  · obtain ⟨a0, c0, e, _, _, hc⟩ := hsrc
    simp only [Value.slice.injEq] at e
    obtain ⟨rfl, rfl, rfl⟩ := e
    refine BigFrame.wpList_want hw fun K hK => wp_append_own w s x 23 ho base 60 i0 (.agg zeroC) 5 16 Tryz.underlying23 hi hz0 hz1 hz2 rfl (by decide) v is.length (codeCells is) hs hown ad js.length c (codeCells js) hx (codeCells_len js) ?_ (codeCells_one js) (by unfold maxLen; omega) (by omega) hbase ?_
    · intro j y hy
      obtain ⟨i, h1, h2⟩ := flat_inv js j y hy
      obtain ⟨b, off, e1, _, hr⟩ := hc (j / 5) i h1
      obtain rfl := Option.some.inj e1
      rw [plain_addr]
      have := hr (j % 5) y h2
      rw [show off + j / 5 * 5 + j % 5 = off + j by omega] at this
      exact this
    · intro v' w' h1 h2 _
      refine hK _ _ (h v' w' (by rw [List.length_append, codeCells_app]; exact h1) ?_)
      exact (Below.refl base w).grown h2 hbase (fun g hg => (hown.lt g hg).1)
end Go.Proofs.YtcjhgibhenocpaaGreatDoor

/- Rows of structs of whatever cells: as they lie, in memory of the call's own, and as they grow. -/
namespace Go.Proofs.YtcjhgibhenocpaaGreatDoor
set_option linter.unusedSimpArgs false
set_option linter.unusedVariables false
open Go.RowKit

section
variable {α : Type} (c : α → List Value) (n : Nat)
/-- A slice of structs, wherever it lies: each one's n cells one behind the other. -/
def RowS (w : World) (v : Value) (l : List α) : Prop :=
  ∃ a cap, v = .slice a l.length cap ∧ l.length ≤ cap ∧ cap ≤ maxLen ∧ ∀ j x, l[j]? = some x → ∃ b o, a = some ⟨b, o, none⟩ ∧ b < w.heap.size ∧ w.rangeAt b (o + j * n) (c x)
def cellsS (l : List α) : List Value := l.flatMap c
end
section
variable {α : Type} {c : α → List Value} {n : Nat}
theorem RowS.below {w w' : World} {v : Value} {l : List α} (h : RowS c n w v l) (hb : Below w.heap.size w w') : RowS c n w' v l := by
  obtain ⟨a, cap, rfl, h1, h2, h3⟩ := h
  refine ⟨a, cap, rfl, h1, h2, fun j x hj => ?_⟩
  obtain ⟨b, o, rfl, hlt, hr⟩ := h3 j x hj
  exact ⟨b, o, rfl, Nat.lt_of_lt_of_le hlt hb.size, rangeAt_below hr hlt hb⟩
theorem RowS.form {w : World} {v : Value} {l : List α} (h : RowS c n w v l) : ∃ a cap, v = .slice a l.length cap ∧ l.length ≤ cap ∧ cap ≤ 9223372036854775807 := by
  obtain ⟨a, cap, rfl, h1, h2, -⟩ := h
  unfold maxLen at h2
  exact ⟨a, cap, rfl, h1, by omega⟩
/-- One of them. -/
theorem RowS.at' {w : World} {a : Option Addr} {m cap : Nat} {l : List α} (h : RowS c n w (.slice a m cap) l) {k : Nat} {x : α} (hk : l[k]? = some x) : ∃ b o, a = some ⟨b, o, none⟩ ∧ b < w.heap.size ∧ w.rangeAt b (o + k * n) (c x) := by
  obtain ⟨a', cap', e, -, -, h3⟩ := h
  simp only [Value.slice.injEq] at e
  obtain ⟨rfl, -, -⟩ := e
  exact h3 k x hk
theorem rowS_nil (w : World) : RowS c n w (.slice none 0 0) ([] : List α) := ⟨none, 0, rfl, Nat.le_refl _, Nat.zero_le _, fun j x hj => by simp at hj⟩
theorem RowS.take {w : World} {a : Option Addr} {m k cap : Nat} {l : List α} (h : RowS c n w (.slice a m cap) l) (hk : k ≤ l.length) : RowS c n w (.slice a k cap) (l.take k) := by
  obtain ⟨a', cap', e, h1, h2, h3⟩ := h
  simp only [Value.slice.injEq] at e
  obtain ⟨rfl, -, rfl⟩ := e
  refine ⟨a, cap, by rw [List.length_take, Nat.min_eq_left hk], by rw [List.length_take]; omega, h2, fun j x hj => h3 j x ?_⟩
  rw [List.getElem?_take] at hj
  split at hj
  · exact hj
  · cases hj
theorem cellsS_len (hc : ∀ x, (c x).length = n) (l : List α) : (cellsS c l).length = l.length * n := by
  induction l with
  | nil => simp [cellsS]
  | cons a r ih =>
    unfold cellsS at ih ⊢
    rw [List.flatMap_cons, List.length_append, ih, hc, List.length_cons, Nat.add_mul]
    omega
theorem cellsS_get (hc : ∀ x, (c x).length = n) : ∀ (l : List α) (j : Nat) (x : α) (t : Nat) (v : Value), l[j]? = some x → (c x)[t]? = some v → (cellsS c l)[j * n + t]? = some v
  | [], _, _, _, _, h, _ => by simp at h
  | a :: r, 0, x, t, v, h, hv => by
    simp at h; subst h
    unfold cellsS; rw [List.flatMap_cons, Nat.zero_mul, Nat.zero_add]
    rw [List.getElem?_append_left (List.getElem?_eq_some_iff.1 hv).1]; exact hv
  | a :: r, j + 1, x, t, v, h, hv => by
    have ih := cellsS_get hc r j x t v (by simpa using h) hv
    unfold cellsS at ih ⊢
    have e : (j + 1) * n + t = n + (j * n + t) := by rw [Nat.add_mul]; omega
    rw [List.flatMap_cons, e, List.getElem?_append_right (by rw [hc]; omega), hc, Nat.add_sub_cancel_left]
    exact ih
/-- In memory of the call's own. -/
theorem rowS_own {w : World} {B : Nat} {e : TypeId} {v : Value} {l : List α} (hc : ∀ x, (c x).length = n) (h : w.ownsRow B e n v l.length (cellsS c l)) : RowS c n w v l := by
  rcases h.2 with ⟨rfl, h0⟩ | ⟨g, cap, cur, rfl, hB, hg, h1, h2, h3, h4⟩
  · have : l = [] := List.length_eq_zero_iff.1 h0
    subst this
    exact rowS_nil w
  · refine ⟨some ⟨g, 0, none⟩, cap, rfl, h1, h2, fun j x hj => ⟨g, 0, rfl, (Array.getElem?_eq_some_iff.1 hg).1, fun t v hv => ?_⟩⟩
    have := cellsS_get hc l j x t v hj hv
    rw [← h4, List.getElem?_take] at this
    have hx : cur.toList[j * n + t]? = some v := by
      split at this
      · exact this
      · cases this
    simp only [World.cell?, hg, Nat.zero_add]
    simpa using hx
/-- In a block of its own. -/
theorem rowS_blk {w : World} {g : Nat} {cs : Array Value} {t : TypeId} {l : List α} (hc : ∀ x, (c x).length = n) (h : blk w g cs t) (he : cs.toList = cellsS c l) (hl : l.length ≤ maxLen) : RowS c n w (.slice (some ⟨g, 0, none⟩) l.length l.length) l := by
  refine ⟨some ⟨g, 0, none⟩, l.length, rfl, Nat.le_refl _, hl, fun j x hj => ⟨g, 0, rfl, blk_lt h, fun t v hv => ?_⟩⟩
  have := cellsS_get hc l j x t v hj hv
  rw [← he] at this
  rw [Nat.zero_add]
  exact blk_cell h _ v (by simpa using this)
end
end Go.Proofs.YtcjhgibhenocpaaGreatDoor
