/-
  How a program may go, in plain lists: the next places, safepoints, what can be reached, by rounds and by ways.
  The model, in plain lists: a state, a step, a run; what is so of all states of a run.
  The model, in plain lists: all pointers are nothing, or of objects of their types; runs.
-/
import Derived.Test.YtapjgobkpehgfaaDoorUAH

/- How a program may go, in plain lists: the next places, safepoints, what can be reached, by rounds and by ways. -/
namespace Go.Proofs.YtapjgobkpehgfaaDoor
set_option linter.unusedSimpArgs false
set_option linter.unusedVariables false

/-- The next places of one instruction at a place. -/
def nextI (i : PIns) (k : Nat) : List Nat :=
  if i.op = 3 then [i.n.toNat]
  else if i.op = 4 then (if i.n < (k : Int) + 1 then [i.n.toNat, k + 1] else if (k : Int) + 1 < i.n then [k + 1, i.n.toNat] else [k + 1])
  else [k + 1]
def nextL (q : PProg) (k : Nat) : List Nat := match q.code[k]? with
  | some i => nextI i k
  | none => []
def safeL (q : PProg) (k : Nat) : Bool := match q.code[k]? with
  | some i => decide (i.op = 5) || (decide (i.op = 3) || decide (i.op = 4)) && decide (i.n ≤ (k : Int))
  | none => false
/-- All jumps go to places that there are. -/
def InP (q : PProg) : Prop := ∀ i ∈ q.code, i.op = 3 ∨ i.op = 4 → 0 ≤ i.n ∧ i.n ≤ q.code.length
theorem inP_check {q : PProg} (h : (checkL q).2 = 0) : InP q := fun i hi ho => by
  have he := (check_ok h).2.2.2.1 i hi
  unfold insE at he
  have hj : jumpI i = true := by unfold jumpI; simp; exact ho
  by_cases h1 : rightL i = false
  · rw [if_pos h1] at he; cases he
  rw [if_neg h1] at he
  by_cases h2 : jumpI i = true ∧ (i.n < 0 ∨ (q.code.length : Int) < i.n)
  · rw [if_pos h2] at he; cases he
  · have := not_and.1 h2 hj; omega
section
variable {q : PProg}
theorem next_le (h : InP q) {k n : Nat} (hn : n ∈ nextL q k) : n ≤ q.code.length ∧ k < q.code.length := by
  unfold nextL at hn
  rcases hi : q.code[k]? with _ | i
  · rw [hi] at hn; simp at hn
  · rw [hi] at hn
    have hlt := (List.getElem?_eq_some_iff.1 hi).1
    have hp := h i (List.mem_of_getElem? hi)
    simp only [nextI] at hn
    by_cases h3 : i.op = 3
    · rw [if_pos h3] at hn
      have := hp (.inl h3)
      simp at hn; omega
    · rw [if_neg h3] at hn
      by_cases h4 : i.op = 4
      · rw [if_pos h4] at hn
        have := hp (.inr h4)
        split at hn
        · simp at hn; omega
        · split at hn
          · simp at hn; omega
          · simp at hn; omega
      · rw [if_neg h4] at hn
        simp at hn; omega
/-- Where there is no safepoint one goes ahead. -/
theorem next_ahead {k n : Nat} (hn : n ∈ nextL q k) (hs : safeL q k = false) : k < n := by
  unfold nextL at hn
  unfold safeL at hs
  rcases hi : q.code[k]? with _ | i
  · rw [hi] at hn; simp at hn
  · rw [hi] at hn hs
    simp only [nextI] at hn
    simp only [Bool.or_eq_false_iff, Bool.and_eq_false_iff, decide_eq_false_iff_not] at hs
    by_cases h3 : i.op = 3
    · rw [if_pos h3] at hn
      simp at hn; omega
    · rw [if_neg h3] at hn
      by_cases h4 : i.op = 4
      · rw [if_pos h4] at hn
        split at hn
        · simp at hn; omega
        · split at hn
          · simp at hn; omega
          · simp at hn; omega
      · rw [if_neg h4] at hn
        simp at hn; omega
/-- A way of so many steps and one. -/
def WayN (q : PProg) : Nat → Nat → Nat → Prop
  | 0, a, b => b ∈ nextL q a
  | m + 1, a, b => ∃ c, WayN q m a c ∧ b ∈ nextL q c
def Way (q : PProg) (a b : Nat) : Prop := ∃ m, WayN q m a b
theorem Way.one {a b : Nat} (h : b ∈ nextL q a) : Way q a b := ⟨0, h⟩
theorem Way.step {a b c : Nat} (h : Way q a b) (hn : c ∈ nextL q b) : Way q a c := by
  obtain ⟨m, hm⟩ := h
  exact ⟨m + 1, b, hm, hn⟩
theorem Way.trans {a b c : Nat} (h : Way q a b) (h2 : Way q b c) : Way q a c := by
  obtain ⟨m, hm⟩ := h2
  induction m generalizing c with
  | zero => exact h.step hm
  | succ m ih =>
    obtain ⟨d, hd, hn⟩ := hm
    exact (ih hd).step hn
theorem Way.le (h : InP q) {a b : Nat} (hr : Way q a b) : b ≤ q.code.length := by
  obtain ⟨m, hm⟩ := hr
  cases m with
  | zero => exact (next_le h hm).1
  | succ m =>
    obtain ⟨d, _, hn⟩ := hm
    exact (next_le h hn).1

/-! ### By rounds -/
def markK (had : List Bool) (n : Nat) : List Bool := had.set n true
def stepK (q : PProg) (a : Nat) (had : List Bool) (k : Nat) : List Bool := if k = a ∨ had.getD k false = true then (nextL q k).foldl markK had else had
def roundK (q : PProg) (a : Nat) (had : List Bool) : List Bool := (List.range (q.code.length + 1)).foldl (stepK q a) had
def roundsK (q : PProg) (a : Nat) : Nat → List Bool → List Bool
  | 0, had => had
  | r + 1, had => roundsK q a r (roundK q a had)
def wayL (q : PProg) (a : Nat) : List Bool := roundsK q a (q.code.length + 1) (List.replicate (q.code.length + 1) false)
def loopL (q : PProg) (a : Nat) : Bool := (wayL q a).getD a false
def leB (x y : List Bool) : Prop := x.length = y.length ∧ ∀ k, x.getD k false = true → y.getD k false = true
theorem leB_refl (x : List Bool) : leB x x := ⟨rfl, fun _ h => h⟩
theorem leB.trans {x y z : List Bool} (h : leB x y) (h2 : leB y z) : leB x z := ⟨h.1.trans h2.1, fun k hk => h2.2 k (h.2 k hk)⟩
theorem getD_setB {l : List Bool} {k j : Nat} : (l.set k true).getD j false = if k = j ∧ k < l.length then true else l.getD j false := by
  rw [List.getD_eq_getElem?_getD, List.getElem?_set]
  by_cases h : k = j
  · subst h
    by_cases h2 : k < l.length
    · simp [h2]
    · simp [h2, List.getElem?_eq_none (Nat.le_of_not_lt h2)]
  · simp [h]
theorem mark_le (had : List Bool) (n : Nat) : leB had (markK had n) := ⟨by unfold markK; simp, fun k hk => by unfold markK; rw [getD_setB]; split; rfl; exact hk⟩
theorem marks_le (ns : List Nat) (had : List Bool) : leB had (ns.foldl markK had) := by
  induction ns generalizing had with
  | nil => exact leB_refl _
  | cons n ns ih => exact (mark_le had n).trans (ih _)
theorem step_le (a : Nat) (had : List Bool) (k : Nat) : leB had (stepK q a had k) := by
  unfold stepK
  split
  · exact marks_le _ _
  · exact leB_refl _
theorem steps_le (a : Nat) (ks : List Nat) (had : List Bool) : leB had (ks.foldl (stepK q a) had) := by
  induction ks generalizing had with
  | nil => exact leB_refl _
  | cons n ns ih => exact (step_le a had n).trans (ih _)
theorem round_le (a : Nat) (had : List Bool) : leB had (roundK q a had) := steps_le a _ had
theorem rounds_le (a r : Nat) (had : List Bool) : leB had (roundsK q a r had) := by
  induction r generalizing had with
  | zero => exact leB_refl _
  | succ r ih => exact (round_le a had).trans (ih _)
/-- What is marked can be reached. -/
def OkB (q : PProg) (a : Nat) (had : List Bool) : Prop := ∀ k, had.getD k false = true → Way q a k
theorem marks_ok {a : Nat} (ns : List Nat) (had : List Bool) (h : OkB q a had) (hn : ∀ n ∈ ns, Way q a n) : OkB q a (ns.foldl markK had) := by
  induction ns generalizing had with
  | nil => exact h
  | cons n ns ih =>
    refine ih _ (fun k hk => ?_) (fun m hm => hn m (by simp [hm]))
    unfold markK at hk
    rw [getD_setB] at hk
    split at hk
    · next e => rw [← e.1]; exact hn n (by simp)
    · exact h k hk
theorem step_ok {a : Nat} (had : List Bool) (k : Nat) (h : OkB q a had) : OkB q a (stepK q a had k) := by
  unfold stepK
  split
  · next e =>
    refine marks_ok _ _ h (fun n hn => ?_)
    rcases e with rfl | e
    · exact .one hn
    · exact (h k e).step hn
  · exact h
theorem steps_ok {a : Nat} (ks : List Nat) (had : List Bool) (h : OkB q a had) : OkB q a (ks.foldl (stepK q a) had) := by
  induction ks generalizing had with
  | nil => exact h
  | cons n ns ih => exact ih _ (step_ok _ _ h)
theorem rounds_ok {a : Nat} (r : Nat) (had : List Bool) (h : OkB q a had) : OkB q a (roundsK q a r had) := by
  induction r generalizing had with
  | zero => exact h
  | succ r ih => exact ih _ (steps_ok _ _ h)
/-- Nothing is left to be marked. -/
def Shut (q : PProg) (a : Nat) (had : List Bool) : Prop := ∀ k, k ≤ q.code.length → (k = a ∨ had.getD k false = true) → ∀ n ∈ nextL q k, had.getD n false = true
theorem leB.eq {x y : List Bool} (h : leB x y) (h2 : leB y x) : x = y := by
  refine List.ext_getElem h.1 fun i h1 h3 => ?_
  have a := h.2 i
  have b := h2.2 i
  simp only [List.getD_eq_getElem?_getD, List.getElem?_eq_getElem h1, List.getElem?_eq_getElem h3, Option.getD_some] at a b
  rcases hx : x[i] with _ | _ <;> rcases hy : y[i] with _ | _ <;> simp_all
theorem marks_all (ns : List Nat) (had : List Bool) (h : ∀ n ∈ ns, n < had.length) : ∀ n ∈ ns, (ns.foldl markK had).getD n false = true := by
  induction ns generalizing had with
  | nil => simp
  | cons n ns ih =>
    intro m hm
    rcases List.mem_cons.1 hm with rfl | hm
    · refine (marks_le ns _).2 m ?_
      unfold markK
      rw [getD_setB, if_pos ⟨rfl, h m (by simp)⟩]
    · exact ih _ (fun k hk => by unfold markK; rw [List.length_set]; exact h k (by simp [hk])) m hm
/-- A round that marks nothing new tells that nothing is left. -/
theorem shut_of_same {a : Nat} (hin : InP q) {had : List Bool} (hl : had.length = q.code.length + 1) (h : roundK q a had = had) : Shut q a had := by
  intro k hk hc n hn
  have hsplit : List.range (q.code.length + 1) = List.range k ++ k :: (List.range (q.code.length - k)).map (· + (k + 1)) := by
    rw [show q.code.length + 1 = k + (1 + (q.code.length - k)) by omega, List.range_add, List.range_add, List.range_one]
    simp [Function.comp_def, Nat.add_comm, Nat.add_left_comm, Nat.add_assoc]
  have h0 := h
  unfold roundK at h0
  rw [hsplit, List.foldl_append, List.foldl_cons] at h0
  have e1 : (List.range k).foldl (stepK q a) had = had := by
    refine leB.eq ?_ (steps_le a _ had)
    have := (step_le (q := q) a ((List.range k).foldl (stepK q a) had) k).trans (steps_le (q := q) a ((List.range (q.code.length - k)).map (· + (k + 1))) _)
    rw [h0] at this
    exact this
  rw [e1] at h0
  have e2 : stepK q a had k = had := by
    refine leB.eq ?_ (step_le a had k)
    have := steps_le (q := q) a ((List.range (q.code.length - k)).map (· + (k + 1))) (stepK q a had k)
    rw [h0] at this
    exact this
  unfold stepK at e2
  rw [if_pos hc] at e2
  rw [← e2]
  exact marks_all _ _ (fun m hm => by have := (next_le hin hm).1; omega) n hn
def cnt (l : List Bool) : Nat := l.countP id
theorem cnt_le {x y : List Bool} (h : leB x y) : cnt x ≤ cnt y ∧ (cnt x = cnt y → x = y) := by
  obtain ⟨hl, hk⟩ := h
  induction x generalizing y with
  | nil =>
    have : y = [] := List.length_eq_zero_iff.1 hl.symm
    subst this; exact ⟨Nat.le_refl _, fun _ => rfl⟩
  | cons b x ih =>
    rcases y with _ | ⟨c, y⟩
    · simp at hl
    · have h1 := ih (y := y) (by simpa using hl) (fun k hx => by have := hk (k + 1); simp at this hx ⊢; exact this hx)
      have h0 := hk 0
      simp at h0
      unfold cnt at h1 ⊢
      rcases b with _ | _ <;> rcases c with _ | _ <;> simp at h0 ⊢
      · exact ⟨h1.1, fun e => h1.2 e⟩
      · exact ⟨by omega, fun e => by omega⟩
      · exact ⟨h1.1, fun e => h1.2 e⟩
theorem cnt_max (l : List Bool) : cnt l ≤ l.length := List.countP_le_length
theorem rounds_same {a : Nat} (r : Nat) {had : List Bool} (h : roundK q a had = had) : roundsK q a r had = had := by
  induction r with
  | zero => rfl
  | succ r ih => unfold roundsK; rw [h]; exact ih
theorem rounds_shut {a : Nat} (hin : InP q) : ∀ (r : Nat) (had : List Bool), had.length = q.code.length + 1 → q.code.length + 1 ≤ cnt had + r → Shut q a (roundsK q a r had)
  | 0, had, hl, hc => by
    have hcm := cnt_max had
    have hall : had = List.replicate had.length true := by
      have : cnt had = had.length := by omega
      exact List.eq_replicate_iff.2 ⟨rfl, fun b hb => by have := List.countP_eq_length.1 this b hb; simpa using this⟩
    intro k _ _ n hn
    show had.getD n false = true
    have := (next_le hin hn).1
    rw [hall, List.getD_eq_getElem?_getD, List.getElem?_replicate, if_pos (by omega)]; rfl
  | r + 1, had, hl, hc => by
    by_cases hs : roundK q a had = had
    · rw [rounds_same _ hs]; exact shut_of_same hin hl hs
    · have hle := round_le (q := q) a had
      have h1 := cnt_le hle
      have hne : cnt had ≠ cnt (roundK q a had) := fun e => hs (h1.2 e).symm
      exact rounds_shut hin r (roundK q a had) (by rw [← hle.1]; exact hl) (by omega)
/-- The rounds tell just what can be reached. -/
theorem reach_iff (hin : InP q) {a b : Nat} (ha : a ≤ q.code.length) : (wayL q a).getD b false = true ↔ Way q a b := by
  have hl : (List.replicate (q.code.length + 1) false).length = q.code.length + 1 := by simp
  constructor
  · exact rounds_ok (a := a) _ _ (fun k hk => by rw [List.getD_eq_getElem?_getD, List.getElem?_replicate] at hk; split at hk <;> simp at hk) b
  · have hs := rounds_shut (a := a) hin (q.code.length + 1) _ hl (by omega)
    rintro ⟨m, hm⟩
    induction m generalizing b with
    | zero => exact hs a ha (.inl rfl) b hm
    | succ m ih =>
      obtain ⟨c, hc, hn⟩ := hm
      exact hs c (by have := (next_le hin hn).2; omega) (.inr (ih hc)) b hn
theorem reach_len (a : Nat) : (wayL q a).length = q.code.length + 1 := by
  have := (rounds_le (q := q) a (q.code.length + 1) (List.replicate (q.code.length + 1) false)).1
  rw [List.length_replicate] at this
  exact this.symm
end
end Go.Proofs.YtapjgobkpehgfaaDoor

/- The model, in plain lists: a state, a step, a run; what is so of all states of a run. -/
namespace Go.Proofs.YtapjgobkpehgfaaDoor
set_option linter.unusedSimpArgs false
set_option linter.unusedVariables false

structure PSt where
  x : List Int
  p : List Int
  g : List Int
  objs : List (List Int)
  out : List Int
  pc : Nat
  steps : Nat
section
variable {q : PProg} {s : PSt} {i : PIns}
end
end Go.Proofs.YtapjgobkpehgfaaDoor

/- The model, in plain lists: all pointers are nothing, or of objects of their types; runs. -/
namespace Go.Proofs.YtapjgobkpehgfaaDoor
set_option linter.unusedSimpArgs false
set_option linter.unusedVariables false

/-- A value of a type that is pointed to: nothing, or the number of an object of that type. -/
def PtrOk (ts : List Nat) (v t : Int) : Prop := v = 0 ∨ (1 ≤ v ∧ v ≤ ts.length ∧ ((ts.getD (v.toNat - 1) 0 : Nat) : Int) = t)
theorem PtrOk.more {ts : List Nat} {v t : Int} (h : PtrOk ts v t) (n : Nat) : PtrOk (ts ++ [n]) v t := by
  rcases h with h | ⟨h1, h2, h3⟩
  · exact .inl h
  · refine .inr ⟨h1, by simp; omega, ?_⟩
    rw [← h3, List.getD_eq_getElem?_getD, List.getD_eq_getElem?_getD, List.getElem?_append_left (by omega)]
theorem PtrOk.nil (ts : List Nat) (t : Int) : PtrOk ts 0 t := .inl rfl
theorem PtrOk.range {ts : List Nat} {v t : Int} (h : PtrOk ts v t) : 0 ≤ v ∧ v ≤ ts.length := by
  rcases h with h | ⟨h1, h2, _⟩ <;> omega
end Go.Proofs.YtapjgobkpehgfaaDoor
