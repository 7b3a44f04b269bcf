/-
  Which objects are written whole, in plain lists: the document's Last; what lies between an object's making and its last write.
  What the statements of layer 10 ask of Last, in plain lists.
  The set of the fields that are left, as the program keeps it: a bit for each.
-/
import Derived.Test.YtbpijfncjboamaaDoorVPa
import Derived.Test.YtbpijfncjboamaaDoorHNF
import Derived.WalkKit

/- Which objects are written whole, in plain lists: the document's Last; what lies between an object's making and its last write. -/
namespace Go.Proofs.YtbpijfncjboamaaDoor
set_option linter.unusedSimpArgs false
set_option linter.unusedVariables false

/-- Neither reads a field, nor makes, nor changes p[a]. -/
def passI (i : PIns) (a : Int) : Bool := decide (i.op = 1 ∨ i.op = 2 ∨ i.op = 14 ∨ i.op = 15) || (decide (i.op = 6 ∨ i.op = 7) && decide (i.a ≠ a))
def putsI (i : PIns) (a : Int) : Bool := decide (i.op = 9 ∨ i.op = 11) && decide (i.a = a)
def goF (a : Int) : Int → List Bool → List PIns → Nat → Int
  | _, _, [], _ => -1
  | left, had, i :: r, k =>
    if putsI i a = true then
      (if (if had.getD i.n.toNat false = true then left else left - 1) = 0 then (k : Int) else goF a (if had.getD i.n.toNat false = true then left else left - 1) (had.set i.n.toNat true) r (k + 1))
    else if passI i a = true then goF a left had r (k + 1) else -1
def nought6 : List Bool := List.replicate 6 false
section
variable {q : PProg}
def lastL (q : PProg) (k : Nat) : Int := match q.code[k]? with
  | some i => if i.op = 5 then goF i.a (sizeP q.types (localI q i.a)) nought6 (q.code.drop (k + 1)) (k + 1) else -1
  | none => -1
def lastV (q : PProg) (k : Int) : Int := if k < 0 ∨ (q.code.length : Int) ≤ k then -1 else lastL q k.toNat
theorem lastV_none {k : Int} (h : k < 0 ∨ (q.code.length : Int) ≤ k) : lastV q k = -1 := by unfold lastV; rw [if_pos h]
theorem lastV_nat {k : Nat} (h : k < q.code.length) : lastV q (k : Int) = lastL q k := by unfold lastV; rw [if_neg (by omega), Int.toNat_natCast]
theorem lastL_at {k : Nat} {i : PIns} (hi : q.code[k]? = some i) (h5 : i.op = 5) : lastL q k = goF i.a (sizeP q.types (localI q i.a)) nought6 (q.code.drop (k + 1)) (k + 1) := by
  unfold lastL; rw [hi]; simp only; rw [if_pos h5]
theorem lastL_no {k : Nat} {i : PIns} (hi : q.code[k]? = some i) (h5 : i.op ≠ 5) : lastL q k = -1 := by
  unfold lastL; rw [hi]; simp only; rw [if_neg h5]
theorem puts_iff {i : PIns} {a : Int} : putsI i a = true ↔ (i.op = 9 ∨ i.op = 11) ∧ i.a = a := by unfold putsI; simp
theorem pass_iff {i : PIns} {a : Int} : passI i a = true ↔ (i.op = 1 ∨ i.op = 2 ∨ i.op = 14 ∨ i.op = 15) ∨ ((i.op = 6 ∨ i.op = 7) ∧ i.a ≠ a) := by unfold passI; simp
/-- What was written. -/
def hadL (a : Int) (had : List Bool) (l : List PIns) : List Bool := l.foldl (fun h i => if putsI i a = true then h.set i.n.toNat true else h) had
theorem hadL_len (a : Int) (l : List PIns) (had : List Bool) : (hadL a had l).length = had.length := by
  induction l generalizing had with
  | nil => rfl
  | cons i l ih =>
    unfold hadL
    rw [List.foldl_cons]
    have := ih (if putsI i a = true then had.set i.n.toNat true else had)
    unfold hadL at this
    rw [this]
    split
    · simp
    · rfl
theorem cnt_set {had : List Bool} {n : Nat} (h : n < had.length) : cnt (had.set n true) = cnt had + if had.getD n false = true then 0 else 1 := by
  induction had generalizing n with
  | nil => simp at h
  | cons b l ih =>
    cases n with
    | zero =>
      show (true :: l).countP id = (b :: l).countP id + _
      cases b <;> simp
    | succ n =>
      have := ih (n := n) (by simpa using h)
      show (b :: l.set n true).countP id = (b :: l).countP id + _
      unfold cnt at this
      cases b
      · simpa using this
      · simp only [List.countP_cons, id]
        have e : (true :: l).getD (n + 1) false = l.getD n false := rfl
        rw [e]
        simp only [if_true]
        omega
theorem hadL_cnt (a : Int) (l : List PIns) (had : List Bool) : cnt (hadL a had l) ≤ cnt had + l.countP (fun i => putsI i a) := by
  induction l generalizing had with
  | nil => exact Nat.le_refl _
  | cons i l ih =>
    have h1 := ih (if putsI i a = true then had.set i.n.toNat true else had)
    have e : hadL a had (i :: l) = hadL a (if putsI i a = true then had.set i.n.toNat true else had) l := rfl
    rw [e, List.countP_cons]
    by_cases hp : putsI i a = true
    · rw [if_pos hp] at h1 ⊢
      rw [if_pos hp]
      have h2 : cnt (had.set i.n.toNat true) ≤ cnt had + 1 := by
        rcases Nat.lt_or_ge i.n.toNat had.length with h3 | h3
        · rw [cnt_set h3]; split <;> omega
        · rw [List.set_eq_of_length_le h3]; omega
      omega
    · rw [if_neg hp] at h1 ⊢
      rw [if_neg hp]
      omega
/-- What Last tells, it tells with reason. -/
theorem goF_spec {a S : Int} : ∀ (r : List PIns) (left : Int) (had : List Bool) (k : Nat) (n : Int), had.length = 6 → (∀ i ∈ r, putsI i a = true → i.n.toNat < 6) → left = S - (cnt had : Int) → goF a left had r k = n → n ≠ -1 →
    ∃ j i, r[j]? = some i ∧ n = ((k + j : Nat) : Int) ∧ putsI i a = true ∧ ((cnt (hadL a had (r.take (j + 1))) : Nat) : Int) = S ∧ ∀ l x, l < j → r[l]? = some x → putsI x a = true ∨ passI x a = true
  | [], _, _, _, n, _, _, _, h, hn => by unfold goF at h; exact absurd h.symm hn
  | i :: r, left, had, k, n, hl, hb, hS, h, hn => by
    unfold goF at h
    by_cases hp : putsI i a = true
    · rw [if_pos hp] at h
      have hi6 := hb i List.mem_cons_self hp
      have hc := cnt_set (had := had) (n := i.n.toNat) (by omega)
      have hleft : (if had.getD i.n.toNat false = true then left else left - 1) = S - ((cnt (had.set i.n.toNat true) : Nat) : Int) := by
        rw [hc]
        split
        · simpa using hS
        · omega
      by_cases h0 : (if had.getD i.n.toNat false = true then left else left - 1) = 0
      · rw [if_pos h0] at h
        refine ⟨0, i, rfl, by rw [← h]; simp, hp, ?_, fun l x hl0 => by omega⟩
        have e : hadL a had ((i :: r).take (0 + 1)) = had.set i.n.toNat true := by
          show hadL a had [i] = _
          unfold hadL
          simp [hp]
        rw [e]
        omega
      · rw [if_neg h0] at h
        obtain ⟨j, x, h1, h2, h3, h4, h5⟩ := goF_spec r _ (had.set i.n.toNat true) (k + 1) n (by simpa using hl) (fun y hy => hb y (List.mem_cons_of_mem _ hy)) hleft h hn
        refine ⟨j + 1, x, h1, by rw [h2]; congr 1; omega, h3, ?_, fun l y hl0 hy => ?_⟩
        · have e : hadL a had ((i :: r).take (j + 1 + 1)) = hadL a (had.set i.n.toNat true) (r.take (j + 1)) := by
            show hadL a had (i :: r.take (j + 1)) = _
            unfold hadL
            rw [List.foldl_cons, if_pos hp]
          rw [e]; exact h4
        · cases l with
          | zero => obtain rfl := Option.some.inj hy; exact .inl hp
          | succ l => exact h5 l y (by omega) hy
    · rw [if_neg hp] at h
      by_cases hq : passI i a = true
      · rw [if_pos hq] at h
        obtain ⟨j, x, h1, h2, h3, h4, h5⟩ := goF_spec r left had (k + 1) n hl (fun y hy => hb y (List.mem_cons_of_mem _ hy)) hS h hn
        refine ⟨j + 1, x, h1, by rw [h2]; congr 1; omega, h3, ?_, fun l y hl0 hy => ?_⟩
        · have e : hadL a had ((i :: r).take (j + 1 + 1)) = hadL a had (r.take (j + 1)) := by
            show hadL a had (i :: r.take (j + 1)) = _
            unfold hadL
            rw [List.foldl_cons, if_neg hp]
          rw [e]; exact h4
        · cases l with
          | zero => obtain rfl := Option.some.inj hy; exact .inr hq
          | succ l => exact h5 l y (by omega) hy
      · rw [if_neg hq] at h
        exact absurd h.symm hn
/-- What is behind the last write does not matter. -/
theorem goF_take {a : Int} : ∀ (r : List PIns) (left : Int) (had : List Bool) (k : Nat) (n : Nat) (m : Nat), goF a left had r k = (n : Int) → n < k + m → goF a left had (r.take m) k = (n : Int)
  | [], _, _, _, n, _, h, _ => by unfold goF at h; omega
  | i :: r, left, had, k, n, m, h, hm => by
    unfold goF at h
    cases m with
    | zero =>
      exfalso
      by_cases hp : putsI i a = true
      · rw [if_pos hp] at h
        by_cases h0 : (if had.getD i.n.toNat false = true then left else left - 1) = 0
        · rw [if_pos h0] at h; omega
        · rw [if_neg h0] at h
          have := goF_ge r _ _ (k + 1) n h
          omega
      · rw [if_neg hp] at h
        by_cases hq : passI i a = true
        · rw [if_pos hq] at h
          have := goF_ge r _ _ (k + 1) n h
          omega
        · rw [if_neg hq] at h; omega
    | succ m =>
      show goF a left had (i :: r.take m) k = _
      unfold goF
      by_cases hp : putsI i a = true
      · rw [if_pos hp] at h ⊢
        by_cases h0 : (if had.getD i.n.toNat false = true then left else left - 1) = 0
        · rw [if_pos h0] at h ⊢; exact h
        · rw [if_neg h0] at h ⊢
          exact goF_take r _ _ (k + 1) n m h (by omega)
      · rw [if_neg hp] at h ⊢
        by_cases hq : passI i a = true
        · rw [if_pos hq] at h ⊢
          exact goF_take r _ _ (k + 1) n m h (by omega)
        · rw [if_neg hq] at h; omega
where
  goF_ge {a : Int} : ∀ (r : List PIns) (left : Int) (had : List Bool) (k : Nat) (n : Nat), goF a left had r k = (n : Int) → k ≤ n
    | [], _, _, _, n, h => by unfold goF at h; omega
    | i :: r, left, had, k, n, h => by
      unfold goF at h
      by_cases hp : putsI i a = true
      · rw [if_pos hp] at h
        by_cases h0 : (if had.getD i.n.toNat false = true then left else left - 1) = 0
        · rw [if_pos h0] at h; omega
        · rw [if_neg h0] at h
          have := goF_ge r _ _ (k + 1) n h
          omega
      · rw [if_neg hp] at h
        by_cases hq : passI i a = true
        · rw [if_pos hq] at h
          have := goF_ge r _ _ (k + 1) n h
          omega
        · rw [if_neg hq] at h; omega
theorem goF_or (a : Int) : ∀ (r : List PIns) (left : Int) (had : List Bool) (k : Nat), goF a left had r k = -1 ∨ ∃ n : Nat, goF a left had r k = (n : Int) ∧ k ≤ n ∧ n < k + r.length
  | [], _, _, _ => .inl rfl
  | i :: r, left, had, k => by
    unfold goF
    by_cases hp : putsI i a = true
    · rw [if_pos hp]
      by_cases h0 : (if had.getD i.n.toNat false = true then left else left - 1) = 0
      · rw [if_pos h0]; exact .inr ⟨k, rfl, Nat.le_refl _, by simp⟩
      · rw [if_neg h0]
        rcases goF_or a r (if had.getD i.n.toNat false = true then left else left - 1) (had.set i.n.toNat true) (k + 1) with h | ⟨n, h, h1, h2⟩
        · exact .inl h
        · exact .inr ⟨n, h, by omega, by simp; omega⟩
    · rw [if_neg hp]
      by_cases hq : passI i a = true
      · rw [if_pos hq]
        rcases goF_or a r left had (k + 1) with h | ⟨n, h, h1, h2⟩
        · exact .inl h
        · exact .inr ⟨n, h, by omega, by simp; omega⟩
      · rw [if_neg hq]; exact .inl rfl
theorem lastL_or (k : Nat) : lastL q k = -1 ∨ ∃ n : Nat, lastL q k = (n : Int) ∧ k < n ∧ n < q.code.length := by
  rcases hi : q.code[k]? with _ | i
  · unfold lastL; rw [hi]; exact .inl rfl
  · have hk := (List.getElem?_eq_some_iff.1 hi).1
    by_cases h5 : i.op = 5
    · rw [lastL_at hi h5]
      rcases goF_or i.a (q.code.drop (k + 1)) (sizeP q.types (localI q i.a)) nought6 (k + 1) with h | ⟨n, h, h1, h2⟩
      · exact .inl h
      · rw [List.length_drop] at h2
        exact .inr ⟨n, h, by omega, by omega⟩
    · exact .inl (lastL_no hi h5)
/-- A store's field is one of six, in a program that may be run. -/
theorem puts_six (hc : (checkL q).2 = 0) (hok : ∀ i ∈ q.code, OkI i) {i : PIns} (hm : i ∈ q.code) {a : Int} (hp : putsI i a = true) : 0 ≤ i.n ∧ i.n < sizeP q.types (localI q a) ∧ sizeP q.types (localI q a) ≤ 6 := by
  obtain ⟨hh, _, _, hall, _⟩ := check_ok hc
  obtain ⟨hrt, hju, hin, hki⟩ := ins_parts (hall i hm)
  obtain ⟨o0, o1, a0, a1, b0, b1, c0, c1, n0, n1⟩ := hok i hm
  obtain ⟨ho, rfl⟩ := puts_iff.1 hp
  have h6 : sizeP q.types (localI q i.a) ≤ 6 := size_le6
  rcases ho with h9 | h11
  · have hl : 0 ≤ localI q i.a ∧ numF q.types (localI q i.a) i.n = true := by unfold kindsB at hki; simpa [h9] using hki
    have := num_parts hl.2
    exact ⟨by omega, by omega, h6⟩
  · have hl : 0 ≤ localI q i.a ∧ sameT (localI q i.b) (toP q.types (localI q i.a) i.n) = true := by unfold kindsB at hki; simpa [h11] using hki
    obtain ⟨m1, m2⟩ := same_parts hl.2
    have := toP_has (ts := q.types) (t := localI q i.a) (n := i.n) (by omega)
    exact ⟨by omega, by omega, h6⟩
where
  size_le6 {ts : List Bs} {t : Int} : sizeP ts t ≤ 6 := by
    exact (sizeI_le (ts := tsP ts) (t := t)).2
end
end Go.Proofs.YtbpijfncjboamaaDoor

/- What the statements of layer 10 ask of Last, in plain lists. -/
namespace Go.Proofs.YtbpijfncjboamaaDoor
set_option linter.unusedSimpArgs false
set_option linter.unusedVariables false

section
variable {q : PProg}
/-- The instructions behind one place, up to another. -/
def segL (q : PProg) (k m : Nat) : List PIns := (q.code.drop (k + 1)).take (m - (k + 1))
theorem seg_at {k m j : Nat} {i : PIns} (hi : q.code[j]? = some i) (h1 : k < j) (h2 : j < m) : (segL q k m)[j - (k + 1)]? = some i := by
  unfold segL
  rw [List.getElem?_take, if_pos (by omega), List.getElem?_drop, show k + 1 + (j - (k + 1)) = j by omega]
  exact hi
theorem seg_next {k m : Nat} {i : PIns} (hi : q.code[m]? = some i) (h : k < m) : segL q k (m + 1) = segL q k m ++ [i] := by
  unfold segL
  rw [show m + 1 - (k + 1) = (m - (k + 1)) + 1 by omega, List.take_add_one, List.getElem?_drop, show k + 1 + (m - (k + 1)) = m by omega, hi]
  rfl
theorem seg_0 (k : Nat) : segL q k (k + 1) = [] := by unfold segL; simp
/-- What Last tells. -/
structure LastAt (q : PProg) (k n : Nat) (i0 : PIns) : Prop where
  hi : q.code[k]? = some i0
  h5 : i0.op = 5
  lt : k < n
  len : n < q.code.length
  mid : ∀ m i, k < m → m < n → q.code[m]? = some i → putsI i i0.a = true ∨ passI i i0.a = true
  fin : ∃ i, q.code[n]? = some i ∧ putsI i i0.a = true
  all : ((cnt (hadL i0.a nought6 (segL q k (n + 1))) : Nat) : Int) = sizeP q.types (localI q i0.a)
theorem last_at (hc : (checkL q).2 = 0) (hok : ∀ i ∈ q.code, OkI i) {k n : Nat} (h : lastL q k = (n : Int)) : ∃ i0, LastAt q k n i0 := by
  rcases hi : q.code[k]? with _ | i0
  · unfold lastL at h; rw [hi] at h; simp only at h; omega
  have hk := (List.getElem?_eq_some_iff.1 hi).1
  by_cases h5 : i0.op = 5
  · rw [lastL_at hi h5] at h
    obtain ⟨j, i, h1, h2, h3, h4, h6⟩ := goF_spec (S := sizeP q.types (localI q i0.a)) _ _ nought6 (k + 1) (n : Int) rfl (fun i him hp => by
      have := puts_six hc hok (List.mem_of_mem_drop him) hp
      omega) (by simp [nought6, cnt]) h (by omega)
    rw [List.getElem?_drop] at h1
    obtain rfl : n = k + 1 + j := by omega
    refine ⟨i0, hi, h5, by omega, (List.getElem?_eq_some_iff.1 h1).1, fun m x hm1 hm2 hx => h6 (m - (k + 1)) x (by omega) (by rw [List.getElem?_drop, show k + 1 + (m - (k + 1)) = m by omega]; exact hx), ⟨i, h1, h3⟩, ?_⟩
    unfold segL
    rw [show k + 1 + j + 1 - (k + 1) = j + 1 by omega]
    exact h4
  · rw [lastL_no hi h5] at h; omega
theorem last_ge {k : Nat} (h : lastL q k ≠ -1) : 0 ≤ lastL q k := by
  rcases lastL_or (q := q) k with h1 | ⟨n, h1, _⟩
  · exact absurd h1 h
  · omega
/-- An object behind whose making comes what is neither. -/
theorem last_next {k : Nat} {i j : PIns} (hi : q.code[k]? = some i) (hj : q.code[k + 1]? = some j) (h : j.op = 3 ∨ j.op = 4 ∨ j.op = 5 ∨ j.op = 8 ∨ j.op = 10 ∨ j.op = 12 ∨ j.op = 13) : lastL q k = -1 := by
  by_cases h5 : i.op = 5
  · rw [lastL_at hi h5]
    have hd : q.code.drop (k + 1) = j :: q.code.drop (k + 1 + 1) := by
      obtain ⟨hlt, rfl⟩ := List.getElem?_eq_some_iff.1 hj
      exact List.drop_eq_getElem_cons hlt
    have hp : ¬ putsI j i.a = true := by rw [puts_iff]; omega
    have hq : ¬ passI j i.a = true := by rw [pass_iff]; omega
    rw [hd]
    unfold goF
    rw [if_neg hp, if_neg hq]
  · exact lastL_no hi h5
theorem last_end {k : Nat} (h : q.code.length ≤ k + 1) : lastL q k = -1 := by
  rcases lastL_or (q := q) k with h1 | ⟨n, _, h2, h3⟩
  · exact h1
  · omega
theorem safe_op {k : Nat} {i : PIns} (hi : q.code[k]? = some i) (h : safeL q k = true) : i.op = 3 ∨ i.op = 4 ∨ i.op = 5 := by
  unfold safeL at h
  rw [hi] at h
  simp only [Bool.or_eq_true, Bool.and_eq_true, decide_eq_true_eq] at h
  omega
/-! ### A program that ends sooner -/
def cutQ (q : PProg) (m : Nat) : PProg := { q with code := q.code.take m }
theorem cutQ_len {m : Nat} (h : m ≤ q.code.length) : (cutQ q m).code.length = m := by show (q.code.take m).length = m; rw [List.length_take]; omega
theorem cutQ_ok {m : Nat} (h : OkP q) : OkP (cutQ q m) := ⟨h.ty, h.lo, h.gl, fun i hi => h.ins i (List.mem_of_mem_take hi)⟩
theorem cutQ_at {m j : Nat} {i : PIns} (h : (cutQ q m).code[j]? = some i) : q.code[j]? = some i := by
  have h1 : (q.code.take m)[j]? = some i := h
  rw [List.getElem?_take] at h1
  split at h1
  · exact h1
  · cases h1
theorem check_cut (hc : (checkL q).2 = 0) {m : Nat} (h1 : 1 ≤ m) (hm : m ≤ q.code.length) (hj : ∀ i ∈ q.code.take m, jumpI i = false) : (checkL (cutQ q m)).2 = 0 := by
  obtain ⟨hh, _, h2, hall, _⟩ := check_ok hc
  have hh' : headB (cutQ q m) = true := hh
  have hl := cutQ_len hm
  rw [check_code hh' (by rw [hl]; exact h1) (by rw [hl]; omega), firstE_all 0 ?_]
  intro i hi
  have him : i ∈ q.code.take m := hi
  have h3 := hall i (List.mem_of_mem_take him)
  have h4 := hj i him
  unfold insE at h3 ⊢
  by_cases r1 : rightL i = false
  · rw [if_pos r1] at h3; cases h3
  rw [if_neg r1] at h3 ⊢
  rw [if_neg (by rw [h4]; simp)] at h3 ⊢
  exact h3
theorem last_cut {k n : Nat} (h : lastL q k = (n : Int)) (hn : n < q.code.length) : lastL (cutQ q (n + 1)) k = (n : Int) := by
  rcases hi : q.code[k]? with _ | i0
  · unfold lastL at h; rw [hi] at h; simp only at h; omega
  by_cases h5 : i0.op = 5
  · rw [lastL_at hi h5] at h
    have hkn : k < n := by
      rcases goF_or i0.a (q.code.drop (k + 1)) (sizeP q.types (localI q i0.a)) nought6 (k + 1) with h1 | ⟨n', h1, h2, h3⟩
      · omega
      · omega
    have hi' : (cutQ q (n + 1)).code[k]? = some i0 := by
      show (q.code.take (n + 1))[k]? = _
      rw [List.getElem?_take, if_pos (by omega)]; exact hi
    rw [lastL_at hi' h5]
    have hd : (cutQ q (n + 1)).code.drop (k + 1) = (q.code.drop (k + 1)).take (n - k) := by
      show (q.code.take (n + 1)).drop (k + 1) = _
      rw [List.drop_take, show n + 1 - (k + 1) = n - k by omega]
    rw [hd]
    exact goF_take _ _ _ (k + 1) n (n - k) h (by omega)
  · rw [lastL_no hi h5] at h; omega
end
end Go.Proofs.YtbpijfncjboamaaDoor

/- The set of the fields that are left, as the program keeps it: a bit for each. -/
namespace Go.Proofs.YtbpijfncjboamaaDoor
set_option linter.unusedSimpArgs false
set_option linter.unusedVariables false
open Go.RowKit

/-- The fields that are left of S ones, as a sum of powers. -/
def leftM (S : Nat) (had : List Bool) : Nat := (List.range 6).foldl (fun m k => if k < S ∧ had.getD k false = false then m + 2 ^ k else m) 0
/-- What was written is of the S fields. -/
def InS (S : Nat) (had : List Bool) : Prop := ∀ k, k < 6 → had.getD k false = true → k < S
theorem six_of {had : List Bool} (h : had.length = 6) : ∃ a b c d e f, had = [a, b, c, d, e, f] := by
  rcases had with _ | ⟨a, _ | ⟨b, _ | ⟨c, _ | ⟨d, _ | ⟨e, _ | ⟨f, _ | ⟨g, l⟩⟩⟩⟩⟩⟩⟩ <;> first | (simp at h; done) | skip
  exact ⟨a, b, c, d, e, f, rfl⟩
set_option maxRecDepth 100000 in
theorem left_nought : ∀ S, S < 7 → leftM S nought6 = 2 ^ S - 1 := by decide
set_option maxRecDepth 100000 in
theorem left_step' : ∀ S, S < 7 → ∀ n, n < S → ∀ a b c d e f : Bool, bits BinOp.andNot IntKind.u8 ((leftM S [a, b, c, d, e, f] : Nat) : Int) ((2 ^ n : Nat) : Int) = ((leftM S ([a, b, c, d, e, f].set n true) : Nat) : Int) := by decide +kernel
set_option maxRecDepth 100000 in
theorem left_none' : ∀ S, S < 7 → ∀ a b c d e f : Bool, (∀ k, k < 6 → [a, b, c, d, e, f].getD k false = true → k < S) → (leftM S [a, b, c, d, e, f] = 0 ↔ cnt [a, b, c, d, e, f] = S) := by decide +kernel
set_option maxRecDepth 100000 in
theorem left_max' : ∀ S, S < 7 → ∀ a b c d e f : Bool, leftM S [a, b, c, d, e, f] < 64 := by decide +kernel
theorem left_step {S n : Nat} {had : List Bool} (hl : had.length = 6) (hS : S ≤ 6) (hn : n < S) : bits BinOp.andNot IntKind.u8 ((leftM S had : Nat) : Int) ((2 ^ n : Nat) : Int) = ((leftM S (had.set n true) : Nat) : Int) := by
  obtain ⟨a, b, c, d, e, f, rfl⟩ := six_of hl
  exact left_step' S (by omega) n hn a b c d e f
theorem left_none {S : Nat} {had : List Bool} (hl : had.length = 6) (hS : S ≤ 6) (hi : InS S had) : leftM S had = 0 ↔ cnt had = S := by
  obtain ⟨a, b, c, d, e, f, rfl⟩ := six_of hl
  exact left_none' S (by omega) a b c d e f hi
theorem left_max {S : Nat} {had : List Bool} (hl : had.length = 6) (hS : S ≤ 6) : leftM S had < 64 := by
  obtain ⟨a, b, c, d, e, f, rfl⟩ := six_of hl
  exact left_max' S (by omega) a b c d e f
theorem nought_no : ∀ k, k < 6 → nought6.getD k false = false := by decide
theorem inS_nought (S : Nat) : InS S nought6 := fun k hk h => by rw [nought_no k hk] at h; cases h
theorem InS.set {S n : Nat} {had : List Bool} (h : InS S had) (hn : n < S) : InS S (had.set n true) := by
  intro k hk hg
  by_cases e : k = n
  · omega
  · refine h k hk ?_
    rw [List.getD_eq_getElem?_getD, List.getElem?_set_ne (by omega), ← List.getD_eq_getElem?_getD] at hg
    exact hg
end Go.Proofs.YtbpijfncjboamaaDoor
