/-
  Plain lists: texts as lines of words, as the document says them. No program is named here.
  Plain lists: what Join tells comes back from Lines; lengths; texts one behind the other.
  Plain lists: decimal words.
  Plain lists: decimal numbers and their texts.
  Programs as texts, in plain lists: what an operation is called, what a program's lines are, and what is read from lines.
  Layer 3, in plain words: types as texts, their fields, what one comes to by them.
  The letters of operations.
-/

/- Plain lists: texts as lines of words, as the document says them. No program is named here. -/
import Derived.Lib.SplitLaws
import Derived.Lib.Join
import Derived.Lib.IndexBytes
import Derived.Lib.ItoaNum
import Derived.Lib.ParseIntB
import Derived.Lib.ParseIntBTie
import Derived.Lib.ItoaMem
import Derived.Lib.ItoaLen
import Derived.Lib.Hide
namespace Go.Proofs.YtapjgobkpehgfaaGreatDoor
set_option linter.unusedSimpArgs false
set_option linter.unusedVariables false

abbrev Bs := List UInt8

def okC (c : UInt8) : Bool := (decide (97 ≤ c.toNat) && decide (c.toNat ≤ 122)) || (decide (48 ≤ c.toNat) && decide (c.toNat ≤ 57)) || decide (c.toNat = 45)
def mayL (w : Bs) : Bool := decide (w.length ≤ 30) && w.all okC
end Go.Proofs.YtapjgobkpehgfaaGreatDoor

/- Plain lists: what Join tells comes back from Lines; lengths; texts one behind the other. -/
namespace Go.Proofs.YtapjgobkpehgfaaGreatDoor
set_option linter.unusedSimpArgs false
set_option linter.unusedVariables false

end Go.Proofs.YtapjgobkpehgfaaGreatDoor

/- Plain lists: decimal words. -/
namespace Go.Proofs.YtapjgobkpehgfaaGreatDoor
set_option linter.unusedSimpArgs false
set_option linter.unusedVariables false

def trimL : Bs → Bs
  | [] => []
  | c :: r => if c = 45 then r else c :: r
def digC (c : UInt8) : Bool := decide (48 ≤ c.toNat) && decide (c.toNat ≤ 57)
def decL (l : Bs) : Bool := !(trimL l).isEmpty && (trimL l).all digC && ((trimL l).head? != some 48 || l == [48])
end Go.Proofs.YtapjgobkpehgfaaGreatDoor

/- Plain lists: decimal numbers and their texts. -/
namespace Go.Proofs.YtapjgobkpehgfaaGreatDoor
set_option linter.unusedSimpArgs false
set_option linter.unusedVariables false

/-- The number that digits spell behind acc. -/
def vf (acc : Nat) (l : Bs) : Nat := l.foldl (fun a c => a * 10 + (c.toNat - 48)) acc
theorem vf_cons (acc : Nat) (c : UInt8) (l : Bs) : vf acc (c :: l) = vf (acc * 10 + (c.toNat - 48)) l := by unfold vf; rw [List.foldl_cons]
theorem vf_snoc (acc : Nat) (l : Bs) (c : UInt8) : vf acc (l ++ [c]) = vf acc l * 10 + (c.toNat - 48) := by unfold vf; rw [List.foldl_append, List.foldl_cons, List.foldl_nil]
theorem vf_nil (acc : Nat) : vf acc [] = acc := by unfold vf; rw [List.foldl_nil]
theorem vf_ge : ∀ (l : Bs) (acc : Nat), acc ≤ vf acc l
  | [], acc => Nat.le_refl _
  | c :: l, acc => by rw [vf_cons]; exact Nat.le_trans (by omega) (vf_ge l _)
theorem vf_pow : ∀ (l : Bs) (acc : Nat), acc * 10 ^ l.length ≤ vf acc l
  | [], acc => by simp [vf]
  | c :: l, acc => by
    rw [vf_cons]
    refine Nat.le_trans ?_ (vf_pow l _)
    rw [List.length_cons, Nat.pow_succ, Nat.mul_comm (10 ^ l.length) 10, ← Nat.mul_assoc]
    exact Nat.mul_le_mul_right _ (by omega)
theorem dig_le {c : UInt8} (h : digC c = true) : 48 ≤ c.toNat ∧ c.toNat ≤ 57 := by
  unfold digC at h
  obtain ⟨h1, h2⟩ := Bool.and_eq_true_iff.1 h
  exact ⟨of_decide_eq_true h1, of_decide_eq_true h2⟩
theorem vf_lt : ∀ (l : Bs) (acc : Nat), l.all digC = true → vf acc l < (acc + 1) * 10 ^ l.length
  | [], acc, _ => by simp [vf]
  | c :: l, acc, h => by
    rw [List.all_cons, Bool.and_eq_true] at h
    have hc := dig_le h.1
    rw [vf_cons]
    refine Nat.lt_of_lt_of_le (vf_lt l _ h.2) ?_
    rw [List.length_cons, Nat.pow_succ, Nat.mul_comm (10 ^ l.length) 10, ← Nat.mul_assoc]
    exact Nat.mul_le_mul_right _ (by omega)

/-- What Number answers. -/
def numL (s : Bs) : Int × Nat :=
  if decL s = true then
    if s.head? = some 45 then (if 9223372036854775808 < vf 0 (trimL s) then (0, 3) else (-(vf 0 (trimL s) : Int), 0))
    else (if 9223372036854775808 ≤ vf 0 (trimL s) then (0, 3) else ((vf 0 (trimL s) : Int), 0))
  else (0, 4)

theorem decL_parts {s : Bs} (h : decL s = true) : trimL s ≠ [] ∧ (trimL s).all digC = true ∧ ((trimL s).head? ≠ some 48 ∨ s = [48]) := by
  unfold decL at h
  obtain ⟨h1, h3⟩ := Bool.and_eq_true_iff.1 h
  obtain ⟨h1, h2⟩ := Bool.and_eq_true_iff.1 h1
  refine ⟨by intro e; rw [e] at h1; simp at h1, h2, ?_⟩
  rcases Bool.or_eq_true_iff.1 h3 with h | h
  · left; simpa using h
  · right; simpa using h
theorem decL_mk {s : Bs} (h1 : trimL s ≠ []) (h2 : (trimL s).all digC = true) (h3 : (trimL s).head? ≠ some 48 ∨ s = [48]) : decL s = true := by
  unfold decL
  have e1 : (trimL s).isEmpty = false := by cases h : trimL s with
    | nil => exact absurd h h1
    | cons _ _ => rfl
  rw [e1, h2]
  rcases h3 with h | h
  · have : ((trimL s).head? != some 48) = true := by simpa using h
    rw [this]; rfl
  · subst h; rfl
theorem trim_minus (r : Bs) : trimL (45 :: r) = r := by show (if (45 : UInt8) = 45 then r else 45 :: r) = r; rw [if_pos rfl]
theorem trim_other {c : UInt8} (h : c ≠ 45) (r : Bs) : trimL (c :: r) = c :: r := by show (if c = 45 then r else c :: r) = c :: r; rw [if_neg h]
theorem dig_ne {c : UInt8} (h : digC c = true) : c.toNat ≠ 43 ∧ c.toNat ≠ 45 := by have := dig_le h; omega

theorem dig_of (u : Nat) (h : u < 10) : digC (UInt8.ofNat (48 + u)) = true ∧ (UInt8.ofNat (48 + u)).toNat = 48 + u := by
  have e : (UInt8.ofNat (48 + u)).toNat = 48 + u := by rw [UInt8.toNat_ofNat']; omega
  refine ⟨?_, e⟩
  unfold digC; rw [e]; simp; omega
theorem ofNat_dig {c : UInt8} (h : digC c = true) : UInt8.ofNat (48 + (c.toNat - 48)) = c := by
  have := dig_le h
  apply UInt8.toNat_inj.1
  rw [UInt8.toNat_ofNat']; omega
/-- The digits of a number. -/
theorem decDigits_all (u : Nat) : Lib.decDigits u ≠ [] ∧ (Lib.decDigits u).all digC = true ∧ vf 0 (Lib.decDigits u) = u ∧ (u ≠ 0 → (Lib.decDigits u).head? ≠ some 48) := by
  induction u using Nat.strongRecOn with
  | _ u ih =>
    by_cases h : u < 10
    · have hd := dig_of u h
      rw [Lib.decDigits_one h]
      refine ⟨by simp, by rw [List.all_cons, hd.1]; rfl, ?_, fun h0 => ?_⟩
      · rw [vf_cons, vf_nil, hd.2]; omega
      · intro e
        have e' : UInt8.ofNat (48 + u) = 48 := by simpa using e
        have := congrArg UInt8.toNat e'
        rw [hd.2] at this
        have e48 : (48 : UInt8).toNat = 48 := rfl
        omega
    · obtain ⟨i1, i2, i3, i4⟩ := ih (u / 10) (by omega)
      have hd := dig_of (u % 10) (by omega)
      rw [Lib.decDigits, dif_neg h]
      refine ⟨by simp, ?_, ?_, fun _ => ?_⟩
      · rw [List.all_append, i2, List.all_cons, hd.1]; rfl
      · rw [vf_snoc, i3, hd.2]; omega
      · have i4' := i4 (by omega)
        cases hx : Lib.decDigits (u / 10) with
        | nil => exact absurd hx i1
        | cons a r => rw [hx] at i4'; rw [List.cons_append]; simpa using i4'
theorem decDigits_zero : Lib.decDigits 0 = [48] := by rw [Lib.decDigits_one (by decide)]; rfl
theorem vf_pos {d : Bs} (h1 : d ≠ []) (h2 : d.all digC = true) (h3 : d.head? ≠ some 48) : 1 ≤ vf 0 d := by
  cases d with
  | nil => exact absurd rfl h1
  | cons c r =>
    rw [List.all_cons, Bool.and_eq_true] at h2
    have hc := dig_le h2.1
    have hn : c.toNat ≠ 48 := fun e => h3 (by
      have : c = 48 := UInt8.toNat_inj.1 (by rw [e]; rfl)
      rw [this]; rfl)
    rw [vf_cons]
    exact Nat.le_trans (by omega) (vf_ge r _)
theorem snoc_ind {P : Bs → Prop} (h0 : P []) (h1 : ∀ l c, P l → P (l ++ [c])) : ∀ l, P l := by
  intro l
  have : ∀ m : Bs, P m.reverse := by
    intro m
    induction m with
    | nil => exact h0
    | cons c m ih => rw [List.reverse_cons]; exact h1 _ _ ih
  have := this l.reverse
  rwa [List.reverse_reverse] at this
theorem decDigits_back : ∀ d : Bs, d ≠ [] → d.all digC = true → (d.head? ≠ some 48 ∨ d = [48]) → Lib.decDigits (vf 0 d) = d := by
  refine snoc_ind ?_ ?_
  · intro h; exact absurd rfl h
  · intro l c ih _ h2 h3
    rw [List.all_append, Bool.and_eq_true] at h2
    have hc : digC c = true := by have := h2.2; simpa using this
    have hcl := dig_le hc
    rw [vf_snoc]
    cases l with
    | nil =>
      rw [vf_nil, Lib.decDigits_one (by omega), List.nil_append]
      congr 1
      rw [Nat.zero_mul, Nat.zero_add]
      exact ofNat_dig hc
    | cons a r =>
      have h3' : (a :: r).head? ≠ some 48 := by
        rcases h3 with h | h
        · simpa using h
        · have := congrArg List.length h; simp at this
      have hp := vf_pos (by simp) h2.1 h3'
      have hi := ih (by simp) h2.1 (.inl h3')
      rw [Lib.decDigits, dif_neg (by omega)]
      have e1 : (vf 0 (a :: r) * 10 + (c.toNat - 48)) / 10 = vf 0 (a :: r) := by omega
      have e2 : (vf 0 (a :: r) * 10 + (c.toNat - 48)) % 10 = c.toNat - 48 := by omega
      rw [e1, e2, hi, ofNat_dig hc]

/-- Numbers come back from their texts. -/
theorem head_dig {d : Bs} (h1 : d ≠ []) (h2 : d.all digC = true) : trimL d = d ∧ d.head? ≠ some 45 := by
  cases d with
  | nil => exact absurd rfl h1
  | cons c r =>
    rw [List.all_cons, Bool.and_eq_true] at h2
    have hn := dig_ne h2.1
    have hc : c ≠ 45 := fun e => hn.2 (by rw [e]; rfl)
    exact ⟨trim_other hc r, by simpa using hc⟩
theorem num_itoa (n : Int) (h0 : -9223372036854775808 ≤ n) (h1 : n ≤ 9223372036854775807) : numL (Lib.itoa n) = (n, 0) ∧ decL (Lib.itoa n) = true := by
  by_cases hn : 0 ≤ n
  · obtain ⟨u, rfl⟩ : ∃ u : Nat, n = u := ⟨n.toNat, by omega⟩
    rw [Lib.itoa_nonneg]
    obtain ⟨d1, d2, d3, d4⟩ := decDigits_all u
    obtain ⟨t1, t2⟩ := head_dig d1 d2
    have hdec : decL (Lib.decDigits u) = true := by
      refine decL_mk (by rw [t1]; exact d1) (by rw [t1]; exact d2) ?_
      rw [t1]
      by_cases hu : u = 0
      · right; rw [hu, decDigits_zero]
      · left; exact d4 hu
    refine ⟨?_, hdec⟩
    unfold numL
    rw [if_pos hdec, if_neg t2, t1, d3, if_neg (by omega)]
  · obtain ⟨u, rfl⟩ : ∃ u : Nat, n = -(u : Int) := ⟨n.natAbs, by omega⟩
    have hu : 1 ≤ u := by omega
    rw [Lib.itoa_neg u hu]
    obtain ⟨d1, d2, d3, d4⟩ := decDigits_all u
    have hdec : decL (45 :: Lib.decDigits u) = true :=
      decL_mk (by rw [trim_minus]; exact d1) (by rw [trim_minus]; exact d2) (.inl (by rw [trim_minus]; exact d4 (by omega)))
    refine ⟨?_, hdec⟩
    unfold numL
    rw [if_pos hdec, if_pos (show (45 :: Lib.decDigits u).head? = some 45 from rfl), trim_minus, d3, if_neg (by omega)]
theorem num_back {s : Bs} {v : Int} (h : numL s = (v, 0)) : Lib.itoa v = s ∧ -9223372036854775808 ≤ v ∧ v ≤ 9223372036854775807 := by
  unfold numL at h
  by_cases hd : decL s = true
  · rw [if_pos hd] at h
    obtain ⟨h1, h2, h3⟩ := decL_parts hd
    cases s with
    | nil => exact absurd rfl h1
    | cons c r =>
      by_cases hc : c = 45
      · subst hc
        rw [if_pos (show (45 :: r).head? = some 45 from rfl), trim_minus] at h
        rw [trim_minus] at h1 h2 h3
        have h3' : r.head? ≠ some 48 := by
          rcases h3 with h | h
          · exact h
          · simp at h
        have hp := vf_pos h1 h2 h3'
        split at h
        · simp at h
        · next hu =>
          obtain ⟨rfl, _⟩ := Prod.mk.inj h
          rw [Lib.itoa_neg _ hp, decDigits_back r h1 h2 (.inl h3')]
          exact ⟨rfl, by omega, by omega⟩
      · rw [if_neg (show (c :: r).head? ≠ some 45 by simpa using hc), trim_other hc] at h
        rw [trim_other hc] at h1 h2 h3
        split at h
        · simp at h
        · next hu =>
          obtain ⟨rfl, _⟩ := Prod.mk.inj h
          rw [Lib.itoa_nonneg, decDigits_back _ h1 h2 h3]
          exact ⟨rfl, by omega, by omega⟩
  · rw [if_neg hd] at h; simp at h

/-- The document's way: nineteen digits at the most. -/
theorem num_long {s : Bs} (h : decL s = true) (hl : 19 < (trimL s).length) : numL s = (0, 3) := by
  obtain ⟨h1, h2, h3⟩ := decL_parts h
  have h3' : (trimL s).head? ≠ some 48 := by
    rcases h3 with h | h
    · exact h
    · subst h; simp [trimL] at hl
  have hbig : 9223372036854775808 < vf 0 (trimL s) := by
    cases hd : trimL s with
    | nil => exact absurd hd h1
    | cons c r =>
      rw [hd] at h2 h3' hl
      rw [List.all_cons, Bool.and_eq_true] at h2
      have hc := dig_le h2.1
      have hn : c.toNat ≠ 48 := fun e => h3' (by
        have : c = 48 := UInt8.toNat_inj.1 (by rw [e]; rfl)
        rw [this]; rfl)
      rw [vf_cons]
      refine Nat.lt_of_lt_of_le ?_ (vf_pow r _)
      have hr : 19 ≤ r.length := by simp at hl; omega
      have hp : 10 ^ 19 ≤ 10 ^ r.length := Nat.pow_le_pow_right (by decide) hr
      have : 1 * 10 ^ 19 ≤ (0 * 10 + (c.toNat - 48)) * 10 ^ r.length := Nat.mul_le_mul (by omega) hp
      have e19 : (10 : Nat) ^ 19 = 10000000000000000000 := by decide
      omega
  unfold numL
  rw [if_pos h]
  by_cases hh : s.head? = some 45
  · rw [if_pos hh, if_pos hbig]
  · rw [if_neg hh, if_pos (by omega)]
theorem vf_short {d : Bs} (h : d.all digC = true) (hl : d.length ≤ 19) : vf 0 d < 10000000000000000000 := by
  have := vf_lt d 0 h
  have hp : 10 ^ d.length ≤ 10 ^ 19 := Nat.pow_le_pow_right (by decide) hl
  have e19 : (10 : Nat) ^ 19 = 10000000000000000000 := by decide
  omega
theorem all_take {d : Bs} (h : d.all digC = true) (k : Nat) : (d.take k).all digC = true :=
  List.all_eq_true.2 fun x hx => List.all_eq_true.1 h x (List.mem_of_mem_take hx)
end Go.Proofs.YtapjgobkpehgfaaGreatDoor

/- Programs as texts, in plain lists: what an operation is called, what a program's lines are, and what is read from lines. -/
namespace Go.Proofs.YtapjgobkpehgfaaGreatDoor
set_option linter.unusedSimpArgs false
set_option linter.unusedVariables false

structure PIns where
  op : Int
  a : Int
  b : Int
  c : Int
  n : Int

def OPS : List (Int × Bs × Bs) :=
  [(1, [115, 101, 116], [65, 78]), (2, [97, 100, 100], [65, 66, 67]), (3, [106, 117, 109, 112], [78]), (4, [122, 101, 114, 111], [65, 78]), (5, [110, 101, 119], [65]),
   (6, [110, 105, 108], [65]), (7, [109, 111, 118, 101], [65, 66]), (8, [108, 111, 97, 100, 105], [65, 66, 78]), (9, [115, 116, 111, 114, 101, 105], [65, 78, 66]), (10, [108, 111, 97, 100, 112], [65, 66, 78]),
   (11, [115, 116, 111, 114, 101, 112], [65, 78, 66]), (12, [108, 111, 97, 100, 103], [65, 66]), (13, [115, 116, 111, 114, 101, 103], [65, 66]), (14, [112, 114, 105, 110, 116], [65]), (15, [115, 97, 109, 101], [65, 66, 67])]
def byOpL (op : Int) : Option (Int × Bs × Bs) := OPS.find? (fun o => o.1 == op)
def byNameL (s : Bs) : Option (Int × Bs × Bs) := OPS.find? (fun o => o.2.1 == s)
def partL (i : PIns) (c : UInt8) : Int := if c = 65 then i.a else if c = 66 then i.b else if c = 67 then i.c else i.n
def setL (i : PIns) (c : UInt8) (v : Int) : PIns := if c = 65 then { i with a := v } else if c = 66 then { i with b := v } else if c = 67 then { i with c := v } else { i with n := v }
def clearL (i : PIns) : Bs → PIns
  | [] => i
  | c :: cs => clearL (setL i c 0) cs
def zeroI (i : PIns) : Bool := decide (i.a = 0) && decide (i.b = 0) && decide (i.c = 0) && decide (i.n = 0)
def rightL (i : PIns) : Bool := match byOpL i.op with
  | none => false
  | some o => zeroI (clearL i o.2.2)
def wordsI (i : PIns) : List Bs := match byOpL i.op with
  | none => [[]]
  | some o => o.2.1 :: o.2.2.map (fun c => Lib.itoa (partL i c))
/-- May a letter be given this word? -/
def fitL (c : UInt8) (w : Bs) : Bool := decide ((numL w).2 = 0) && (decide (c = 78) || (decide (0 ≤ (numL w).1) && decide ((numL w).1 ≤ 255)))
def readL : Bs → List Bs → PIns → Option PIns
  | c :: cs, w :: ws, i => if fitL c w then readL cs ws (setL i c (numL w).1) else none
  | [], _, i => some i
  | _, [], _ => none
def instrL (ws : List Bs) : Option PIns := match byNameL (ws.headD []) with
  | none => none
  | some o => if ws.length = 1 + o.2.2.length then readL o.2.2 ws.tail ⟨o.1, 0, 0, 0, 0⟩ else none
structure OkI (i : PIns) : Prop where
  o0 : 0 ≤ i.op
  o1 : i.op ≤ 255
  a0 : 0 ≤ i.a
  a1 : i.a ≤ 255
  b0 : 0 ≤ i.b
  b1 : i.b ≤ 255
  c0 : 0 ≤ i.c
  c1 : i.c ≤ 255
  n0 : -9223372036854775808 ≤ i.n
  n1 : i.n ≤ 9223372036854775807

structure PProg where
  types : List Bs
  locals : Bs
  globs : Bs
  code : List PIns
def kType : Bs := [116, 121, 112, 101]
def kLocals : Bs := [108, 111, 99, 97, 108, 115]
def kGlobals : Bs := [103, 108, 111, 98, 97, 108, 115]
/-! ### Operations -/
theorem byOp_mem {op : Int} {o : Int × Bs × Bs} (h : byOpL op = some o) : o ∈ OPS ∧ o.1 = op := by
  have h1 := List.mem_of_find?_eq_some h
  have h2 := List.find?_some h
  exact ⟨h1, by simpa using h2⟩
theorem byName_mem {s : Bs} {o : Int × Bs × Bs} (h : byNameL s = some o) : o ∈ OPS ∧ o.2.1 = s := by
  have h1 := List.mem_of_find?_eq_some h
  have h2 := List.find?_some h
  exact ⟨h1, by simpa using h2⟩
theorem ops_cases {o : Int × Bs × Bs} (h : o ∈ OPS) : byOpL o.1 = some o ∧ byNameL o.2.1 = some o ∧ o.2.1 ≠ [] ∧ (1 ≤ o.1 ∧ o.1 ≤ 15) ∧ mayL o.2.1 = true ∧ o.2.1 ≠ kType ∧ o.2.1 ≠ kLocals ∧ o.2.1 ≠ kGlobals ∧
    o.2.2 ∈ [[65, 78], [65, 66, 67], [78], [65], [65, 66], [65, 66, 78], [65, 78, 66]] := by
  simp only [OPS, List.mem_cons, List.not_mem_nil, or_false] at h
  rcases h with rfl | rfl | rfl | rfl | rfl | rfl | rfl | rfl | rfl | rfl | rfl | rfl | rfl | rfl | rfl <;> exact ⟨by decide, by decide, by decide, by decide, by decide, by decide, by decide, by decide, by decide⟩

theorem numL_itoa {v : Int} (h0 : -9223372036854775808 ≤ v) (h1 : v ≤ 9223372036854775807) : numL (Lib.itoa v) = (v, 0) := (num_itoa v h0 h1).1
theorem fit_itoa {c : UInt8} {v : Int} (h : c = 78 ∨ (0 ≤ v ∧ v ≤ 255)) (h0 : -9223372036854775808 ≤ v) (h1 : v ≤ 9223372036854775807) : fitL c (Lib.itoa v) = true := by
  unfold fitL
  rw [numL_itoa h0 h1]
  rcases h with rfl | ⟨h2, h3⟩
  · simp
  · simp [h2, h3]

/-- An instruction that may be is read from its words. -/
theorem instr_words {i : PIns} (ho : OkI i) (h : rightL i = true) : instrL (wordsI i) = some i := by
  unfold rightL at h
  rcases hb : byOpL i.op with _ | o
  · rw [hb] at h; cases h
  · rw [hb] at h
    obtain ⟨hm, h1⟩ := byOp_mem hb
    obtain ⟨_, hn, _, _, _, _, _, _, hh⟩ := ops_cases hm
    unfold wordsI instrL
    rw [hb]
    simp only [List.headD_cons, hn, List.length_cons, List.length_map, List.tail_cons]
    rw [if_pos (by omega), h1]
    obtain ⟨x, a, b, c, n⟩ := i
    obtain ⟨o0, o1, a0, a1, b0, b1, c0, c1, n0, n1⟩ := ho
    simp only at *
    simp only [List.mem_cons, List.not_mem_nil, or_false] at hh
    have fa : fitL 65 (Lib.itoa a) = true := fit_itoa (.inr ⟨a0, a1⟩) (by omega) (by omega)
    have fb : fitL 66 (Lib.itoa b) = true := fit_itoa (.inr ⟨b0, b1⟩) (by omega) (by omega)
    have fc : fitL 67 (Lib.itoa c) = true := fit_itoa (.inr ⟨c0, c1⟩) (by omega) (by omega)
    have fn : fitL 78 (Lib.itoa n) = true := fit_itoa (.inl rfl) n0 n1
    have na : numL (Lib.itoa a) = (a, 0) := numL_itoa (by omega) (by omega)
    have nb : numL (Lib.itoa b) = (b, 0) := numL_itoa (by omega) (by omega)
    have nc : numL (Lib.itoa c) = (c, 0) := numL_itoa (by omega) (by omega)
    have nn : numL (Lib.itoa n) = (n, 0) := numL_itoa n0 n1
    rcases hh with hh | hh | hh | hh | hh | hh | hh <;> (rw [hh] at h ⊢; simp [clearL, setL, zeroI] at h; simp [readL, setL, partL, fa, fb, fc, fn, na, nb, nc, nn, h])

theorem fit_back {c : UInt8} {w : Bs} (h : fitL c w = true) : Lib.itoa (numL w).1 = w ∧ -9223372036854775808 ≤ (numL w).1 ∧ (numL w).1 ≤ 9223372036854775807 ∧ (c = 78 ∨ (0 ≤ (numL w).1 ∧ (numL w).1 ≤ 255)) := by
  unfold fitL at h
  simp only [Bool.and_eq_true, Bool.or_eq_true, decide_eq_true_eq] at h
  have e : numL w = ((numL w).1, 0) := by rw [← h.1]
  obtain ⟨h1, h2, h3⟩ := num_back e
  exact ⟨h1, h2, h3, h.2⟩

theorem len1 {α : Type} {l : List α} (h : l.length = 1) : ∃ a, l = [a] := by match l, h with | [a], _ => exact ⟨a, rfl⟩
theorem len2 {α : Type} {l : List α} (h : l.length = 2) : ∃ a b, l = [a, b] := by match l, h with | [a, b], _ => exact ⟨a, b, rfl⟩
theorem len3 {α : Type} {l : List α} (h : l.length = 3) : ∃ a b c, l = [a, b, c] := by match l, h with | [a, b, c], _ => exact ⟨a, b, c, rfl⟩

theorem read_some {c : UInt8} {cs : Bs} {w : Bs} {ws : List Bs} {i j : PIns} (h : readL (c :: cs) (w :: ws) i = some j) : fitL c w = true ∧ readL cs ws (setL i c (numL w).1) = some j := by
  have h' : (if fitL c w = true then readL cs ws (setL i c (numL w).1) else none) = some j := h
  by_cases hf : fitL c w = true
  · rw [if_pos hf] at h'; exact ⟨hf, h'⟩
  · rw [if_neg hf] at h'; cases h'

/-- What is read from words has those words, and may be. -/
theorem words_instr {ws : List Bs} {i : PIns} (h : instrL ws = some i) : wordsI i = ws ∧ rightL i = true ∧ OkI i := by
  unfold instrL at h
  rcases hb : byNameL (ws.headD []) with _ | o
  · rw [hb] at h; cases h
  · rw [hb] at h
    simp only at h
    obtain ⟨hm, h1⟩ := byName_mem hb
    obtain ⟨ho, _, hne, ⟨g1, g2⟩, _, _, _, _, hh⟩ := ops_cases hm
    by_cases hl : ws.length = 1 + o.2.2.length
    · rw [if_pos hl] at h
      rcases ws with _ | ⟨w0, ws⟩
      · simp at hl; omega
      · simp only [List.headD_cons] at h1
        simp only [List.tail_cons, List.length_cons] at h hl
        have hl' : ws.length = o.2.2.length := by omega
        obtain ⟨x, nm, hs⟩ := o
        simp only at *
        subst h1
        simp only [List.mem_cons, List.not_mem_nil, or_false] at hh
        rcases hh with rfl | rfl | rfl | rfl | rfl | rfl | rfl
        · obtain ⟨a, b, rfl⟩ := len2 hl'
          obtain ⟨f1, h⟩ := read_some h
          obtain ⟨f2, h⟩ := read_some h
          obtain ⟨a1, a2, a3, a4⟩ := fit_back f1
          obtain ⟨b1, b2, b3, b4⟩ := fit_back f2
          simp [readL, setL] at h
          subst h
          exact ⟨by simp [wordsI, ho, partL, a1, b1], by simp [rightL, ho, clearL, setL, zeroI], by constructor <;> simp_all <;> omega⟩
        · obtain ⟨a, b, c, rfl⟩ := len3 hl'
          obtain ⟨f1, h⟩ := read_some h
          obtain ⟨f2, h⟩ := read_some h
          obtain ⟨f3, h⟩ := read_some h
          obtain ⟨a1, a2, a3, a4⟩ := fit_back f1
          obtain ⟨b1, b2, b3, b4⟩ := fit_back f2
          obtain ⟨c1, c2, c3, c4⟩ := fit_back f3
          simp [readL, setL] at h
          subst h
          exact ⟨by simp [wordsI, ho, partL, a1, b1, c1], by simp [rightL, ho, clearL, setL, zeroI], by constructor <;> simp_all <;> omega⟩
        · obtain ⟨a, rfl⟩ := len1 hl'
          obtain ⟨f1, h⟩ := read_some h
          obtain ⟨a1, a2, a3, a4⟩ := fit_back f1
          simp [readL, setL] at h
          subst h
          exact ⟨by simp [wordsI, ho, partL, a1], by simp [rightL, ho, clearL, setL, zeroI], by constructor <;> simp_all <;> omega⟩
        · obtain ⟨a, rfl⟩ := len1 hl'
          obtain ⟨f1, h⟩ := read_some h
          obtain ⟨a1, a2, a3, a4⟩ := fit_back f1
          simp [readL, setL] at h
          subst h
          exact ⟨by simp [wordsI, ho, partL, a1], by simp [rightL, ho, clearL, setL, zeroI], by constructor <;> simp_all <;> omega⟩
        · obtain ⟨a, b, rfl⟩ := len2 hl'
          obtain ⟨f1, h⟩ := read_some h
          obtain ⟨f2, h⟩ := read_some h
          obtain ⟨a1, a2, a3, a4⟩ := fit_back f1
          obtain ⟨b1, b2, b3, b4⟩ := fit_back f2
          simp [readL, setL] at h
          subst h
          exact ⟨by simp [wordsI, ho, partL, a1, b1], by simp [rightL, ho, clearL, setL, zeroI], by constructor <;> simp_all <;> omega⟩
        · obtain ⟨a, b, c, rfl⟩ := len3 hl'
          obtain ⟨f1, h⟩ := read_some h
          obtain ⟨f2, h⟩ := read_some h
          obtain ⟨f3, h⟩ := read_some h
          obtain ⟨a1, a2, a3, a4⟩ := fit_back f1
          obtain ⟨b1, b2, b3, b4⟩ := fit_back f2
          obtain ⟨c1, c2, c3, c4⟩ := fit_back f3
          simp [readL, setL] at h
          subst h
          exact ⟨by simp [wordsI, ho, partL, a1, b1, c1], by simp [rightL, ho, clearL, setL, zeroI], by constructor <;> simp_all <;> omega⟩
        · obtain ⟨a, b, c, rfl⟩ := len3 hl'
          obtain ⟨f1, h⟩ := read_some h
          obtain ⟨f2, h⟩ := read_some h
          obtain ⟨f3, h⟩ := read_some h
          obtain ⟨a1, a2, a3, a4⟩ := fit_back f1
          obtain ⟨b1, b2, b3, b4⟩ := fit_back f2
          obtain ⟨c1, c2, c3, c4⟩ := fit_back f3
          simp [readL, setL] at h
          subst h
          exact ⟨by simp [wordsI, ho, partL, a1, b1, c1], by simp [rightL, ho, clearL, setL, zeroI], by constructor <;> simp_all <;> omega⟩
    · rw [if_neg hl] at h; cases h
end Go.Proofs.YtapjgobkpehgfaaGreatDoor

/- Layer 3, in plain words: types as texts, their fields, what one comes to by them. -/
namespace Go.Proofs.YtapjgobkpehgfaaGreatDoor
set_option linter.unusedSimpArgs false
set_option linter.unusedVariables false

/-- The byte at k, as a number. -/
def byt (s : ByteArray) (k : Nat) : Nat := (s.data.toList.getD k 0).toNat
theorem byt_at {s : ByteArray} {k : Nat} (h : k < s.size) : s[k].toNat = byt s k := by
  have h' : k < s.data.toList.length := by rw [Array.length_toList]; exact h
  unfold byt
  rw [List.getD_eq_getElem?_getD, List.getElem?_eq_getElem h']
  rfl
theorem byt_lt (s : ByteArray) (k : Nat) : byt s k < 256 := UInt8.toNat_lt _

def digB (n c : Nat) : Bool := decide (48 ≤ c ∧ c < 48 + n)
def letB (n c : Nat) : Bool := c == 105 || digB n c
def okB (n : Nat) (s : ByteArray) : Bool := decide (1 ≤ s.size ∧ s.size ≤ 6 ∧ ∀ k, k < s.size → letB n (byt s k) = true)
def ty (ts : List ByteArray) (t : Nat) : ByteArray := ts.getD t ByteArray.empty
def rightB (ts : List ByteArray) : Bool := decide (1 ≤ ts.length ∧ ts.length ≤ 8 ∧ ∀ t, t < ts.length → okB ts.length (ty ts t) = true)
def refsB (ts : List ByteArray) (s : ByteArray) : Bool := rightB ts && decide (∀ k, k < s.size → digB ts.length (byt s k) = true)
def oneB (ts : List ByteArray) (t : Int) : Bool := decide (0 ≤ t ∧ t < ts.length) && rightB ts

theorem ty_get {ts : List ByteArray} {t : Nat} (h : t < ts.length) : ts[t]? = some (ty ts t) := by
  unfold ty
  rw [List.getD_eq_getElem?_getD, List.getElem?_eq_getElem h]
  rfl
theorem ty_mem {ts : List ByteArray} {t : Nat} (h : t < ts.length) : ty ts t ∈ ts := List.mem_of_getElem? (ty_get h)

theorem dig_iff {n c : Nat} : digB n c = true ↔ 48 ≤ c ∧ c < 48 + n := by simp [digB]
theorem dig_no {n c : Nat} : digB n c = false ↔ ¬ (48 ≤ c ∧ c < 48 + n) := by simp only [digB, decide_eq_false_iff_not]
theorem let_iff {n c : Nat} : letB n c = true ↔ c = 105 ∨ digB n c = true := by simp [letB]
theorem let_no {n c : Nat} : letB n c = false ↔ c ≠ 105 ∧ digB n c = false := by simp [letB]
theorem ok_iff {n : Nat} {s : ByteArray} : okB n s = true ↔ 1 ≤ s.size ∧ s.size ≤ 6 ∧ ∀ k, k < s.size → letB n (byt s k) = true := by simp [okB]
theorem ok_size {n : Nat} {s : ByteArray} (h : s.size < 1 ∨ 6 < s.size) : okB n s = false := by
  rw [Bool.eq_false_iff]; intro h'
  have := ok_iff.1 h'
  omega
theorem ok_let {n k : Nat} {s : ByteArray} (hk : k < s.size) (h : letB n (byt s k) = false) : okB n s = false := by
  rw [Bool.eq_false_iff]; intro h'
  rw [(ok_iff.1 h').2.2 k hk] at h
  exact absurd h (by decide)
theorem right_iff {ts : List ByteArray} : rightB ts = true ↔ 1 ≤ ts.length ∧ ts.length ≤ 8 ∧ ∀ t, t < ts.length → okB ts.length (ty ts t) = true := by simp [rightB]
theorem right_size {ts : List ByteArray} (h : ts.length < 1 ∨ 8 < ts.length) : rightB ts = false := by
  rw [Bool.eq_false_iff]; intro h'
  have := right_iff.1 h'
  omega
theorem right_ok {ts : List ByteArray} {t : Nat} (ht : t < ts.length) (h : okB ts.length (ty ts t) = false) : rightB ts = false := by
  rw [Bool.eq_false_iff]; intro h'
  rw [(right_iff.1 h').2.2 t ht] at h
  exact absurd h (by decide)
theorem one_t {ts : List ByteArray} {t : Int} (h0 : 0 ≤ t) (h1 : t < ts.length) (h : rightB ts = true) : oneB ts t = true := by
  unfold oneB; rw [h, decide_eq_true ⟨h0, h1⟩]; rfl
theorem one_iff {ts : List ByteArray} {t : Int} : oneB ts t = true ↔ 0 ≤ t ∧ t < ts.length ∧ rightB ts = true := by
  simp [oneB, and_assoc]
theorem one_no {ts : List ByteArray} {t : Int} : oneB ts t = false ↔ (t < 0 ∨ (ts.length : Int) ≤ t) ∨ rightB ts = false := by
  rw [Bool.eq_false_iff, Ne, one_iff]
  cases rightB ts <;> simp <;> omega
theorem refs_iff {ts : List ByteArray} {s : ByteArray} : refsB ts s = true ↔ rightB ts = true ∧ ∀ k, k < s.size → digB ts.length (byt s k) = true := by simp [refsB]
theorem refs_no {ts : List ByteArray} {s : ByteArray} {k : Nat} (hk : k < s.size) (h : digB ts.length (byt s k) = false) : refsB ts s = false := by
  rw [Bool.eq_false_iff]; intro h'
  rw [(refs_iff.1 h').2 k hk] at h
  exact absurd h (by decide)
theorem refs_right {ts : List ByteArray} {s : ByteArray} (h : rightB ts = false) : refsB ts s = false := by
  unfold refsB; rw [h]; rfl

/-- What a letter points to; -1: it is a number. -/
def ptrI (c : Nat) : Int := if c = 105 then -1 else (c : Int) - 48
theorem ptr_i : ptrI 105 = -1 := rfl
theorem ptr_d {c : Nat} (h : c ≠ 105) : ptrI c = (c : Int) - 48 := by simp [ptrI, h]

def sizeI (ts : List ByteArray) (t : Int) : Int := if oneB ts t = true then ((ty ts t.toNat).size : Int) else 0
def toI (ts : List ByteArray) (t f : Int) : Int := if oneB ts t = true ∧ 0 ≤ f ∧ f < (ty ts t.toNat).size then ptrI (byt (ty ts t.toNat) f.toNat) else -1
/-- One field of a points to b. -/
def Edge (ts : List ByteArray) (a b : Nat) : Prop := a < ts.length ∧ ∃ k, k < (ty ts a).size ∧ byt (ty ts a) k ≠ 105 ∧ byt (ty ts a) k = b + 48
inductive Rch (ts : List ByteArray) (t : Nat) : Nat → Prop
  | here : Rch ts t t
  | more {a b : Nat} : Rch ts t a → Edge ts a b → Rch ts t b
theorem edge_lt {ts : List ByteArray} (h : rightB ts = true) {a b : Nat} (he : Edge ts a b) : b < ts.length := by
  obtain ⟨ha, k, hk, h1, h2⟩ := he
  have := (ok_iff.1 ((right_iff.1 h).2.2 a ha)).2.2 k hk
  rcases let_iff.1 this with h3 | h3
  · exact absurd h3 h1
  · have := dig_iff.1 h3; omega
theorem Rch.lt {ts : List ByteArray} (h : rightB ts = true) {t : Nat} (ht : t < ts.length) {n : Nat} (hr : Rch ts t n) : n < ts.length := by
  induction hr with
  | here => exact ht
  | more _ he _ => exact edge_lt h he
theorem Rch.trans {ts : List ByteArray} {a b c : Nat} (h1 : Rch ts a b) (h2 : Rch ts b c) : Rch ts a c := by
  induction h2 with
  | here => exact h1
  | more _ he ih => exact ih.more he

end Go.Proofs.YtapjgobkpehgfaaGreatDoor

/- The letters of operations. -/
namespace Go.Proofs.YtapjgobkpehgfaaGreatDoor
set_option linter.unusedSimpArgs false
set_option linter.unusedVariables false
/-- The letters that an operation has. -/
def FourL (hs : Bs) : Prop := ∀ c ∈ hs, c = 65 ∨ c = 66 ∨ c = 67 ∨ c = 78
theorem four_ops {o : Int × Bs × Bs} (h : o ∈ OPS) : FourL o.2.2 := by
  have h0 : OPS.all (fun o => o.2.2.all (fun c => decide (c = 65) || decide (c = 66) || decide (c = 67) || decide (c = 78))) = true := by decide
  have this := List.all_eq_true.1 h0 o h
  intro c hc
  have h1 := List.all_eq_true.1 this c hc
  simp only [Bool.or_eq_true, decide_eq_true_eq] at h1
  rcases h1 with ((h1 | h1) | h1) | h1 <;> simp [h1]
end Go.Proofs.YtapjgobkpehgfaaGreatDoor
