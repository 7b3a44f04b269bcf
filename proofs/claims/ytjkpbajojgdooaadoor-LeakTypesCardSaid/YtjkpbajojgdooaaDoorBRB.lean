/-
  Plain lists: texts as lines of words, as the document says them. No program is named here.   Plain lists: what Join tells comes back from Lines; lengths; texts one behind the other.   Plain lists: decimal words.   Plain lists: decimal numbers and their texts.   Programs as texts, in plain lists: what an operation is called, what a program's lines are, and what is read from lines.   Layer 3, in plain words: types as texts, their fields, what one comes to by them.   The letters of operations.
  Slices that lie in memory: rows of one-cell values, texts, types.
  A struct or an array in a block of its own: stored whole, and cell by cell.
  The contract of numbersOf.
  A program as it lies; the contract of Few.
-/
import Derived.Lib.SplitLaws
import Derived.Lib.Join
import Derived.Lib.IndexBytes
import Derived.Lib.ItoaNum
import Derived.Lib.ParseIntB
import Derived.Lib.ParseIntBTie
import Derived.Lib.ItoaMem
import Derived.Lib.ItoaLen
import Derived.Lib.Hide
import Derived.Test.YtjkpbajojgdooaaDoorChecked
import Derived.WalkKit
import Derived.RowKit
import Derived.IntWalk
import Derived.Below
import Derived.OwnWalk
import Derived.Laws.OwnMore
import Derived.Lib.SmallJoins
import Derived.Deep.QuietTactic
import Derived.BigQuiet
import Derived.Deep.MidRow
import Derived.Laws.Tables
import Derived.Laws.ResultCell
import Derived.WideMake
import Derived.MapKept
import Derived.Laws.RangeString

/- Plain lists: texts as lines of words, as the document says them. No program is named here.   Plain lists: what Join tells comes back from Lines; lengths; texts one behind the other.   Plain lists: decimal words.   Plain lists: decimal numbers and their texts.   Programs as texts, in plain lists: what an operation is called, what a program's lines are, and what is read from lines.   Layer 3, in plain words: types as texts, their fields, what one comes to by them.   The letters of operations. -/
/- Plain lists: texts as lines of words, as the document says them. No program is named here. -/
namespace Go.Proofs.YtjkpbajojgdooaaDoor
set_option linter.unusedSimpArgs false
set_option linter.unusedVariables false

abbrev Bs := List UInt8

def okC (c : UInt8) : Bool := (decide (97 ≤ c.toNat) && decide (c.toNat ≤ 122)) || (decide (48 ≤ c.toNat) && decide (c.toNat ≤ 57)) || decide (c.toNat = 45)
def mayL (w : Bs) : Bool := decide (w.length ≤ 30) && w.all okC
end Go.Proofs.YtjkpbajojgdooaaDoor

/- Plain lists: what Join tells comes back from Lines; lengths; texts one behind the other. -/
namespace Go.Proofs.YtjkpbajojgdooaaDoor
set_option linter.unusedSimpArgs false
set_option linter.unusedVariables false

end Go.Proofs.YtjkpbajojgdooaaDoor

/- Plain lists: decimal words. -/
namespace Go.Proofs.YtjkpbajojgdooaaDoor
set_option linter.unusedSimpArgs false
set_option linter.unusedVariables false

def trimL : Bs → Bs
  | [] => []
  | c :: r => if c = 45 then r else c :: r
def digC (c : UInt8) : Bool := decide (48 ≤ c.toNat) && decide (c.toNat ≤ 57)
def decL (l : Bs) : Bool := !(trimL l).isEmpty && (trimL l).all digC && ((trimL l).head? != some 48 || l == [48])
end Go.Proofs.YtjkpbajojgdooaaDoor

/- Plain lists: decimal numbers and their texts. -/
namespace Go.Proofs.YtjkpbajojgdooaaDoor
set_option linter.unusedSimpArgs false
set_option linter.unusedVariables false

/-- The number that digits spell behind acc. -/
def vf (acc : Nat) (l : Bs) : Nat := l.foldl (fun a c => a * 10 + (c.toNat - 48)) acc
theorem vf_cons (acc : Nat) (c : UInt8) (l : Bs) : vf acc (c :: l) = vf (acc * 10 + (c.toNat - 48)) l := by unfold vf; rw [List.foldl_cons]
theorem vf_snoc (acc : Nat) (l : Bs) (c : UInt8) : vf acc (l ++ [c]) = vf acc l * 10 + (c.toNat - 48) := by unfold vf; rw [List.foldl_append, List.foldl_cons, List.foldl_nil]
theorem vf_nil (acc : Nat) : vf acc [] = acc := by unfold vf; rw [List.foldl_nil]
theorem vf_ge : ∀ (l : Bs) (acc : Nat), acc ≤ vf acc l
  | [], acc => Nat.le_refl _
  | c :: l, acc => by rw [vf_cons]; exact Nat.le_trans (by omega) (vf_ge l _)
theorem vf_pow : ∀ (l : Bs) (acc : Nat), acc * 10 ^ l.length ≤ vf acc l
  | [], acc => by simp [vf]
  | c :: l, acc => by
    rw [vf_cons]
    refine Nat.le_trans ?_ (vf_pow l _)
    rw [List.length_cons, Nat.pow_succ, Nat.mul_comm (10 ^ l.length) 10, ← Nat.mul_assoc]
    exact Nat.mul_le_mul_right _ (by omega)
theorem dig_le {c : UInt8} (h : digC c = true) : 48 ≤ c.toNat ∧ c.toNat ≤ 57 := by
  unfold digC at h
  obtain ⟨h1, h2⟩ := Bool.and_eq_true_iff.1 h
  exact ⟨of_decide_eq_true h1, of_decide_eq_true h2⟩
theorem vf_lt : ∀ (l : Bs) (acc : Nat), l.all digC = true → vf acc l < (acc + 1) * 10 ^ l.length
  | [], acc, _ => by simp [vf]
  | c :: l, acc, h => by
    rw [List.all_cons, Bool.and_eq_true] at h
    have hc := dig_le h.1
    rw [vf_cons]
    refine Nat.lt_of_lt_of_le (vf_lt l _ h.2) ?_
    rw [List.length_cons, Nat.pow_succ, Nat.mul_comm (10 ^ l.length) 10, ← Nat.mul_assoc]
    exact Nat.mul_le_mul_right _ (by omega)

/-- What Number answers. -/
def numL (s : Bs) : Int × Nat :=
  if decL s = true then
    if s.head? = some 45 then (if 9223372036854775808 < vf 0 (trimL s) then (0, 3) else (-(vf 0 (trimL s) : Int), 0))
    else (if 9223372036854775808 ≤ vf 0 (trimL s) then (0, 3) else ((vf 0 (trimL s) : Int), 0))
  else (0, 4)

theorem decL_parts {s : Bs} (h : decL s = true) : trimL s ≠ [] ∧ (trimL s).all digC = true ∧ ((trimL s).head? ≠ some 48 ∨ s = [48]) := by
  unfold decL at h
  obtain ⟨h1, h3⟩ := Bool.and_eq_true_iff.1 h
  obtain ⟨h1, h2⟩ := Bool.and_eq_true_iff.1 h1
  refine ⟨by intro e; rw [e] at h1; simp at h1, h2, ?_⟩
  rcases Bool.or_eq_true_iff.1 h3 with h | h
  · left; simpa using h
  · right; simpa using h
theorem decL_mk {s : Bs} (h1 : trimL s ≠ []) (h2 : (trimL s).all digC = true) (h3 : (trimL s).head? ≠ some 48 ∨ s = [48]) : decL s = true := by
  unfold decL
  have e1 : (trimL s).isEmpty = false := by cases h : trimL s with
    | nil => exact absurd h h1
    | cons _ _ => rfl
  rw [e1, h2]
  rcases h3 with h | h
  · have : ((trimL s).head? != some 48) = true := by simpa using h
    rw [this]; rfl
  · subst h; rfl
theorem trim_minus (r : Bs) : trimL (45 :: r) = r := by show (if (45 : UInt8) = 45 then r else 45 :: r) = r; rw [if_pos rfl]
theorem trim_other {c : UInt8} (h : c ≠ 45) (r : Bs) : trimL (c :: r) = c :: r := by show (if c = 45 then r else c :: r) = c :: r; rw [if_neg h]
theorem dig_ne {c : UInt8} (h : digC c = true) : c.toNat ≠ 43 ∧ c.toNat ≠ 45 := by have := dig_le h; omega

theorem dig_of (u : Nat) (h : u < 10) : digC (UInt8.ofNat (48 + u)) = true ∧ (UInt8.ofNat (48 + u)).toNat = 48 + u := by
  have e : (UInt8.ofNat (48 + u)).toNat = 48 + u := by rw [UInt8.toNat_ofNat']; omega
  refine ⟨?_, e⟩
  unfold digC; rw [e]; simp; omega
theorem ofNat_dig {c : UInt8} (h : digC c = true) : UInt8.ofNat (48 + (c.toNat - 48)) = c := by
  have := dig_le h
  apply UInt8.toNat_inj.1
  rw [UInt8.toNat_ofNat']; omega
/-- The digits of a number. -/
theorem decDigits_all (u : Nat) : Lib.decDigits u ≠ [] ∧ (Lib.decDigits u).all digC = true ∧ vf 0 (Lib.decDigits u) = u ∧ (u ≠ 0 → (Lib.decDigits u).head? ≠ some 48) := by
  induction u using Nat.strongRecOn with
  | _ u ih =>
    by_cases h : u < 10
    · have hd := dig_of u h
      rw [Lib.decDigits_one h]
      refine ⟨by simp, by rw [List.all_cons, hd.1]; rfl, ?_, fun h0 => ?_⟩
      · rw [vf_cons, vf_nil, hd.2]; omega
      · intro e
        have e' : UInt8.ofNat (48 + u) = 48 := by simpa using e
        have := congrArg UInt8.toNat e'
        rw [hd.2] at this
        have e48 : (48 : UInt8).toNat = 48 := rfl
        omega
    · obtain ⟨i1, i2, i3, i4⟩ := ih (u / 10) (by omega)
      have hd := dig_of (u % 10) (by omega)
      rw [Lib.decDigits, dif_neg h]
      refine ⟨by simp, ?_, ?_, fun _ => ?_⟩
      · rw [List.all_append, i2, List.all_cons, hd.1]; rfl
      · rw [vf_snoc, i3, hd.2]; omega
      · have i4' := i4 (by omega)
        cases hx : Lib.decDigits (u / 10) with
        | nil => exact absurd hx i1
        | cons a r => rw [hx] at i4'; rw [List.cons_append]; simpa using i4'
theorem decDigits_zero : Lib.decDigits 0 = [48] := by rw [Lib.decDigits_one (by decide)]; rfl
theorem vf_pos {d : Bs} (h1 : d ≠ []) (h2 : d.all digC = true) (h3 : d.head? ≠ some 48) : 1 ≤ vf 0 d := by
  cases d with
  | nil => exact absurd rfl h1
  | cons c r =>
    rw [List.all_cons, Bool.and_eq_true] at h2
    have hc := dig_le h2.1
    have hn : c.toNat ≠ 48 := fun e => h3 (by
      have : c = 48 := UInt8.toNat_inj.1 (by rw [e]; rfl)
      rw [this]; rfl)
    rw [vf_cons]
    exact Nat.le_trans (by omega) (vf_ge r _)
theorem snoc_ind {P : Bs → Prop} (h0 : P []) (h1 : ∀ l c, P l → P (l ++ [c])) : ∀ l, P l := by
  intro l
  have : ∀ m : Bs, P m.reverse := by
    intro m
    induction m with
    | nil => exact h0
    | cons c m ih => rw [List.reverse_cons]; exact h1 _ _ ih
  have := this l.reverse
  rwa [List.reverse_reverse] at this
theorem decDigits_back : ∀ d : Bs, d ≠ [] → d.all digC = true → (d.head? ≠ some 48 ∨ d = [48]) → Lib.decDigits (vf 0 d) = d := by
  refine snoc_ind ?_ ?_
  · intro h; exact absurd rfl h
  · intro l c ih _ h2 h3
    rw [List.all_append, Bool.and_eq_true] at h2
    have hc : digC c = true := by have := h2.2; simpa using this
    have hcl := dig_le hc
    rw [vf_snoc]
    cases l with
    | nil =>
      rw [vf_nil, Lib.decDigits_one (by omega), List.nil_append]
      congr 1
      rw [Nat.zero_mul, Nat.zero_add]
      exact ofNat_dig hc
    | cons a r =>
      have h3' : (a :: r).head? ≠ some 48 := by
        rcases h3 with h | h
        · simpa using h
        · have := congrArg List.length h; simp at this
      have hp := vf_pos (by simp) h2.1 h3'
      have hi := ih (by simp) h2.1 (.inl h3')
      rw [Lib.decDigits, dif_neg (by omega)]
      have e1 : (vf 0 (a :: r) * 10 + (c.toNat - 48)) / 10 = vf 0 (a :: r) := by omega
      have e2 : (vf 0 (a :: r) * 10 + (c.toNat - 48)) % 10 = c.toNat - 48 := by omega
      rw [e1, e2, hi, ofNat_dig hc]

/-- Numbers come back from their texts. -/
theorem head_dig {d : Bs} (h1 : d ≠ []) (h2 : d.all digC = true) : trimL d = d ∧ d.head? ≠ some 45 := by
  cases d with
  | nil => exact absurd rfl h1
  | cons c r =>
    rw [List.all_cons, Bool.and_eq_true] at h2
    have hn := dig_ne h2.1
    have hc : c ≠ 45 := fun e => hn.2 (by rw [e]; rfl)
    exact ⟨trim_other hc r, by simpa using hc⟩
theorem num_itoa (n : Int) (h0 : -9223372036854775808 ≤ n) (h1 : n ≤ 9223372036854775807) : numL (Lib.itoa n) = (n, 0) ∧ decL (Lib.itoa n) = true := by
  by_cases hn : 0 ≤ n
  · obtain ⟨u, rfl⟩ : ∃ u : Nat, n = u := ⟨n.toNat, by omega⟩
    rw [Lib.itoa_nonneg]
    obtain ⟨d1, d2, d3, d4⟩ := decDigits_all u
    obtain ⟨t1, t2⟩ := head_dig d1 d2
    have hdec : decL (Lib.decDigits u) = true := by
      refine decL_mk (by rw [t1]; exact d1) (by rw [t1]; exact d2) ?_
      rw [t1]
      by_cases hu : u = 0
      · right; rw [hu, decDigits_zero]
      · left; exact d4 hu
    refine ⟨?_, hdec⟩
    unfold numL
    rw [if_pos hdec, if_neg t2, t1, d3, if_neg (by omega)]
  · obtain ⟨u, rfl⟩ : ∃ u : Nat, n = -(u : Int) := ⟨n.natAbs, by omega⟩
    have hu : 1 ≤ u := by omega
    rw [Lib.itoa_neg u hu]
    obtain ⟨d1, d2, d3, d4⟩ := decDigits_all u
    have hdec : decL (45 :: Lib.decDigits u) = true :=
      decL_mk (by rw [trim_minus]; exact d1) (by rw [trim_minus]; exact d2) (.inl (by rw [trim_minus]; exact d4 (by omega)))
    refine ⟨?_, hdec⟩
    unfold numL
    rw [if_pos hdec, if_pos (show (45 :: Lib.decDigits u).head? = some 45 from rfl), trim_minus, d3, if_neg (by omega)]
theorem num_back {s : Bs} {v : Int} (h : numL s = (v, 0)) : Lib.itoa v = s ∧ -9223372036854775808 ≤ v ∧ v ≤ 9223372036854775807 := by
  unfold numL at h
  by_cases hd : decL s = true
  · rw [if_pos hd] at h
    obtain ⟨h1, h2, h3⟩ := decL_parts hd
    cases s with
    | nil => exact absurd rfl h1
    | cons c r =>
      by_cases hc : c = 45
      · subst hc
        rw [if_pos (show (45 :: r).head? = some 45 from rfl), trim_minus] at h
        rw [trim_minus] at h1 h2 h3
        have h3' : r.head? ≠ some 48 := by
          rcases h3 with h | h
          · exact h
          · simp at h
        have hp := vf_pos h1 h2 h3'
        split at h
        · simp at h
        · next hu =>
          obtain ⟨rfl, _⟩ := Prod.mk.inj h
          rw [Lib.itoa_neg _ hp, decDigits_back r h1 h2 (.inl h3')]
          exact ⟨rfl, by omega, by omega⟩
      · rw [if_neg (show (c :: r).head? ≠ some 45 by simpa using hc), trim_other hc] at h
        rw [trim_other hc] at h1 h2 h3
        split at h
        · simp at h
        · next hu =>
          obtain ⟨rfl, _⟩ := Prod.mk.inj h
          rw [Lib.itoa_nonneg, decDigits_back _ h1 h2 h3]
          exact ⟨rfl, by omega, by omega⟩
  · rw [if_neg hd] at h; simp at h

/-- The document's way: nineteen digits at the most. -/
theorem num_long {s : Bs} (h : decL s = true) (hl : 19 < (trimL s).length) : numL s = (0, 3) := by
  obtain ⟨h1, h2, h3⟩ := decL_parts h
  have h3' : (trimL s).head? ≠ some 48 := by
    rcases h3 with h | h
    · exact h
    · subst h; simp [trimL] at hl
  have hbig : 9223372036854775808 < vf 0 (trimL s) := by
    cases hd : trimL s with
    | nil => exact absurd hd h1
    | cons c r =>
      rw [hd] at h2 h3' hl
      rw [List.all_cons, Bool.and_eq_true] at h2
      have hc := dig_le h2.1
      have hn : c.toNat ≠ 48 := fun e => h3' (by
        have : c = 48 := UInt8.toNat_inj.1 (by rw [e]; rfl)
        rw [this]; rfl)
      rw [vf_cons]
      refine Nat.lt_of_lt_of_le ?_ (vf_pow r _)
      have hr : 19 ≤ r.length := by simp at hl; omega
      have hp : 10 ^ 19 ≤ 10 ^ r.length := Nat.pow_le_pow_right (by decide) hr
      have : 1 * 10 ^ 19 ≤ (0 * 10 + (c.toNat - 48)) * 10 ^ r.length := Nat.mul_le_mul (by omega) hp
      have e19 : (10 : Nat) ^ 19 = 10000000000000000000 := by decide
      omega
  unfold numL
  rw [if_pos h]
  by_cases hh : s.head? = some 45
  · rw [if_pos hh, if_pos hbig]
  · rw [if_neg hh, if_pos (by omega)]
theorem vf_short {d : Bs} (h : d.all digC = true) (hl : d.length ≤ 19) : vf 0 d < 10000000000000000000 := by
  have := vf_lt d 0 h
  have hp : 10 ^ d.length ≤ 10 ^ 19 := Nat.pow_le_pow_right (by decide) hl
  have e19 : (10 : Nat) ^ 19 = 10000000000000000000 := by decide
  omega
theorem all_take {d : Bs} (h : d.all digC = true) (k : Nat) : (d.take k).all digC = true :=
  List.all_eq_true.2 fun x hx => List.all_eq_true.1 h x (List.mem_of_mem_take hx)
end Go.Proofs.YtjkpbajojgdooaaDoor

/- Programs as texts, in plain lists: what an operation is called, what a program's lines are, and what is read from lines. -/
namespace Go.Proofs.YtjkpbajojgdooaaDoor
set_option linter.unusedSimpArgs false
set_option linter.unusedVariables false

structure PIns where
  op : Int
  a : Int
  b : Int
  c : Int
  n : Int

def OPS : List (Int × Bs × Bs) :=
  [(1, [115, 101, 116], [65, 78]), (2, [97, 100, 100], [65, 66, 67]), (3, [106, 117, 109, 112], [78]), (4, [122, 101, 114, 111], [65, 78]), (5, [110, 101, 119], [65]),
   (6, [110, 105, 108], [65]), (7, [109, 111, 118, 101], [65, 66]), (8, [108, 111, 97, 100, 105], [65, 66, 78]), (9, [115, 116, 111, 114, 101, 105], [65, 78, 66]), (10, [108, 111, 97, 100, 112], [65, 66, 78]),
   (11, [115, 116, 111, 114, 101, 112], [65, 78, 66]), (12, [108, 111, 97, 100, 103], [65, 66]), (13, [115, 116, 111, 114, 101, 103], [65, 66]), (14, [112, 114, 105, 110, 116], [65]), (15, [115, 97, 109, 101], [65, 66, 67])]
def byOpL (op : Int) : Option (Int × Bs × Bs) := OPS.find? (fun o => o.1 == op)
def byNameL (s : Bs) : Option (Int × Bs × Bs) := OPS.find? (fun o => o.2.1 == s)
def partL (i : PIns) (c : UInt8) : Int := if c = 65 then i.a else if c = 66 then i.b else if c = 67 then i.c else i.n
def setL (i : PIns) (c : UInt8) (v : Int) : PIns := if c = 65 then { i with a := v } else if c = 66 then { i with b := v } else if c = 67 then { i with c := v } else { i with n := v }
def clearL (i : PIns) : Bs → PIns
  | [] => i
  | c :: cs => clearL (setL i c 0) cs
def zeroI (i : PIns) : Bool := decide (i.a = 0) && decide (i.b = 0) && decide (i.c = 0) && decide (i.n = 0)
def rightL (i : PIns) : Bool := match byOpL i.op with
  | none => false
  | some o => zeroI (clearL i o.2.2)
def wordsI (i : PIns) : List Bs := match byOpL i.op with
  | none => [[]]
  | some o => o.2.1 :: o.2.2.map (fun c => Lib.itoa (partL i c))
/-- May a letter be given this word? -/
def fitL (c : UInt8) (w : Bs) : Bool := decide ((numL w).2 = 0) && (decide (c = 78) || (decide (0 ≤ (numL w).1) && decide ((numL w).1 ≤ 255)))
def readL : Bs → List Bs → PIns → Option PIns
  | c :: cs, w :: ws, i => if fitL c w then readL cs ws (setL i c (numL w).1) else none
  | [], _, i => some i
  | _, [], _ => none
def instrL (ws : List Bs) : Option PIns := match byNameL (ws.headD []) with
  | none => none
  | some o => if ws.length = 1 + o.2.2.length then readL o.2.2 ws.tail ⟨o.1, 0, 0, 0, 0⟩ else none
structure OkI (i : PIns) : Prop where
  o0 : 0 ≤ i.op
  o1 : i.op ≤ 255
  a0 : 0 ≤ i.a
  a1 : i.a ≤ 255
  b0 : 0 ≤ i.b
  b1 : i.b ≤ 255
  c0 : 0 ≤ i.c
  c1 : i.c ≤ 255
  n0 : -9223372036854775808 ≤ i.n
  n1 : i.n ≤ 9223372036854775807

structure PProg where
  types : List Bs
  locals : Bs
  globs : Bs
  code : List PIns
def kType : Bs := [116, 121, 112, 101]
def kLocals : Bs := [108, 111, 99, 97, 108, 115]
def kGlobals : Bs := [103, 108, 111, 98, 97, 108, 115]
/-! ### Operations -/
theorem byOp_mem {op : Int} {o : Int × Bs × Bs} (h : byOpL op = some o) : o ∈ OPS ∧ o.1 = op := by
  have h1 := List.mem_of_find?_eq_some h
  have h2 := List.find?_some h
  exact ⟨h1, by simpa using h2⟩
theorem byName_mem {s : Bs} {o : Int × Bs × Bs} (h : byNameL s = some o) : o ∈ OPS ∧ o.2.1 = s := by
  have h1 := List.mem_of_find?_eq_some h
  have h2 := List.find?_some h
  exact ⟨h1, by simpa using h2⟩
theorem ops_cases {o : Int × Bs × Bs} (h : o ∈ OPS) : byOpL o.1 = some o ∧ byNameL o.2.1 = some o ∧ o.2.1 ≠ [] ∧ (1 ≤ o.1 ∧ o.1 ≤ 15) ∧ mayL o.2.1 = true ∧ o.2.1 ≠ kType ∧ o.2.1 ≠ kLocals ∧ o.2.1 ≠ kGlobals ∧
    o.2.2 ∈ [[65, 78], [65, 66, 67], [78], [65], [65, 66], [65, 66, 78], [65, 78, 66]] := by
  simp only [OPS, List.mem_cons, List.not_mem_nil, or_false] at h
  rcases h with rfl | rfl | rfl | rfl | rfl | rfl | rfl | rfl | rfl | rfl | rfl | rfl | rfl | rfl | rfl <;> exact ⟨by decide, by decide, by decide, by decide, by decide, by decide, by decide, by decide, by decide⟩

theorem numL_itoa {v : Int} (h0 : -9223372036854775808 ≤ v) (h1 : v ≤ 9223372036854775807) : numL (Lib.itoa v) = (v, 0) := (num_itoa v h0 h1).1
theorem fit_itoa {c : UInt8} {v : Int} (h : c = 78 ∨ (0 ≤ v ∧ v ≤ 255)) (h0 : -9223372036854775808 ≤ v) (h1 : v ≤ 9223372036854775807) : fitL c (Lib.itoa v) = true := by
  unfold fitL
  rw [numL_itoa h0 h1]
  rcases h with rfl | ⟨h2, h3⟩
  · simp
  · simp [h2, h3]

/-- An instruction that may be is read from its words. -/
theorem instr_words {i : PIns} (ho : OkI i) (h : rightL i = true) : instrL (wordsI i) = some i := by
  unfold rightL at h
  rcases hb : byOpL i.op with _ | o
  · rw [hb] at h; cases h
  · rw [hb] at h
    obtain ⟨hm, h1⟩ := byOp_mem hb
    obtain ⟨_, hn, _, _, _, _, _, _, hh⟩ := ops_cases hm
    unfold wordsI instrL
    rw [hb]
    simp only [List.headD_cons, hn, List.length_cons, List.length_map, List.tail_cons]
    rw [if_pos (by omega), h1]
    obtain ⟨x, a, b, c, n⟩ := i
    obtain ⟨o0, o1, a0, a1, b0, b1, c0, c1, n0, n1⟩ := ho
    simp only at *
    simp only [List.mem_cons, List.not_mem_nil, or_false] at hh
    have fa : fitL 65 (Lib.itoa a) = true := fit_itoa (.inr ⟨a0, a1⟩) (by omega) (by omega)
    have fb : fitL 66 (Lib.itoa b) = true := fit_itoa (.inr ⟨b0, b1⟩) (by omega) (by omega)
    have fc : fitL 67 (Lib.itoa c) = true := fit_itoa (.inr ⟨c0, c1⟩) (by omega) (by omega)
    have fn : fitL 78 (Lib.itoa n) = true := fit_itoa (.inl rfl) n0 n1
    have na : numL (Lib.itoa a) = (a, 0) := numL_itoa (by omega) (by omega)
    have nb : numL (Lib.itoa b) = (b, 0) := numL_itoa (by omega) (by omega)
    have nc : numL (Lib.itoa c) = (c, 0) := numL_itoa (by omega) (by omega)
    have nn : numL (Lib.itoa n) = (n, 0) := numL_itoa n0 n1
    rcases hh with hh | hh | hh | hh | hh | hh | hh <;> (rw [hh] at h ⊢; simp [clearL, setL, zeroI] at h; simp [readL, setL, partL, fa, fb, fc, fn, na, nb, nc, nn, h])

theorem fit_back {c : UInt8} {w : Bs} (h : fitL c w = true) : Lib.itoa (numL w).1 = w ∧ -9223372036854775808 ≤ (numL w).1 ∧ (numL w).1 ≤ 9223372036854775807 ∧ (c = 78 ∨ (0 ≤ (numL w).1 ∧ (numL w).1 ≤ 255)) := by
  unfold fitL at h
  simp only [Bool.and_eq_true, Bool.or_eq_true, decide_eq_true_eq] at h
  have e : numL w = ((numL w).1, 0) := by rw [← h.1]
  obtain ⟨h1, h2, h3⟩ := num_back e
  exact ⟨h1, h2, h3, h.2⟩

theorem len1 {α : Type} {l : List α} (h : l.length = 1) : ∃ a, l = [a] := by match l, h with | [a], _ => exact ⟨a, rfl⟩
theorem len2 {α : Type} {l : List α} (h : l.length = 2) : ∃ a b, l = [a, b] := by match l, h with | [a, b], _ => exact ⟨a, b, rfl⟩
theorem len3 {α : Type} {l : List α} (h : l.length = 3) : ∃ a b c, l = [a, b, c] := by match l, h with | [a, b, c], _ => exact ⟨a, b, c, rfl⟩

theorem read_some {c : UInt8} {cs : Bs} {w : Bs} {ws : List Bs} {i j : PIns} (h : readL (c :: cs) (w :: ws) i = some j) : fitL c w = true ∧ readL cs ws (setL i c (numL w).1) = some j := by
  have h' : (if fitL c w = true then readL cs ws (setL i c (numL w).1) else none) = some j := h
  by_cases hf : fitL c w = true
  · rw [if_pos hf] at h'; exact ⟨hf, h'⟩
  · rw [if_neg hf] at h'; cases h'

/-- What is read from words has those words, and may be. -/
theorem words_instr {ws : List Bs} {i : PIns} (h : instrL ws = some i) : wordsI i = ws ∧ rightL i = true ∧ OkI i := by
  unfold instrL at h
  rcases hb : byNameL (ws.headD []) with _ | o
  · rw [hb] at h; cases h
  · rw [hb] at h
    simp only at h
    obtain ⟨hm, h1⟩ := byName_mem hb
    obtain ⟨ho, _, hne, ⟨g1, g2⟩, _, _, _, _, hh⟩ := ops_cases hm
    by_cases hl : ws.length = 1 + o.2.2.length
    · rw [if_pos hl] at h
      rcases ws with _ | ⟨w0, ws⟩
      · simp at hl; omega
      · simp only [List.headD_cons] at h1
        simp only [List.tail_cons, List.length_cons] at h hl
        have hl' : ws.length = o.2.2.length := by omega
        obtain ⟨x, nm, hs⟩ := o
        simp only at *
        subst h1
        simp only [List.mem_cons, List.not_mem_nil, or_false] at hh
        rcases hh with rfl | rfl | rfl | rfl | rfl | rfl | rfl
        · obtain ⟨a, b, rfl⟩ := len2 hl'
          obtain ⟨f1, h⟩ := read_some h
          obtain ⟨f2, h⟩ := read_some h
          obtain ⟨a1, a2, a3, a4⟩ := fit_back f1
          obtain ⟨b1, b2, b3, b4⟩ := fit_back f2
          simp [readL, setL] at h
          subst h
          exact ⟨by simp [wordsI, ho, partL, a1, b1], by simp [rightL, ho, clearL, setL, zeroI], by constructor <;> simp_all <;> omega⟩
        · obtain ⟨a, b, c, rfl⟩ := len3 hl'
          obtain ⟨f1, h⟩ := read_some h
          obtain ⟨f2, h⟩ := read_some h
          obtain ⟨f3, h⟩ := read_some h
          obtain ⟨a1, a2, a3, a4⟩ := fit_back f1
          obtain ⟨b1, b2, b3, b4⟩ := fit_back f2
          obtain ⟨c1, c2, c3, c4⟩ := fit_back f3
          simp [readL, setL] at h
          subst h
          exact ⟨by simp [wordsI, ho, partL, a1, b1, c1], by simp [rightL, ho, clearL, setL, zeroI], by constructor <;> simp_all <;> omega⟩
        · obtain ⟨a, rfl⟩ := len1 hl'
          obtain ⟨f1, h⟩ := read_some h
          obtain ⟨a1, a2, a3, a4⟩ := fit_back f1
          simp [readL, setL] at h
          subst h
          exact ⟨by simp [wordsI, ho, partL, a1], by simp [rightL, ho, clearL, setL, zeroI], by constructor <;> simp_all <;> omega⟩
        · obtain ⟨a, rfl⟩ := len1 hl'
          obtain ⟨f1, h⟩ := read_some h
          obtain ⟨a1, a2, a3, a4⟩ := fit_back f1
          simp [readL, setL] at h
          subst h
          exact ⟨by simp [wordsI, ho, partL, a1], by simp [rightL, ho, clearL, setL, zeroI], by constructor <;> simp_all <;> omega⟩
        · obtain ⟨a, b, rfl⟩ := len2 hl'
          obtain ⟨f1, h⟩ := read_some h
          obtain ⟨f2, h⟩ := read_some h
          obtain ⟨a1, a2, a3, a4⟩ := fit_back f1
          obtain ⟨b1, b2, b3, b4⟩ := fit_back f2
          simp [readL, setL] at h
          subst h
          exact ⟨by simp [wordsI, ho, partL, a1, b1], by simp [rightL, ho, clearL, setL, zeroI], by constructor <;> simp_all <;> omega⟩
        · obtain ⟨a, b, c, rfl⟩ := len3 hl'
          obtain ⟨f1, h⟩ := read_some h
          obtain ⟨f2, h⟩ := read_some h
          obtain ⟨f3, h⟩ := read_some h
          obtain ⟨a1, a2, a3, a4⟩ := fit_back f1
          obtain ⟨b1, b2, b3, b4⟩ := fit_back f2
          obtain ⟨c1, c2, c3, c4⟩ := fit_back f3
          simp [readL, setL] at h
          subst h
          exact ⟨by simp [wordsI, ho, partL, a1, b1, c1], by simp [rightL, ho, clearL, setL, zeroI], by constructor <;> simp_all <;> omega⟩
        · obtain ⟨a, b, c, rfl⟩ := len3 hl'
          obtain ⟨f1, h⟩ := read_some h
          obtain ⟨f2, h⟩ := read_some h
          obtain ⟨f3, h⟩ := read_some h
          obtain ⟨a1, a2, a3, a4⟩ := fit_back f1
          obtain ⟨b1, b2, b3, b4⟩ := fit_back f2
          obtain ⟨c1, c2, c3, c4⟩ := fit_back f3
          simp [readL, setL] at h
          subst h
          exact ⟨by simp [wordsI, ho, partL, a1, b1, c1], by simp [rightL, ho, clearL, setL, zeroI], by constructor <;> simp_all <;> omega⟩
    · rw [if_neg hl] at h; cases h
end Go.Proofs.YtjkpbajojgdooaaDoor

/- Layer 3, in plain words: types as texts, their fields, what one comes to by them. -/
namespace Go.Proofs.YtjkpbajojgdooaaDoor
set_option linter.unusedSimpArgs false
set_option linter.unusedVariables false

/-- The byte at k, as a number. -/
def byt (s : ByteArray) (k : Nat) : Nat := (s.data.toList.getD k 0).toNat
theorem byt_at {s : ByteArray} {k : Nat} (h : k < s.size) : s[k].toNat = byt s k := by
  have h' : k < s.data.toList.length := by rw [Array.length_toList]; exact h
  unfold byt
  rw [List.getD_eq_getElem?_getD, List.getElem?_eq_getElem h']
  rfl
theorem byt_lt (s : ByteArray) (k : Nat) : byt s k < 256 := UInt8.toNat_lt _

def digB (n c : Nat) : Bool := decide (48 ≤ c ∧ c < 48 + n)
def letB (n c : Nat) : Bool := c == 105 || digB n c
def okB (n : Nat) (s : ByteArray) : Bool := decide (1 ≤ s.size ∧ s.size ≤ 6 ∧ ∀ k, k < s.size → letB n (byt s k) = true)
def ty (ts : List ByteArray) (t : Nat) : ByteArray := ts.getD t ByteArray.empty
def rightB (ts : List ByteArray) : Bool := decide (1 ≤ ts.length ∧ ts.length ≤ 8 ∧ ∀ t, t < ts.length → okB ts.length (ty ts t) = true)
def refsB (ts : List ByteArray) (s : ByteArray) : Bool := rightB ts && decide (∀ k, k < s.size → digB ts.length (byt s k) = true)
def oneB (ts : List ByteArray) (t : Int) : Bool := decide (0 ≤ t ∧ t < ts.length) && rightB ts

theorem ty_get {ts : List ByteArray} {t : Nat} (h : t < ts.length) : ts[t]? = some (ty ts t) := by
  unfold ty
  rw [List.getD_eq_getElem?_getD, List.getElem?_eq_getElem h]
  rfl
theorem ty_mem {ts : List ByteArray} {t : Nat} (h : t < ts.length) : ty ts t ∈ ts := List.mem_of_getElem? (ty_get h)

theorem dig_iff {n c : Nat} : digB n c = true ↔ 48 ≤ c ∧ c < 48 + n := by simp [digB]
theorem dig_no {n c : Nat} : digB n c = false ↔ ¬ (48 ≤ c ∧ c < 48 + n) := by simp only [digB, decide_eq_false_iff_not]
theorem let_iff {n c : Nat} : letB n c = true ↔ c = 105 ∨ digB n c = true := by simp [letB]
theorem let_no {n c : Nat} : letB n c = false ↔ c ≠ 105 ∧ digB n c = false := by simp [letB]
theorem ok_iff {n : Nat} {s : ByteArray} : okB n s = true ↔ 1 ≤ s.size ∧ s.size ≤ 6 ∧ ∀ k, k < s.size → letB n (byt s k) = true := by simp [okB]
theorem ok_size {n : Nat} {s : ByteArray} (h : s.size < 1 ∨ 6 < s.size) : okB n s = false := by
  rw [Bool.eq_false_iff]; intro h'
  have := ok_iff.1 h'
  omega
theorem ok_let {n k : Nat} {s : ByteArray} (hk : k < s.size) (h : letB n (byt s k) = false) : okB n s = false := by
  rw [Bool.eq_false_iff]; intro h'
  rw [(ok_iff.1 h').2.2 k hk] at h
  exact absurd h (by decide)
theorem right_iff {ts : List ByteArray} : rightB ts = true ↔ 1 ≤ ts.length ∧ ts.length ≤ 8 ∧ ∀ t, t < ts.length → okB ts.length (ty ts t) = true := by simp [rightB]
theorem right_size {ts : List ByteArray} (h : ts.length < 1 ∨ 8 < ts.length) : rightB ts = false := by
  rw [Bool.eq_false_iff]; intro h'
  have := right_iff.1 h'
  omega
theorem right_ok {ts : List ByteArray} {t : Nat} (ht : t < ts.length) (h : okB ts.length (ty ts t) = false) : rightB ts = false := by
  rw [Bool.eq_false_iff]; intro h'
  rw [(right_iff.1 h').2.2 t ht] at h
  exact absurd h (by decide)
theorem one_t {ts : List ByteArray} {t : Int} (h0 : 0 ≤ t) (h1 : t < ts.length) (h : rightB ts = true) : oneB ts t = true := by
  unfold oneB; rw [h, decide_eq_true ⟨h0, h1⟩]; rfl
theorem one_iff {ts : List ByteArray} {t : Int} : oneB ts t = true ↔ 0 ≤ t ∧ t < ts.length ∧ rightB ts = true := by
  simp [oneB, and_assoc]
theorem one_no {ts : List ByteArray} {t : Int} : oneB ts t = false ↔ (t < 0 ∨ (ts.length : Int) ≤ t) ∨ rightB ts = false := by
  rw [Bool.eq_false_iff, Ne, one_iff]
  cases rightB ts <;> simp <;> omega
theorem refs_iff {ts : List ByteArray} {s : ByteArray} : refsB ts s = true ↔ rightB ts = true ∧ ∀ k, k < s.size → digB ts.length (byt s k) = true := by simp [refsB]
theorem refs_no {ts : List ByteArray} {s : ByteArray} {k : Nat} (hk : k < s.size) (h : digB ts.length (byt s k) = false) : refsB ts s = false := by
  rw [Bool.eq_false_iff]; intro h'
  rw [(refs_iff.1 h').2 k hk] at h
  exact absurd h (by decide)
theorem refs_right {ts : List ByteArray} {s : ByteArray} (h : rightB ts = false) : refsB ts s = false := by
  unfold refsB; rw [h]; rfl

/-- What a letter points to; -1: it is a number. -/
def ptrI (c : Nat) : Int := if c = 105 then -1 else (c : Int) - 48
theorem ptr_i : ptrI 105 = -1 := rfl
theorem ptr_d {c : Nat} (h : c ≠ 105) : ptrI c = (c : Int) - 48 := by simp [ptrI, h]

def sizeI (ts : List ByteArray) (t : Int) : Int := if oneB ts t = true then ((ty ts t.toNat).size : Int) else 0
def toI (ts : List ByteArray) (t f : Int) : Int := if oneB ts t = true ∧ 0 ≤ f ∧ f < (ty ts t.toNat).size then ptrI (byt (ty ts t.toNat) f.toNat) else -1
/-- One field of a points to b. -/
def Edge (ts : List ByteArray) (a b : Nat) : Prop := a < ts.length ∧ ∃ k, k < (ty ts a).size ∧ byt (ty ts a) k ≠ 105 ∧ byt (ty ts a) k = b + 48
inductive Rch (ts : List ByteArray) (t : Nat) : Nat → Prop
  | here : Rch ts t t
  | more {a b : Nat} : Rch ts t a → Edge ts a b → Rch ts t b
theorem edge_lt {ts : List ByteArray} (h : rightB ts = true) {a b : Nat} (he : Edge ts a b) : b < ts.length := by
  obtain ⟨ha, k, hk, h1, h2⟩ := he
  have := (ok_iff.1 ((right_iff.1 h).2.2 a ha)).2.2 k hk
  rcases let_iff.1 this with h3 | h3
  · exact absurd h3 h1
  · have := dig_iff.1 h3; omega
theorem Rch.lt {ts : List ByteArray} (h : rightB ts = true) {t : Nat} (ht : t < ts.length) {n : Nat} (hr : Rch ts t n) : n < ts.length := by
  induction hr with
  | here => exact ht
  | more _ he _ => exact edge_lt h he
theorem Rch.trans {ts : List ByteArray} {a b c : Nat} (h1 : Rch ts a b) (h2 : Rch ts b c) : Rch ts a c := by
  induction h2 with
  | here => exact h1
  | more _ he ih => exact ih.more he

end Go.Proofs.YtjkpbajojgdooaaDoor

/- The letters of operations. -/
namespace Go.Proofs.YtjkpbajojgdooaaDoor
set_option linter.unusedSimpArgs false
set_option linter.unusedVariables false
/-- The letters that an operation has. -/
def FourL (hs : Bs) : Prop := ∀ c ∈ hs, c = 65 ∨ c = 66 ∨ c = 67 ∨ c = 78
theorem four_ops {o : Int × Bs × Bs} (h : o ∈ OPS) : FourL o.2.2 := by
  have h0 : OPS.all (fun o => o.2.2.all (fun c => decide (c = 65) || decide (c = 66) || decide (c = 67) || decide (c = 78))) = true := by decide
  have this := List.all_eq_true.1 h0 o h
  intro c hc
  have h1 := List.all_eq_true.1 this c hc
  simp only [Bool.or_eq_true, decide_eq_true_eq] at h1
  rcases h1 with ((h1 | h1) | h1) | h1 <;> simp [h1]
end Go.Proofs.YtjkpbajojgdooaaDoor

/- Slices that lie in memory: rows of one-cell values, texts, types. -/
namespace Go.Proofs.YtjkpbajojgdooaaDoor
set_option linter.unusedSimpArgs false
set_option linter.unusedVariables false
open Go.RowKit

abbrev str (l : Bs) : Value := .string ⟨l.toArray⟩
theorem ret_bool {a b : Bool} (h : a = b) : Ending.returned (.bool a) = .returned (.bool b) := by rw [h]
theorem bcell {W w1 : World} (hb : Below W.heap.size W w1) : (∀ b o, b < W.heap.size → w1.cell? ⟨b, o, none⟩ = W.cell? ⟨b, o, none⟩) ∧ (∀ b o, b < W.heap.size → w1.frozen? ⟨b, o, none⟩ = W.frozen? ⟨b, o, none⟩) :=
  ⟨fun b o h => hb.cell (p := ⟨b, o, none⟩) h, fun b o h => hb.frozen (p := ⟨b, o, none⟩) h⟩

/-- A slice value whose elements are these cells (of one cell each). -/
def RowAt (w : World) (v : Value) (cs : List Value) : Prop :=
  ∃ a c, v = .slice a cs.length c ∧ cs.length ≤ c ∧ c ≤ maxLen ∧ (cs = [] ∨ ∃ b o, a = some ⟨b, o, none⟩ ∧ b < w.heap.size ∧ ∀ j x, cs[j]? = some x → w.cell? ⟨b, o + j, none⟩ = some x)
theorem RowAt.below {w w' : World} {v : Value} {cs : List Value} (h : RowAt w v cs) (hb : Below w.heap.size w w') : RowAt w' v cs := by
  obtain ⟨a, c, rfl, h1, h2, h3⟩ := h
  refine ⟨a, c, rfl, h1, h2, h3.imp id ?_⟩
  rintro ⟨b, o, rfl, hlt, hc⟩
  exact ⟨b, o, rfl, Nat.lt_of_lt_of_le hlt hb.size, fun j x hx => by rw [(bcell hb).1 b _ hlt]; exact hc j x hx⟩
theorem RowAt.of_own {w : World} {B : Nat} {e : TypeId} {v : Value} {n : Nat} {cs : List Value} (h : w.ownsRow B e 1 v n cs) : RowAt w v cs := by
  obtain ⟨hl, h2⟩ := h
  rcases h2 with ⟨rfl, rfl⟩ | ⟨g, cap, cur, rfl, hb, hg, h3, h4, h5, h6⟩
  · have : cs = [] := List.length_eq_zero_iff.1 (by simpa using hl)
    subst this
    exact ⟨none, 0, rfl, Nat.le_refl _, Nat.zero_le _, .inl rfl⟩
  · have hl' : cs.length = n := by simpa using hl
    refine ⟨some ⟨g, 0, none⟩, cap, by rw [hl'], by omega, h4, .inr ⟨g, 0, rfl, (Array.getElem?_eq_some_iff.1 hg).1, ?_⟩⟩
    intro j x hx
    have hj : j < n := by have := (List.getElem?_eq_some_iff.1 hx).1; omega
    rw [← h6, List.getElem?_take] at hx
    have hx' : cur.toList[j]? = some x := by
      split at hx
      · exact hx
      · cases hx
    simp only [World.cell?, hg, Nat.zero_add]
    simpa using hx'

/-- Types, as a slice of texts. -/
def TsAt (w : World) (v : Value) (ts : List ByteArray) : Prop := RowAt w v (ts.map Value.string) ∧ ∀ s ∈ ts, s.size ≤ 9223372036854775807
theorem TsAt.below {w w' : World} {v : Value} {ts : List ByteArray} (h : TsAt w v ts) (hb : Below w.heap.size w w') : TsAt w' v ts := ⟨h.1.below hb, h.2⟩
theorem TsAt.cases {w : World} {v : Value} {ts : List ByteArray} (h : TsAt w v ts) :
    ∃ a c, v = .slice a ts.length c ∧ ts.length ≤ c ∧ c ≤ 9223372036854775807 ∧ (ts = [] ∨ ∃ b o, a = some ⟨b, o, none⟩ ∧ b < w.heap.size ∧ ∀ j, j < ts.length → w.cell? ⟨b, o + j, none⟩ = some (.string (ty ts j)) ∧ (ty ts j).size ≤ 9223372036854775807) := by
  obtain ⟨⟨a, c, rfl, h1, h2, h3⟩, hs⟩ := h
  rw [List.length_map] at h1
  refine ⟨a, c, by rw [List.length_map], h1, by unfold maxLen at h2; omega, ?_⟩
  rcases h3 with h3 | ⟨b, o, rfl, hb, hc⟩
  · left; simpa using h3
  · exact .inr ⟨b, o, rfl, hb, fun j hj => ⟨hc j _ (by rw [List.getElem?_map, ty_get hj]; rfl), hs _ (ty_mem hj)⟩⟩
theorem ownsRow_le {w : World} {base base' size n : Nat} {e : TypeId} {v : Value} {xs : List Value} (h : w.ownsRow base e size v n xs) (hb : base' ≤ base) : w.ownsRow base' e size v n xs := by
  obtain ⟨h1, h2⟩ := h
  refine ⟨h1, h2.imp id ?_⟩
  rintro ⟨g, cap, cur, rfl, hg, rest⟩
  exact ⟨g, cap, cur, rfl, by omega, rest⟩
theorem ownsRow_forms {w : World} {base size n : Nat} {e : TypeId} {v : Value} {xs : List Value} (h : w.ownsRow base e size v n xs) : (v = .slice none 0 0 ∧ n = 0) ∨ ∃ g cap, v = .slice (some ⟨g, 0, none⟩) n cap := by
  rcases h.2 with h2 | ⟨g, cap, cur, rfl, _⟩
  · exact .inl h2
  · exact .inr ⟨g, cap, rfl⟩
theorem own_below {w w' : World} {base size n : Nat} {e : TypeId} {v : Value} {xs : List Value} (h : w.ownsRow base e size v n xs) (hb : Below w.heap.size w w') : w'.ownsRow base e size v n xs := by
  obtain ⟨h1, h2⟩ := h
  refine ⟨h1, h2.imp id ?_⟩
  rintro ⟨g, cap, cur, rfl, hg, hc, rest⟩
  exact ⟨g, cap, cur, rfl, hg, by rw [hb.block g (Array.getElem?_eq_some_iff.1 hc).1]; exact hc, rest⟩

/-- What the round of a loop over a row needs of it. -/
theorem RowAt.cases {w : World} {v : Value} {xs : List Bs} (h : RowAt w v (xs.map str)) :
    ∃ a c, v = .slice a xs.length c ∧ xs.length ≤ c ∧ c ≤ 9223372036854775807 ∧ (xs = [] ∨ ∃ b o, a = some ⟨b, o, none⟩ ∧ b < w.heap.size ∧ ∀ j x, xs[j]? = some x → w.cell? ⟨b, o + j, none⟩ = some (str x)) := by
  obtain ⟨a, c, rfl, h1, h2, h3⟩ := h
  rw [List.length_map] at h1
  refine ⟨a, c, by rw [List.length_map], h1, by unfold maxLen at h2; omega, ?_⟩
  rcases h3 with h3 | ⟨b, o, rfl, hb, hc⟩
  · left; simpa using h3
  · exact .inr ⟨b, o, rfl, hb, fun j x hx => hc j (str x) (by simp [hx])⟩

/-- A row of texts: its slice, and each of its cells. -/
theorem RowAt.elems {w : World} {v : Value} {xs : List Bs} (h : RowAt w v (xs.map str)) :
    ∃ a c, v = .slice a xs.length c ∧ xs.length ≤ c ∧ c ≤ maxLen ∧ ∀ j x, xs[j]? = some x → ∃ b o, a = some ⟨b, o, none⟩ ∧ b < w.heap.size ∧ w.cell? ⟨b, o + j, none⟩ = some (str x) := by
  obtain ⟨a, c, rfl, h1, h2, h3⟩ := h
  rw [List.length_map] at h1
  refine ⟨a, c, by rw [List.length_map], h1, h2, fun j x hx => ?_⟩
  rcases h3 with h3 | ⟨b, o, rfl, hb, hc⟩
  · have : xs = [] := by simpa using h3
    subst this; simp at hx
  · exact ⟨b, o, rfl, hb, hc j (str x) (by simp [hx])⟩
theorem len_size (s : ByteArray) : s.data.toList.length = s.size := by rw [Array.length_toList]; rfl
theorem rowAt_nil (w : World) : RowAt w (.slice none 0 0) [] := ⟨none, 0, rfl, Nat.le_refl _, Nat.zero_le _, .inl rfl⟩
end Go.Proofs.YtjkpbajojgdooaaDoor

/- A struct or an array in a block of its own: stored whole, and cell by cell. -/
namespace Go.Proofs.YtjkpbajojgdooaaDoor
set_option linter.unusedSimpArgs false
set_option linter.unusedVariables false
open Go.RowKit

/-- A block as it stands behind a whole store. -/
abbrev blk (w : World) (b : Nat) (cs : Array Value) (t : TypeId) : Prop := w.heap[b]? = some (.cells cs t (0, 0))
theorem blk_lt {w : World} {b : Nat} {cs : Array Value} {t : TypeId} (h : blk w b cs t) : b < w.heap.size := (Array.getElem?_eq_some_iff.1 h).1
theorem blk_below {w w' : World} {b : Nat} {cs : Array Value} {t : TypeId} (h : blk w b cs t) (hb : Below w.heap.size w w') : blk w' b cs t := by
  unfold blk; rw [hb.block b (blk_lt h)]; exact h
theorem blk_alloc {w : World} {b : Nat} {cs : Array Value} {t : TypeId} (h : blk w b cs t) (o : Obj) : blk (w.alloc o) b cs t := by
  unfold blk; rw [Below.heap_alloc _ _ _ (blk_lt h)]; exact h
theorem blk_new (w : World) (cs : Array Value) (t : TypeId) : blk (w.alloc (.cells cs t)) w.heap.size cs t := heap_alloc_new w _
theorem blk_range {w : World} {b : Nat} {cs : Array Value} {t : TypeId} (h : blk w b cs t) : w.rangeAt b 0 cs.toList := by
  intro j v hv
  simp only [World.cell?, h, Nat.zero_add]
  simpa using hv
theorem blk_cell {w : World} {b : Nat} {cs : Array Value} {t : TypeId} (h : blk w b cs t) (j : Nat) (v : Value) (hv : cs[j]? = some v) : w.cell? ⟨b, j, none⟩ = some v := by
  simp only [World.cell?, h]
  simpa using hv
theorem blk_frozen {w : World} {b : Nat} {cs : Array Value} {t : TypeId} (h : blk w b cs t) (j : Nat) : w.frozen? ⟨b, j, none⟩ = false := by
  simp [World.frozen?, h]

/-- The block b anew. -/
def putO (w : World) (b : Nat) (o : Obj) : World := { w with heap := w.heap.setIfInBounds b o }
theorem putO_at {w : World} {b : Nat} (h : b < w.heap.size) (o : Obj) : (putO w b o).heap[b]? = some o := by simp [putO, h]
theorem putO_ne (w : World) {b g : Nat} (h : g ≠ b) (o : Obj) : (putO w b o).heap[g]? = w.heap[g]? := by
  unfold putO; rw [Array.getElem?_setIfInBounds, if_neg (fun e => h e.symm)]
theorem putO_size (w : World) (b : Nat) (o : Obj) : (putO w b o).heap.size = w.heap.size := by simp [putO]
abbrev putB (w : World) (b : Nat) (cs : Array Value) (t : TypeId) : World := putO w b (.cells cs t (0, 0))
theorem putB_at {w : World} {b : Nat} {old : Array Value} {t' : TypeId} (h : blk w b old t') (cs : Array Value) (t : TypeId) : blk (putB w b cs t) b cs t := putO_at (blk_lt h) _
theorem putB_ne (w : World) {b g : Nat} (h : g ≠ b) (cs : Array Value) (t : TypeId) : (putB w b cs t).heap[g]? = w.heap[g]? := putO_ne w h _
theorem putB_size (w : World) (b : Nat) (cs : Array Value) (t : TypeId) : (putB w b cs t).heap.size = w.heap.size := putO_size w b _
theorem putB_below {B : Nat} (w : World) {b : Nat} (h : B ≤ b) (cs : Array Value) (t : TypeId) : Below B w (putB w b cs t) :=
  ⟨rfl, rfl, rfl, by rw [putB_size]; exact Nat.le_refl _, fun k hk => putB_ne w (by omega) cs t⟩
theorem setCell_putB {w : World} {b : Nat} {cs : Array Value} {t : TypeId} (h : blk w b cs t) (j : Nat) (v : Value) : w.setCell ⟨b, j, none⟩ v = putB w b (cs.setIfInBounds j v) t := by
  unfold World.setCell putB putO
  congr 1
  apply Array.ext'
  have := h
  unfold blk at this
  obtain ⟨hlt, he⟩ := Array.getElem?_eq_some_iff.1 this
  rw [Array.toList_modify, Array.toList_setIfInBounds]
  apply List.ext_getElem?
  intro i
  rw [List.getElem?_modify, List.getElem?_set]
  by_cases e : b = i
  · subst e
    simp [he, hlt]
  · simp [e]

theorem setRow_putB {w : World} {b : Nat} {old : Array Value} {t : TypeId} (h : blk w b old t) (cs : Array Value) : w.setRow b cs = putB w b cs t := by
  unfold World.setRow putB putO
  congr 1
  apply Array.ext'
  have := h
  unfold blk at this
  obtain ⟨hlt, he⟩ := Array.getElem?_eq_some_iff.1 this
  rw [Array.toList_modify, Array.toList_setIfInBounds]
  apply List.ext_getElem?
  intro i
  rw [List.getElem?_modify, List.getElem?_set]
  by_cases e : b = i
  · subst e
    simp [he, hlt]
  · simp [e]

/-- A whole struct, or array, is stored. -/
theorem wpList_putB {ops : Array Oper} {rest : List Oper} {o : Oper} {a : Act} {w : World} {Q : Exit → Act → World → Prop} (hgd : o.guard = none) (ty : TypeId) (x y : Operand) (ho : o.op = .store ty x y)
    (b : Nat) (cells : Array Value) (hx : a.eval x = .pointer (some ⟨b, 0, none⟩)) (hy : a.eval y = .agg cells) (t : TypeId) (old : Array Value) (hb : blk w b old t)
    (hi : (Tryd.prog.info? ty).map (·.size) = some cells.size) (hold : old.size = cells.size) (h1 : cells.all (·.oneCell') = true)
    (h : wpList Tryd.prog ops Q rest (a.put o.dst undef) (putB w b cells t)) : wpList Tryd.prog ops Q (o :: rest) a w :=
  wpList_plain hgd fun _ hK => wp_store_row ty x y ho b cells hx hy t old hb hi hold h1 (by rw [setRow_putB hb]; exact hK _ _ h)

/-- A whole struct, or array, is loaded. -/
theorem wpList_loadB {ops : Array Oper} {rest : List Oper} {o : Oper} {a : Act} {w : World} {Q : Exit → Act → World → Prop} (hgd : o.guard = none) (ty : TypeId) (x : Operand) (ho : o.op = .load ty x)
    (b : Nat) (cells : Array Value) (hx : a.eval x = .pointer (some ⟨b, 0, none⟩)) (t : TypeId) (hb : blk w b cells t) (d : TypeDesc)
    (hu : Tryd.prog.underlying ty = some d) (hd : d.isRow = true) (hi : (Tryd.prog.info? ty).map (·.size) = some cells.size)
    (h : wpList Tryd.prog ops Q rest (a.put o.dst (.agg cells)) w) : wpList Tryd.prog ops Q (o :: rest) a w :=
  wpList_load_mid hgd ty x ho b 0 hx cells.toList d (blk_range hb) hu hd (by simpa using hi) h

/-- What is answered out of a block, beside slots. -/
theorem res_cell1 {fn : Func} {p u : Tmp} {ty : TypeId} (h : fn.results = #[.cell p ty, .tmp u]) (tmps : Array Value) (w : World) (b : Nat) (cells : Array Value) (t : TypeId) (d : TypeDesc) (hp : tmps.getD p undef = .pointer (some ⟨b, 0, none⟩))
    (hb : blk w b cells t) (hu : Tryd.prog.underlying ty = some d) (hd : d.isRow = true) (hi : (Tryd.prog.info? ty).map (·.size) = some cells.size) :
    (results fn tmps).run Tryd.prog w = .ok (.tuple #[.agg cells, tmps.getD u undef]) w := by
  rw [results_cell_tmp h, hp]
  have hl := run_loadVar_mid (P := Tryd.prog) w b 0 ty cells.toList d (blk_range hb) hu hd (by simpa using hi)
  simp [asAddr, Result.andThen, hl]
theorem res_cell2 {fn : Func} {p u v : Tmp} {ty : TypeId} (h : fn.results = #[.cell p ty, .tmp u, .tmp v]) (tmps : Array Value) (w : World) (b : Nat) (cells : Array Value) (t : TypeId) (d : TypeDesc) (hp : tmps.getD p undef = .pointer (some ⟨b, 0, none⟩))
    (hb : blk w b cells t) (hu : Tryd.prog.underlying ty = some d) (hd : d.isRow = true) (hi : (Tryd.prog.info? ty).map (·.size) = some cells.size) :
    (results fn tmps).run Tryd.prog w = .ok (.tuple #[.agg cells, tmps.getD u undef, tmps.getD v undef]) w := by
  have hl := run_loadVar_mid (P := Tryd.prog) w b 0 ty cells.toList d (blk_range hb) hu hd (by simpa using hi)
  have hp' : tmps[p]?.getD undef = .pointer (some ⟨b, 0, none⟩) := by rw [← hp]; simp
  simp [results, h, hp', asAddr, Result.andThen, hl]
end Go.Proofs.YtjkpbajojgdooaaDoor

/- The contract of numbersOf. -/
namespace Go.Proofs.YtjkpbajojgdooaaDoor
set_option linter.unusedSimpArgs false
set_option linter.unusedVariables false
open Go.RowKit

abbrev insC (i : PIns) : Array Value := #[.int .u8 i.op, .int .u8 i.a, .int .u8 i.b, .int .u8 i.c, .int .i64 i.n]
abbrev insV (i : PIns) : Value := .agg (insC i)
theorem ins_info : (Tryd.prog.info? 45).map (·.size) = some 5 := by kernel_rfl
def AggPost (w : World) (v : Value) (e : Ending) (w' : World) : Prop := e = .returned v ∧ Below w.heap.size w w'

end Go.Proofs.YtjkpbajojgdooaaDoor

/- A program as it lies; the contract of Few. -/
namespace Go.Proofs.YtjkpbajojgdooaaDoor
set_option linter.unusedSimpArgs false
set_option linter.unusedVariables false
open Go.RowKit

/-- A slice of instructions, wherever it lies. -/
def InsRow (w : World) (v : Value) (code : List PIns) : Prop :=
  ∃ a c, v = .slice a code.length c ∧ code.length ≤ c ∧ c ≤ maxLen ∧ ∀ j i, code[j]? = some i → ∃ b o, a = some ⟨b, o, none⟩ ∧ b < w.heap.size ∧ w.rangeAt b (o + j * 5) (insC i).toList
theorem rangeAt_below {w w' : World} {b o : Nat} {cs : List Value} (h : w.rangeAt b o cs) (hlt : b < w.heap.size) (hb : Below w.heap.size w w') : w'.rangeAt b o cs := fun j v hv => by
  rw [(bcell hb).1 b _ hlt]; exact h j v hv
theorem InsRow.below {w w' : World} {v : Value} {code : List PIns} (h : InsRow w v code) (hb : Below w.heap.size w w') : InsRow w' v code := by
  obtain ⟨a, c, rfl, h1, h2, h3⟩ := h
  refine ⟨a, c, rfl, h1, h2, fun j i hj => ?_⟩
  obtain ⟨b, o, rfl, hlt, hr⟩ := h3 j i hj
  exact ⟨b, o, rfl, Nat.lt_of_lt_of_le hlt hb.size, rangeAt_below hr hlt hb⟩
def codeCells (is : List PIns) : List Value := is.flatMap (fun i => (insC i).toList)
theorem codeCells_len (is : List PIns) : (codeCells is).length = is.length * 5 := by
  induction is with
  | nil => rfl
  | cons a r ih => unfold codeCells at ih ⊢; rw [List.flatMap_cons, List.length_append, ih]; simp; omega
theorem flat_get : ∀ (is : List PIns) (j : Nat) (i : PIns) (t : Nat) (v : Value), is[j]? = some i → (insC i).toList[t]? = some v → (codeCells is)[j * 5 + t]? = some v
  | [], _, _, _, _, h, _ => by simp at h
  | a :: r, 0, i, t, v, h, hv => by
    simp at h; subst h
    unfold codeCells; rw [List.flatMap_cons, Nat.zero_mul, Nat.zero_add]
    have ht : t < (insC a).toList.length := (List.getElem?_eq_some_iff.1 hv).1
    rw [List.getElem?_append_left ht]; exact hv
  | a :: r, j + 1, i, t, v, h, hv => by
    have ih := flat_get r j i t v (by simpa using h) hv
    unfold codeCells at ih ⊢
    have hl : (insC a).toList.length = 5 := rfl
    rw [List.flatMap_cons, List.getElem?_append_right (by rw [hl]; omega), hl, show (j + 1) * 5 + t - 5 = j * 5 + t by omega]
    exact ih
theorem insRow_own {w : World} {B : Nat} {v : Value} {is : List PIns} (h : w.ownsRow B 45 5 v is.length (codeCells is)) : InsRow w v is := by
  rcases h.2 with ⟨rfl, h0⟩ | ⟨g, cap, cur, rfl, hB, hg, h1, h2, h3, h4⟩
  · have : is = [] := List.length_eq_zero_iff.1 h0
    subst this
    exact ⟨none, 0, rfl, Nat.le_refl _, Nat.zero_le _, fun j i hj => by simp at hj⟩
  · refine ⟨some ⟨g, 0, none⟩, cap, rfl, h1, h2, fun j i hj => ⟨g, 0, rfl, (Array.getElem?_eq_some_iff.1 hg).1, fun t v hv => ?_⟩⟩
    have := flat_get is j i t v hj hv
    rw [← h4, List.getElem?_take] at this
    have hx : cur.toList[j * 5 + t]? = some v := by
      split at this
      · exact this
      · cases this
    simp only [World.cell?, hg, Nat.zero_add]
    simpa using hx

/-- Instructions in a block of their own. -/
theorem insRow_blk {w : World} {g : Nat} {cs : Array Value} {is : List PIns} (h : blk w g cs 45) (hc : cs.toList = codeCells is) (hl : is.length ≤ maxLen) : InsRow w (.slice (some ⟨g, 0, none⟩) is.length is.length) is := by
  refine ⟨some ⟨g, 0, none⟩, is.length, rfl, Nat.le_refl _, hl, fun j i hj => ⟨g, 0, rfl, blk_lt h, fun t v hv => ?_⟩⟩
  have := flat_get is j i t v hj hv
  rw [← hc] at this
  rw [Nat.zero_add]
  exact blk_cell h _ v (by simpa using this)
/-- One-cell values in a block of their own. -/
theorem row_blk {w : World} {g : Nat} {cs : Array Value} {t : TypeId} (h : blk w g cs t) (hl : cs.size ≤ maxLen) : RowAt w (.slice (some ⟨g, 0, none⟩) cs.size cs.size) cs.toList := by
  refine ⟨some ⟨g, 0, none⟩, cs.size, by simp, by simp, hl, .inr ⟨g, 0, rfl, blk_lt h, fun j x hx => ?_⟩⟩
  rw [Nat.zero_add]
  exact blk_cell h j x (by simpa using hx)
abbrev progC (vt : Value) (p : PProg) (vc : Value) : Array Value := #[vt, str p.locals, str p.globs, vc]
/-- A program, wherever it lies. -/
def ProgAt (w : World) (v : Value) (p : PProg) : Prop := ∃ vt vc, v = .agg (progC vt p vc) ∧ RowAt w vt (p.types.map str) ∧ InsRow w vc p.code
theorem ProgAt.below {w w' : World} {v : Value} {p : PProg} (h : ProgAt w v p) (hb : Below w.heap.size w w') : ProgAt w' v p := by
  obtain ⟨vt, vc, rfl, h1, h2⟩ := h
  exact ⟨vt, vc, rfl, h1.below hb, h2.below hb⟩
/-- What is so of any program. -/
structure OkP (p : PProg) : Prop where
  ty : ∀ t ∈ p.types, t.length ≤ maxLen
  lo : p.locals.length ≤ maxLen
  gl : p.globs.length ≤ maxLen
  ins : ∀ i ∈ p.code, OkI i
theorem prog_info : (Tryd.prog.info? 25).map (·.size) = some 4 := by kernel_rfl
/-- The sum as the machine has it. -/
def wsum (x : Int) : List Bs → Int
  | [] => x
  | t :: r => wsum (wrap64 (x + wrap64 ((t.length : Int) + 1))) r
def fewP (p : PProg) : Bool := decide (wsum (wrap64 ((p.locals.length : Int) + p.globs.length)) p.types ≤ 500) && decide (p.code.length ≤ 210)
theorem wsum_snoc (x : Int) (ts : List Bs) (t : Bs) : wsum x (ts ++ [t]) = wrap64 (wsum x ts + wrap64 ((t.length : Int) + 1)) := by
  induction ts generalizing x with
  | nil => rfl
  | cons a r ih => exact ih _

set_option maxRecDepth 100000 in
set_option maxHeartbeats 1000000 in
theorem few_any (v : Value) (p : PProg) (w : World) (h : ProgAt w v p) (hs : OkP p) : Calls Tryd.prog 13 #[v] w (AggPost w (.bool (fewP p))) := by
  obtain ⟨vt, vc, rfl, ht, hc⟩ := h
  have hwb : Below w.heap.size w (w.alloc (.cells (progC vt p vc) 25)) := (Below.refl _ _).alloc (Nat.le_refl _) _
  obtain ⟨a, c, rfl, h1, h2, h3⟩ := (ht.below hwb).elems
  obtain ⟨a', c', rfl, g1, g2, g3⟩ := hc.below hwb
  have HT := Lib.hid h3
  have HP := Lib.hid hs
  have hlo := hs.lo
  have hgl := hs.gl
  clear h3 g3 hs ht hc
  unfold maxLen at h2 g2 hlo hgl
  go_enter Tryd.func13, Tryd.ntmps13
  go_wp2
  go_loop [3, 16] (fun v i => ∃ k : Nat, k ≤ p.types.length ∧ i = .int .i64 k ∧ v = .int .i64 (wsum (wrap64 ((p.locals.length : Int) + p.globs.length)) (p.types.take k))) (fun _ i => p.types.length - (intOf i).toNat)
  case atStart => exact ⟨0, Nat.zero_le _, rfl, rfl⟩
  case round =>
    obtain ⟨k, hk, rfl, rfl⟩ := hrel
    by_cases hlt : k < p.types.length
    · obtain ⟨t, hx⟩ : ∃ t, p.types[k]? = some t := ⟨_, List.getElem?_eq_getElem hlt⟩
      obtain ⟨b, o, rfl, hb, hcell⟩ := HT.out k t hx
      have hl := HP.out.ty t (List.mem_of_getElem? hx)
      have hn : wsum (wrap64 ((p.locals.length : Int) + p.globs.length)) (p.types.take (k + 1)) = wrap64 (wsum (wrap64 ((p.locals.length : Int) + p.globs.length)) (p.types.take k) + wrap64 ((t.length : Int) + 1)) := by
        obtain ⟨h1, rfl⟩ := List.getElem?_eq_some_iff.1 hx
        rw [List.take_succ_eq_append_getElem h1, wsum_snoc]
      have HN := Lib.hid hn
      clear hn hx
      generalize wsum (wrap64 ((p.locals.length : Int) + p.globs.length)) (p.types.take k) = z at *
      unfold maxLen at hl
      go_wp2
      go_round
      case rel => exact ⟨k + 1, by omega, by go_num, by rw [HN.out]⟩
      case measure => simp [intOf]; omega
    · obtain rfl : k = p.types.length := by omega
      rw [List.take_length]
      have HF : Hid (fewP p = (decide (wsum (wrap64 ((p.locals.length : Int) + p.globs.length)) p.types ≤ 500) && decide (p.code.length ≤ 210))) := Lib.hid rfl
      generalize wsum (wrap64 ((p.locals.length : Int) + p.globs.length)) p.types = z at *
      by_cases hz : z ≤ 500
      · by_cases hc : p.code.length ≤ 210
        · go_wp2
          go_ret
          exact ⟨ret_bool (by rw [HF.out]; simp [hz]; omega), hwb⟩
        · go_wp2
          go_ret
          exact ⟨ret_bool (by rw [HF.out]; simp [hz]; omega), hwb⟩
      · go_wp2
        go_ret
        exact ⟨ret_bool (by rw [HF.out, decide_eq_false (by omega)]; rfl), hwb⟩
theorem few_b (v : Value) (p : PProg) (b : Bool) (w : World) (h : ProgAt w v p) (hs : OkP p) (hb : fewP p = b) : Calls Tryd.prog 13 #[v] w (AggPost w (.bool b)) := by
  subst hb; exact few_any v p w h hs

end Go.Proofs.YtjkpbajojgdooaaDoor
