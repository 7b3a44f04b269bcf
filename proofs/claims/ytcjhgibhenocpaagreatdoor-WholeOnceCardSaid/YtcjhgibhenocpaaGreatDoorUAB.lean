/-
  Plain lists: decimal numbers and their texts.
  Plain lists: what Join tells comes back from Lines; lengths; texts one behind the other.
-/
import Derived.Test.YtcjhgibhenocpaaGreatDoorUAA
import Derived.Lib.ItoaNum
import Derived.Lib.ParseIntB
import Derived.Lib.ParseIntBTie
import Derived.Lib.ItoaMem
import Derived.Lib.ItoaLen

/- Plain lists: decimal numbers and their texts. -/
namespace Go.Proofs.YtcjhgibhenocpaaGreatDoor
set_option linter.unusedSimpArgs false
set_option linter.unusedVariables false

/-- The number that digits spell behind acc. -/
def vf (acc : Nat) (l : Bs) : Nat := l.foldl (fun a c => a * 10 + (c.toNat - 48)) acc
theorem vf_cons (acc : Nat) (c : UInt8) (l : Bs) : vf acc (c :: l) = vf (acc * 10 + (c.toNat - 48)) l := by unfold vf; rw [List.foldl_cons]
theorem vf_snoc (acc : Nat) (l : Bs) (c : UInt8) : vf acc (l ++ [c]) = vf acc l * 10 + (c.toNat - 48) := by unfold vf; rw [List.foldl_append, List.foldl_cons, List.foldl_nil]
theorem vf_nil (acc : Nat) : vf acc [] = acc := by unfold vf; rw [List.foldl_nil]
theorem vf_ge : ∀ (l : Bs) (acc : Nat), acc ≤ vf acc l
  | [], acc => Nat.le_refl _
  | c :: l, acc => by rw [vf_cons]; exact Nat.le_trans (by omega) (vf_ge l _)
theorem vf_pow : ∀ (l : Bs) (acc : Nat), acc * 10 ^ l.length ≤ vf acc l
  | [], acc => by simp [vf]
  | c :: l, acc => by
    rw [vf_cons]
    refine Nat.le_trans ?_ (vf_pow l _)
    rw [List.length_cons, Nat.pow_succ, Nat.mul_comm (10 ^ l.length) 10, ← Nat.mul_assoc]
    exact Nat.mul_le_mul_right _ (by omega)
theorem dig_le {c : UInt8} (h : digC c = true) : 48 ≤ c.toNat ∧ c.toNat ≤ 57 := by
  unfold digC at h
  obtain ⟨h1, h2⟩ := Bool.and_eq_true_iff.1 h
  exact ⟨of_decide_eq_true h1, of_decide_eq_true h2⟩
theorem vf_lt : ∀ (l : Bs) (acc : Nat), l.all digC = true → vf acc l < (acc + 1) * 10 ^ l.length
  | [], acc, _ => by simp [vf]
  | c :: l, acc, h => by
    rw [List.all_cons, Bool.and_eq_true] at h
    have hc := dig_le h.1
    rw [vf_cons]
    refine Nat.lt_of_lt_of_le (vf_lt l _ h.2) ?_
    rw [List.length_cons, Nat.pow_succ, Nat.mul_comm (10 ^ l.length) 10, ← Nat.mul_assoc]
    exact Nat.mul_le_mul_right _ (by omega)

theorem parseM : ∀ (l : Bs) (acc : Nat), l.all digC = true → acc ≤ 18446744073709551615 →
    Lib.parseUintM (2 ^ 64 - 1) acc l = if vf acc l ≤ 18446744073709551615 then .ok (vf acc l) else .range
  | [], acc, _, h => by unfold Lib.parseUintM; rw [vf_nil, if_pos h]
  | c :: l, acc, h, ha => by
    rw [List.all_cons, Bool.and_eq_true] at h
    have hc := dig_le h.1
    unfold Lib.parseUintM
    rw [if_pos hc, vf_cons]
    have hg := vf_ge l (acc * 10 + (c.toNat - 48))
    have hM : (2 : Nat) ^ 64 - 1 = 18446744073709551615 := by decide
    by_cases h1 : 1844674407370955162 ≤ acc
    · rw [if_pos h1, if_neg (by omega)]
    · rw [if_neg h1]
      by_cases h2 : 2 ^ 64 - 1 < acc * 10 + (c.toNat - 48)
      · rw [if_pos h2, if_neg (by omega)]
      · rw [if_neg h2]; exact parseM l _ h.2 (by omega)
theorem parseB {l : Bs} (h0 : l ≠ []) (h : l.all digC = true) : Lib.parseUintB 64 l = if vf 0 l ≤ 18446744073709551615 then .ok (vf 0 l) else .range := by
  unfold Lib.parseUintB; rw [if_neg h0]; exact parseM l 0 h (by decide)

/-- What Number answers. -/
def numL (s : Bs) : Int × Nat :=
  if decL s = true then
    if s.head? = some 45 then (if 9223372036854775808 < vf 0 (trimL s) then (0, 3) else (-(vf 0 (trimL s) : Int), 0))
    else (if 9223372036854775808 ≤ vf 0 (trimL s) then (0, 3) else ((vf 0 (trimL s) : Int), 0))
  else (0, 4)

theorem decL_parts {s : Bs} (h : decL s = true) : trimL s ≠ [] ∧ (trimL s).all digC = true ∧ ((trimL s).head? ≠ some 48 ∨ s = [48]) := by
  unfold decL at h
  obtain ⟨h1, h3⟩ := Bool.and_eq_true_iff.1 h
  obtain ⟨h1, h2⟩ := Bool.and_eq_true_iff.1 h1
  refine ⟨by intro e; rw [e] at h1; simp at h1, h2, ?_⟩
  rcases Bool.or_eq_true_iff.1 h3 with h | h
  · left; simpa using h
  · right; simpa using h
theorem decL_mk {s : Bs} (h1 : trimL s ≠ []) (h2 : (trimL s).all digC = true) (h3 : (trimL s).head? ≠ some 48 ∨ s = [48]) : decL s = true := by
  unfold decL
  have e1 : (trimL s).isEmpty = false := by cases h : trimL s with
    | nil => exact absurd h h1
    | cons _ _ => rfl
  rw [e1, h2]
  rcases h3 with h | h
  · have : ((trimL s).head? != some 48) = true := by simpa using h
    rw [this]; rfl
  · subst h; rfl
theorem trim_minus (r : Bs) : trimL (45 :: r) = r := by show (if (45 : UInt8) = 45 then r else 45 :: r) = r; rw [if_pos rfl]
theorem trim_other {c : UInt8} (h : c ≠ 45) (r : Bs) : trimL (c :: r) = c :: r := by show (if c = 45 then r else c :: r) = c :: r; rw [if_neg h]
theorem dig_ne {c : UInt8} (h : digC c = true) : c.toNat ≠ 43 ∧ c.toNat ≠ 45 := by have := dig_le h; omega

theorem num_parse {s : Bs} (h : decL s = true) : (∃ v, numL s = (v, 0) ∧ Lib.parseIntB 64 s = .ok v) ∨ (numL s = (0, 3) ∧ Lib.parseIntB 64 s = .range) := by
  obtain ⟨h1, h2, h3⟩ := decL_parts h
  have hC : (2 : Nat) ^ (64 - 1) = 9223372036854775808 := by decide
  unfold numL
  rw [if_pos h]
  cases s with
  | nil => exact absurd rfl h1
  | cons c r =>
    by_cases hc : c = 45
    · subst hc
      rw [trim_minus] at h1 h2 ⊢
      rw [Lib.parseIntB_minus, parseB h1 h2, hC, if_pos (show (45 :: r).head? = some 45 from rfl)]
      by_cases hu : 9223372036854775808 < vf 0 r
      · right; rw [if_pos hu]
        refine ⟨rfl, ?_⟩
        split
        · show (if 9223372036854775808 < vf 0 r then Lib.NumEnd.range else _) = _; rw [if_pos hu]
        · rfl
      · left; rw [if_neg hu, if_pos (by omega)]
        refine ⟨_, rfl, ?_⟩
        show (if 9223372036854775808 < vf 0 r then Lib.NumEnd.range else .ok (-(vf 0 r : Int))) = _
        rw [if_neg hu]
    · rw [trim_other hc] at h1 h2 ⊢
      have hd : digC c = true := by rw [List.all_cons, Bool.and_eq_true] at h2; exact h2.1
      have hn := dig_ne hd
      rw [Lib.parseIntB_plain 64 c r hn.1 hn.2, parseB h1 h2, hC, if_neg (show (c :: r).head? ≠ some 45 by simpa using hc)]
      by_cases hu : 9223372036854775808 ≤ vf 0 (c :: r)
      · right; rw [if_pos hu]
        refine ⟨rfl, ?_⟩
        split
        · show (if 9223372036854775808 ≤ vf 0 (c :: r) then Lib.NumEnd.range else _) = _; rw [if_pos hu]
        · rfl
      · left; rw [if_neg hu, if_pos (by omega)]
        refine ⟨_, rfl, ?_⟩
        show (if 9223372036854775808 ≤ vf 0 (c :: r) then Lib.NumEnd.range else .ok ((vf 0 (c :: r) : Nat) : Int)) = _
        rw [if_neg hu]

theorem dig_of (u : Nat) (h : u < 10) : digC (UInt8.ofNat (48 + u)) = true ∧ (UInt8.ofNat (48 + u)).toNat = 48 + u := by
  have e : (UInt8.ofNat (48 + u)).toNat = 48 + u := by rw [UInt8.toNat_ofNat']; omega
  refine ⟨?_, e⟩
  unfold digC; rw [e]; simp; omega
theorem ofNat_dig {c : UInt8} (h : digC c = true) : UInt8.ofNat (48 + (c.toNat - 48)) = c := by
  have := dig_le h
  apply UInt8.toNat_inj.1
  rw [UInt8.toNat_ofNat']; omega
/-- The digits of a number. -/
theorem decDigits_all (u : Nat) : Lib.decDigits u ≠ [] ∧ (Lib.decDigits u).all digC = true ∧ vf 0 (Lib.decDigits u) = u ∧ (u ≠ 0 → (Lib.decDigits u).head? ≠ some 48) := by
  induction u using Nat.strongRecOn with
  | _ u ih =>
    by_cases h : u < 10
    · have hd := dig_of u h
      rw [Lib.decDigits_one h]
      refine ⟨by simp, by rw [List.all_cons, hd.1]; rfl, ?_, fun h0 => ?_⟩
      · rw [vf_cons, vf_nil, hd.2]; omega
      · intro e
        have e' : UInt8.ofNat (48 + u) = 48 := by simpa using e
        have := congrArg UInt8.toNat e'
        rw [hd.2] at this
        have e48 : (48 : UInt8).toNat = 48 := rfl
        omega
    · obtain ⟨i1, i2, i3, i4⟩ := ih (u / 10) (by omega)
      have hd := dig_of (u % 10) (by omega)
      rw [Lib.decDigits, dif_neg h]
      refine ⟨by simp, ?_, ?_, fun _ => ?_⟩
      · rw [List.all_append, i2, List.all_cons, hd.1]; rfl
      · rw [vf_snoc, i3, hd.2]; omega
      · have i4' := i4 (by omega)
        cases hx : Lib.decDigits (u / 10) with
        | nil => exact absurd hx i1
        | cons a r => rw [hx] at i4'; rw [List.cons_append]; simpa using i4'
theorem decDigits_zero : Lib.decDigits 0 = [48] := by rw [Lib.decDigits_one (by decide)]; rfl
theorem vf_pos {d : Bs} (h1 : d ≠ []) (h2 : d.all digC = true) (h3 : d.head? ≠ some 48) : 1 ≤ vf 0 d := by
  cases d with
  | nil => exact absurd rfl h1
  | cons c r =>
    rw [List.all_cons, Bool.and_eq_true] at h2
    have hc := dig_le h2.1
    have hn : c.toNat ≠ 48 := fun e => h3 (by
      have : c = 48 := UInt8.toNat_inj.1 (by rw [e]; rfl)
      rw [this]; rfl)
    rw [vf_cons]
    exact Nat.le_trans (by omega) (vf_ge r _)
theorem snoc_ind {P : Bs → Prop} (h0 : P []) (h1 : ∀ l c, P l → P (l ++ [c])) : ∀ l, P l := by
  intro l
  have : ∀ m : Bs, P m.reverse := by
    intro m
    induction m with
    | nil => exact h0
    | cons c m ih => rw [List.reverse_cons]; exact h1 _ _ ih
  have := this l.reverse
  rwa [List.reverse_reverse] at this
theorem decDigits_back : ∀ d : Bs, d ≠ [] → d.all digC = true → (d.head? ≠ some 48 ∨ d = [48]) → Lib.decDigits (vf 0 d) = d := by
  refine snoc_ind ?_ ?_
  · intro h; exact absurd rfl h
  · intro l c ih _ h2 h3
    rw [List.all_append, Bool.and_eq_true] at h2
    have hc : digC c = true := by have := h2.2; simpa using this
    have hcl := dig_le hc
    rw [vf_snoc]
    cases l with
    | nil =>
      rw [vf_nil, Lib.decDigits_one (by omega), List.nil_append]
      congr 1
      rw [Nat.zero_mul, Nat.zero_add]
      exact ofNat_dig hc
    | cons a r =>
      have h3' : (a :: r).head? ≠ some 48 := by
        rcases h3 with h | h
        · simpa using h
        · have := congrArg List.length h; simp at this
      have hp := vf_pos (by simp) h2.1 h3'
      have hi := ih (by simp) h2.1 (.inl h3')
      rw [Lib.decDigits, dif_neg (by omega)]
      have e1 : (vf 0 (a :: r) * 10 + (c.toNat - 48)) / 10 = vf 0 (a :: r) := by omega
      have e2 : (vf 0 (a :: r) * 10 + (c.toNat - 48)) % 10 = c.toNat - 48 := by omega
      rw [e1, e2, hi, ofNat_dig hc]

/-- Numbers come back from their texts. -/
theorem head_dig {d : Bs} (h1 : d ≠ []) (h2 : d.all digC = true) : trimL d = d ∧ d.head? ≠ some 45 := by
  cases d with
  | nil => exact absurd rfl h1
  | cons c r =>
    rw [List.all_cons, Bool.and_eq_true] at h2
    have hn := dig_ne h2.1
    have hc : c ≠ 45 := fun e => hn.2 (by rw [e]; rfl)
    exact ⟨trim_other hc r, by simpa using hc⟩
theorem num_itoa (n : Int) (h0 : -9223372036854775808 ≤ n) (h1 : n ≤ 9223372036854775807) : numL (Lib.itoa n) = (n, 0) ∧ decL (Lib.itoa n) = true := by
  by_cases hn : 0 ≤ n
  · obtain ⟨u, rfl⟩ : ∃ u : Nat, n = u := ⟨n.toNat, by omega⟩
    rw [Lib.itoa_nonneg]
    obtain ⟨d1, d2, d3, d4⟩ := decDigits_all u
    obtain ⟨t1, t2⟩ := head_dig d1 d2
    have hdec : decL (Lib.decDigits u) = true := by
      refine decL_mk (by rw [t1]; exact d1) (by rw [t1]; exact d2) ?_
      rw [t1]
      by_cases hu : u = 0
      · right; rw [hu, decDigits_zero]
      · left; exact d4 hu
    refine ⟨?_, hdec⟩
    unfold numL
    rw [if_pos hdec, if_neg t2, t1, d3, if_neg (by omega)]
  · obtain ⟨u, rfl⟩ : ∃ u : Nat, n = -(u : Int) := ⟨n.natAbs, by omega⟩
    have hu : 1 ≤ u := by omega
    rw [Lib.itoa_neg u hu]
    obtain ⟨d1, d2, d3, d4⟩ := decDigits_all u
    have hdec : decL (45 :: Lib.decDigits u) = true :=
      decL_mk (by rw [trim_minus]; exact d1) (by rw [trim_minus]; exact d2) (.inl (by rw [trim_minus]; exact d4 (by omega)))
    refine ⟨?_, hdec⟩
    unfold numL
    rw [if_pos hdec, if_pos (show (45 :: Lib.decDigits u).head? = some 45 from rfl), trim_minus, d3, if_neg (by omega)]
theorem num_back {s : Bs} {v : Int} (h : numL s = (v, 0)) : Lib.itoa v = s ∧ -9223372036854775808 ≤ v ∧ v ≤ 9223372036854775807 := by
  unfold numL at h
  by_cases hd : decL s = true
  · rw [if_pos hd] at h
    obtain ⟨h1, h2, h3⟩ := decL_parts hd
    cases s with
    | nil => exact absurd rfl h1
    | cons c r =>
      by_cases hc : c = 45
      · subst hc
        rw [if_pos (show (45 :: r).head? = some 45 from rfl), trim_minus] at h
        rw [trim_minus] at h1 h2 h3
        have h3' : r.head? ≠ some 48 := by
          rcases h3 with h | h
          · exact h
          · simp at h
        have hp := vf_pos h1 h2 h3'
        split at h
        · simp at h
        · next hu =>
          obtain ⟨rfl, _⟩ := Prod.mk.inj h
          rw [Lib.itoa_neg _ hp, decDigits_back r h1 h2 (.inl h3')]
          exact ⟨rfl, by omega, by omega⟩
      · rw [if_neg (show (c :: r).head? ≠ some 45 by simpa using hc), trim_other hc] at h
        rw [trim_other hc] at h1 h2 h3
        split at h
        · simp at h
        · next hu =>
          obtain ⟨rfl, _⟩ := Prod.mk.inj h
          rw [Lib.itoa_nonneg, decDigits_back _ h1 h2 h3]
          exact ⟨rfl, by omega, by omega⟩
  · rw [if_neg hd] at h; simp at h

/-- The document's way: nineteen digits at the most. -/
theorem num_long {s : Bs} (h : decL s = true) (hl : 19 < (trimL s).length) : numL s = (0, 3) := by
  obtain ⟨h1, h2, h3⟩ := decL_parts h
  have h3' : (trimL s).head? ≠ some 48 := by
    rcases h3 with h | h
    · exact h
    · subst h; simp [trimL] at hl
  have hbig : 9223372036854775808 < vf 0 (trimL s) := by
    cases hd : trimL s with
    | nil => exact absurd hd h1
    | cons c r =>
      rw [hd] at h2 h3' hl
      rw [List.all_cons, Bool.and_eq_true] at h2
      have hc := dig_le h2.1
      have hn : c.toNat ≠ 48 := fun e => h3' (by
        have : c = 48 := UInt8.toNat_inj.1 (by rw [e]; rfl)
        rw [this]; rfl)
      rw [vf_cons]
      refine Nat.lt_of_lt_of_le ?_ (vf_pow r _)
      have hr : 19 ≤ r.length := by simp at hl; omega
      have hp : 10 ^ 19 ≤ 10 ^ r.length := Nat.pow_le_pow_right (by decide) hr
      have : 1 * 10 ^ 19 ≤ (0 * 10 + (c.toNat - 48)) * 10 ^ r.length := Nat.mul_le_mul (by omega) hp
      have e19 : (10 : Nat) ^ 19 = 10000000000000000000 := by decide
      omega
  unfold numL
  rw [if_pos h]
  by_cases hh : s.head? = some 45
  · rw [if_pos hh, if_pos hbig]
  · rw [if_neg hh, if_pos (by omega)]
theorem vf_short {d : Bs} (h : d.all digC = true) (hl : d.length ≤ 19) : vf 0 d < 10000000000000000000 := by
  have := vf_lt d 0 h
  have hp : 10 ^ d.length ≤ 10 ^ 19 := Nat.pow_le_pow_right (by decide) hl
  have e19 : (10 : Nat) ^ 19 = 10000000000000000000 := by decide
  omega
theorem all_take {d : Bs} (h : d.all digC = true) (k : Nat) : (d.take k).all digC = true :=
  List.all_eq_true.2 fun x hx => List.all_eq_true.1 h x (List.mem_of_mem_take hx)
end Go.Proofs.YtcjhgibhenocpaaGreatDoor

/- Plain lists: what Join tells comes back from Lines; lengths; texts one behind the other. -/
namespace Go.Proofs.YtcjhgibhenocpaaGreatDoor
set_option linter.unusedSimpArgs false
set_option linter.unusedVariables false

def GoodW (x : List Bs) : Prop := x ≠ [] ∧ ∀ y ∈ x, y ≠ [] ∧ mayL y = true

theorem okC_not {c : UInt8} (h : okC c = true) : c ≠ 10 ∧ c ≠ 32 ∧ c ≠ 35 := by
  refine ⟨?_, ?_, ?_⟩ <;> (intro e; subst e; revert h; decide)
theorem may_chars {y : Bs} (h : mayL y = true) : ∀ c ∈ y, okC c = true := by
  unfold mayL at h
  exact List.all_eq_true.1 (Bool.and_eq_true_iff.1 h).2

theorem join_two (x y : Bs) (r : List Bs) : Lib.join (x :: y :: r) [32] = x ++ 32 :: Lib.join (y :: r) [32] := by
  rw [Lib.join_cons, Lib.join_cons]; simp [Lib.joinTail]
theorem join_chars (x : List Bs) (h : ∀ y ∈ x, mayL y = true) : ∀ c ∈ Lib.join x [32], okC c = true ∨ c = 32 := by
  induction x with
  | nil => intro c hc; simp [Lib.join, List.intercalate] at hc
  | cons a r ih =>
    cases r with
    | nil => intro c hc; rw [Lib.join_one] at hc; exact .inl (may_chars (h a (by simp)) c hc)
    | cons b r =>
      intro c hc
      rw [join_two] at hc
      rcases List.mem_append.1 hc with h1 | h1
      · exact .inl (may_chars (h a (by simp)) c h1)
      · rcases List.mem_cons.1 h1 with h2 | h2
        · exact .inr h2
        · exact ih (fun y hy => h y (by simp at hy ⊢; right; exact hy)) c h2

theorem split_join (x : List Bs) (h0 : x ≠ []) (h : ∀ y ∈ x, mayL y = true) : splitL 32 (Lib.join x [32]) = x := by
  induction x with
  | nil => exact absurd rfl h0
  | cons a r ih =>
    have ha : ∀ c ∈ a, c ≠ 32 := fun c hc => (okC_not (may_chars (h a (by simp)) c hc)).2.1
    cases r with
    | nil => rw [Lib.join_one, splitL_none 32 a ha]
    | cons b r =>
      rw [join_two, splitL_at 32 a _ ha, ih (by simp) (fun y hy => h y (by simp at hy ⊢; right; exact hy))]

theorem words_join (x : List Bs) (h : GoodW x) : wordsL (Lib.join x [32]) = x := by
  have hm : ∀ y ∈ x, mayL y = true := fun y hy => (h.2 y hy).2
  unfold wordsL
  rw [takeWhile_whole _ _ (fun c hc => by
    rcases join_chars x hm c hc with h1 | rfl
    · have := (okC_not h1).2.2; simpa using this
    · decide), split_join x h.1 hm, List.filter_eq_self]
  intro y hy
  have := (h.2 y hy).1
  cases y with
  | nil => exact absurd rfl this
  | cons _ _ => rfl

theorem joinL_cons (x : List Bs) (G : List (List Bs)) : joinL (x :: G) = Lib.join x [32] ++ 10 :: joinL G := by
  unfold joinL; simp
theorem split_joinL (G : List (List Bs)) (hG : ∀ x ∈ G, GoodW x) : splitL 10 (joinL G) = G.map (fun x => Lib.join x [32]) ++ [[]] := by
  induction G with
  | nil => rfl
  | cons x G ih =>
    rw [joinL_cons, splitL_at 10 _ _ (fun c hc => by
      rcases join_chars x (fun y hy => ((hG x (by simp)).2 y hy).2) c hc with h1 | rfl
      · exact (okC_not h1).1
      · decide), ih (fun y hy => hG y (by simp [hy]))]
    rfl

theorem good_join (G : List (List Bs)) (hG : ∀ x ∈ G, GoodW x) : goodL (G.map (fun x => Lib.join x [32]) ++ [[]]) = G := by
  unfold goodL
  have e : (G.map (fun x => Lib.join x [32])).map wordsL = G := by
    rw [List.map_map]
    exact (List.map_congr_left (fun x hx => words_join x (hG x hx))).trans (List.map_id G)
  rw [List.map_append, e, List.filter_append, List.filter_eq_self.2]
  · have : wordsL [] = [] := rfl
    simp [this]
  · intro x hx
    have := (hG x hx).1
    cases x with
    | nil => exact absurd rfl this
    | cons _ _ => rfl

theorem lines_join (G : List (List Bs)) (hG : ∀ x ∈ G, GoodW x) (hl : (joinL G).length ≤ 20000) : linesL (joinL G) = (G, 0, 0) := by
  unfold linesL
  rw [if_neg (by omega), split_joinL G hG, badAt_none, good_join G hG]
  intro l hl
  rcases List.mem_append.1 hl with h1 | h1
  · obtain ⟨x, hx, rfl⟩ := List.mem_map.1 h1
    unfold okLine
    rw [words_join x (hG x hx)]
    exact List.all_eq_true.2 (fun y hy => ((hG x hx).2 y hy).2)
  · simp at h1; subst h1; rfl

/-- What Lines answers of a text that is not too long. -/
theorem badAt_cases (n : Nat) (ls : List Bs) : (badAt n ls = none ∧ ∀ l ∈ ls, okLine l = true) ∨ ∃ k l, badAt n ls = some (n + k) ∧ ls[k]? = some l ∧ okLine l = false ∧ ∀ x ∈ ls.take k, okLine x = true := by
  induction ls generalizing n with
  | nil => left; exact ⟨rfl, by simp⟩
  | cons l r ih =>
    by_cases h : okLine l = true
    · rcases ih (n + 1) with ⟨h1, h2⟩ | ⟨k, x, h1, h2, h3, h4⟩
      · left; refine ⟨by unfold badAt; rw [if_pos h]; exact h1, fun y hy => ?_⟩
        rcases List.mem_cons.1 hy with rfl | hy
        · exact h
        · exact h2 y hy
      · right; refine ⟨k + 1, x, by unfold badAt; rw [if_pos h, h1]; congr 1; omega, by simpa using h2, h3, fun y hy => ?_⟩
        rw [List.take_succ_cons] at hy
        rcases List.mem_cons.1 hy with rfl | hy
        · exact h
        · exact h4 y hy
    · right; exact ⟨0, l, by unfold badAt; rw [if_neg h]; rfl, rfl, by simpa using h, by simp⟩
theorem linesL_cases (s : Bs) (hs : s.length ≤ 20000) :
    (linesL s = (goodL (splitL 10 s), 0, 0) ∧ ∀ l ∈ splitL 10 s, okLine l = true) ∨ ∃ k l, linesL s = ([], k + 1, 4) ∧ (splitL 10 s)[k]? = some l ∧ okLine l = false ∧ ∀ x ∈ (splitL 10 s).take k, okLine x = true := by
  rcases badAt_cases 1 (splitL 10 s) with ⟨h1, h2⟩ | ⟨k, l, h1, h2⟩
  · left; exact ⟨by unfold linesL; rw [if_neg (by omega), h1], h2⟩
  · right; exact ⟨k, l, by unfold linesL; rw [if_neg (by omega), h1, Nat.add_comm], h2⟩

theorem goodL_good (ls : List Bs) (h : ∀ l ∈ ls, okLine l = true) : ∀ x ∈ goodL ls, GoodW x := by
  intro x hx
  obtain ⟨h1, h2⟩ := List.mem_filter.1 hx
  obtain ⟨l, hl, rfl⟩ := List.mem_map.1 h1
  refine ⟨by intro e; rw [e] at h2; simp at h2, fun y hy => ⟨?_, List.all_eq_true.1 (h l hl) y hy⟩⟩
  have := (List.mem_filter.1 hy).2
  intro e; subst e; simp at this

/-- Lengths. -/
def lens1 (xs : List Bs) : Nat := (xs.map fun x => x.length + 1).sum
theorem lens1_cons (x : Bs) (r : List Bs) : lens1 (x :: r) = x.length + 1 + lens1 r := by simp [lens1]
theorem join_len (x : List Bs) : (Lib.join x [32]).length ≤ lens1 x - 1 := by
  induction x with
  | nil => simp [Lib.join, List.intercalate]
  | cons a r ih =>
    cases r with
    | nil => rw [Lib.join_one, lens1_cons]; simp [lens1]
    | cons b r =>
      rw [join_two, lens1_cons]
      have : 1 ≤ lens1 (b :: r) := by rw [lens1_cons]; omega
      simp; omega
end Go.Proofs.YtcjhgibhenocpaaGreatDoor
