/-
  KindLetters: letters and bits, in plain words.
-/
import Derived.Test.YtpeoecaamdiphaaKAlive
import Derived.Deep.Cut
import Derived.Deep.CutRange
namespace Go.Proofs.Ytpeoecaamdiphaa
open Go.RowKit

theorem kright_y (v : Value) (ts : List ByteArray) (x : Bool) (w : World) (h : TsAt w v ts) (hr : Hid (rightB ts = x)) : Calls Try.prog 12 #[v] w fun e w' => e = .returned (.bool x) ∧ w = w' :=
  (kright_any v ts w h).mono fun e w' ⟨h1, h2⟩ => ⟨by rw [h1, hr.out], h2⟩

def outE (ts : List ByteArray) (k : Nat) : Bool := decide (1 ≤ ts.length ∧ ts.length ≤ 8 ∧ ∀ j, j < k → okB ts.length (ty ts j) = true)
def inE (ts : List ByteArray) (k : Nat) (s : ByteArray) (i : Nat) : Bool := outE ts k && decide (1 ≤ s.size ∧ s.size ≤ 6 ∧ ∀ j, j < i → letB ts.length (byt s j) = true)
theorem out_zero (ts : List ByteArray) : outE ts 0 = decide (1 ≤ ts.length ∧ ts.length ≤ 8) := by
  unfold outE
  rw [decide_eq_decide]
  exact ⟨fun h => ⟨h.1, h.2.1⟩, fun h => ⟨h.1, h.2, fun j hj => absurd hj (Nat.not_lt_zero j)⟩⟩
theorem out_all (ts : List ByteArray) : outE ts ts.length = rightB ts := rfl
theorem in_zero {ts : List ByteArray} {k : Nat} {s : ByteArray} : inE ts k s 0 = (outE ts k && decide (1 ≤ s.size ∧ s.size ≤ 6)) := by
  unfold inE
  congr 1
  rw [decide_eq_decide]
  exact ⟨fun h => ⟨h.1, h.2.1⟩, fun h => ⟨h.1, h.2, fun j hj => absurd hj (Nat.not_lt_zero j)⟩⟩
theorem in_next {ts : List ByteArray} {k i : Nat} {s : ByteArray} : inE ts k s (i + 1) = (inE ts k s i && letB ts.length (byt s i)) := by
  rw [Bool.eq_iff_iff]
  simp only [inE, Bool.and_eq_true, decide_eq_true_eq]
  constructor
  · rintro ⟨h1, h2, h3, h4⟩; exact ⟨⟨h1, h2, h3, fun j hj => h4 j (by omega)⟩, h4 i (by omega)⟩
  · rintro ⟨⟨h1, h2, h3, h4⟩, h5⟩; exact ⟨h1, h2, h3, all_next h4 h5⟩
theorem out_next {ts : List ByteArray} {k : Nat} {s : ByteArray} (hs : ty ts k = s) : outE ts (k + 1) = inE ts k s s.size := by
  subst hs
  rw [Bool.eq_iff_iff]
  simp only [inE, outE, Bool.and_eq_true, decide_eq_true_eq]
  constructor
  · rintro ⟨h1, h2, h3⟩
    have := ok_iff.1 (h3 k (by omega))
    exact ⟨⟨h1, h2, fun j hj => h3 j (by omega)⟩, this.1, this.2.1, this.2.2⟩
  · rintro ⟨⟨h1, h2, h3⟩, h4, h5, h6⟩
    exact ⟨h1, h2, all_next h3 (ok_iff.2 ⟨h4, h5, h6⟩)⟩

/-- How many of the first k fields are pointers. -/
def ptrsN (s : ByteArray) : Nat → Nat
  | 0 => 0
  | k + 1 => ptrsN s k + if byt s k = 105 then 0 else 1
theorem ptrs_le (s : ByteArray) : ∀ k, ptrsN s k ≤ k
  | 0 => Nat.le_refl _
  | k + 1 => by have := ptrs_le s k; unfold ptrsN; split <;> omega
theorem ptrs_i {s : ByteArray} {k : Nat} (h : byt s k = 105) : ptrsN s (k + 1) = ptrsN s k := by
  show ptrsN s k + _ = _
  rw [if_pos h]; rfl
theorem ptrs_d {s : ByteArray} {k : Nat} (h : byt s k ≠ 105) : ptrsN s (k + 1) = ptrsN s k + 1 := by
  show ptrsN s k + _ = _
  rw [if_neg h]
/-- A bit of the mask. -/
theorem bit_at (s : ByteArray) (k : Nat) : ∀ n, bitsN s n / 2 ^ k % 2 = if k < n ∧ byt s k ≠ 105 then 1 else 0
  | 0 => by simp [bitsN]
  | n + 1 => by
    have ih := bit_at s k n
    have hlt := bits_lt s n
    have hp : 0 < 2 ^ k := Nat.pow_pos (by decide)
    by_cases hi : byt s n = 105
    · rw [bits_i' hi, ih]
      by_cases hk : k = n
      · subst hk; simp [hi]
      · have : k < n + 1 ↔ k < n := by omega
        simp only [this]
    · rw [bits_d' hi]
      rcases Nat.lt_trichotomy k n with hk | hk | hk
      · obtain ⟨m, rfl⟩ : ∃ m, n = k + (m + 1) := ⟨n - k - 1, by omega⟩
        have e : 2 ^ (k + (m + 1)) = (2 ^ m * 2) * 2 ^ k := by rw [Nat.pow_add, Nat.pow_succ, Nat.mul_comm]
        rw [e, Nat.add_mul_div_right _ _ hp, Nat.add_mul_mod_self_right, ih]
        have h1 : k < k + (m + 1) + 1 := by omega
        simp only [hk, h1]
      · subst hk
        have e : (bitsN s k + 2 ^ k) / 2 ^ k = 1 := by
          rw [Nat.add_div_right _ hp, Nat.div_eq_of_lt hlt]
        rw [e]
        simp [hi]
      · have h2 : bitsN s n + 2 ^ n < 2 ^ k := by
          have : 2 ^ (n + 1) ≤ 2 ^ k := Nat.pow_le_pow_right (by decide) hk
          have e : 2 ^ (n + 1) = 2 ^ n + 2 ^ n := by rw [Nat.pow_succ]; omega
          omega
        rw [Nat.div_eq_of_lt h2]
        have h3 : ¬ k < n + 1 := by omega
        simp [h3]
where
  bits_i' {s : ByteArray} {k : Nat} (h : byt s k = 105) : bitsN s (k + 1) = bitsN s k := by
    show bitsN s k + _ = _
    rw [if_pos h]; rfl
  bits_d' {s : ByteArray} {k : Nat} (h : byt s k ≠ 105) : bitsN s (k + 1) = bitsN s k + 2 ^ k := by
    show bitsN s k + _ = _
    rw [if_neg h]

set_option maxRecDepth 100000 in
theorem and_bit : ∀ M : Nat, M < 64 → ∀ j : Nat, j < 8 → bits BinOp.and IntKind.u8 ((M : Int) / 2 ^ j) 1 = ((M / 2 ^ j % 2 : Nat) : Int) := by decide
theorem ptrs_min (s : ByteArray) (j : Nat) : ptrsN s (min (j + 1) s.size) = ptrsN s (min j s.size) + bitsN s s.size / 2 ^ j % 2 ∧ bitsN s s.size / 2 ^ j % 2 ≤ 1 := by
  refine ⟨?_, by omega⟩
  rw [bit_at]
  by_cases h : j < s.size
  · rw [Nat.min_eq_left (show j + 1 ≤ s.size by omega), Nat.min_eq_left (show j ≤ s.size by omega)]
    by_cases hi : byt s j = 105
    · rw [ptrs_i hi]; simp [hi]
    · rw [ptrs_d hi]; simp [hi, h]
  · rw [Nat.min_eq_right (show s.size ≤ j + 1 by omega), Nat.min_eq_right (show s.size ≤ j by omega)]
    simp [h]

end Go.Proofs.Ytpeoecaamdiphaa
