/-
  Contracts: which bytes, and which words, may be (the program's and the document's).
-/
import Derived.Test.YtgmpggjikebcdaaGreatDoorChecked
import Derived.Test.YtgmpggjikebcdaaGreatDoorWPure
import Derived.WalkKit
import Derived.RowKit
import Derived.IntWalk
import Derived.Lib.Hide
namespace Go.Proofs.YtgmpggjikebcdaaGreatDoor
open Go.RowKit

theorem isLetter_t (c : Int) (w : World) (h1 : 97 ≤ c) (h2 : c ≤ 122) : Calls Tryz.prog 73 #[.int .u8 c] w fun e w' => e = .returned (.bool true) ∧ w = w' := by
  go_enter Tryz.func73, Tryz.ntmps73
  go_wp2
  go_ret
  exact ⟨rfl, rfl⟩
theorem isLetter_f (c : Int) (w : World) (h : c < 97 ∨ 122 < c) : Calls Tryz.prog 73 #[.int .u8 c] w fun e w' => e = .returned (.bool false) ∧ w = w' := by
  by_cases h1 : 97 ≤ c
  · have h2 : ¬ c ≤ 122 := by omega
    clear h
    go_enter Tryz.func73, Tryz.ntmps73
    go_wp2
    go_ret
    exact ⟨rfl, rfl⟩
  · clear h
    go_enter Tryz.func73, Tryz.ntmps73
    go_wp2
    go_ret
    exact ⟨rfl, rfl⟩
theorem isDigit_t (c : Int) (w : World) (h1 : 48 ≤ c) (h2 : c ≤ 57) : Calls Tryz.prog 74 #[.int .u8 c] w fun e w' => e = .returned (.bool true) ∧ w = w' := by
  go_enter Tryz.func74, Tryz.ntmps74
  go_wp2
  go_ret
  exact ⟨rfl, rfl⟩
theorem isDigit_f (c : Int) (w : World) (h : c < 48 ∨ 57 < c) : Calls Tryz.prog 74 #[.int .u8 c] w fun e w' => e = .returned (.bool false) ∧ w = w' := by
  by_cases h1 : 48 ≤ c
  · have h2 : ¬ c ≤ 57 := by omega
    clear h
    go_enter Tryz.func74, Tryz.ntmps74
    go_wp2
    go_ret
    exact ⟨rfl, rfl⟩
  · clear h
    go_enter Tryz.func74, Tryz.ntmps74
    go_wp2
    go_ret
    exact ⟨rfl, rfl⟩

theorem take_snoc (s : ByteArray) (k : Nat) (h : k < s.size) : s.data.toList.take (k + 1) = s.data.toList.take k ++ [s[k]] := by
  rw [List.take_succ_eq_append_getElem (by simpa using h)]; rfl

/-- The first k bytes may all be. -/
def OkTo (s : ByteArray) (k : Nat) : Prop := ∀ c ∈ s.data.toList.take k, okC c = true
theorem OkTo.next {s : ByteArray} {k : Nat} (h : OkTo s k) (hk : k < s.size) (hc : okC s[k] = true) : OkTo s (k + 1) := by
  intro c hm
  rw [take_snoc s k hk] at hm
  rcases List.mem_append.1 hm with h' | h'
  · exact h c h'
  · simp at h'; subst h'; exact hc
theorem okTo_zero (s : ByteArray) : OkTo s 0 := by intro c h; simp at h
theorem len_size (s : ByteArray) : s.data.toList.length = s.size := by rw [Array.length_toList]; rfl
theorem OkTo.all {s : ByteArray} (h : OkTo s s.size) : s.data.toList.all okC = true := by
  have e : s.data.toList.take s.size = s.data.toList := List.take_of_length_le (by rw [len_size]; exact Nat.le_refl _)
  rw [OkTo, e] at h
  exact List.all_eq_true.2 h
theorem not_all {s : ByteArray} {k : Nat} (hk : k < s.size) (hc : okC s[k] = false) : s.data.toList.all okC = false := by
  rw [Bool.eq_false_iff]
  intro h
  have := List.all_eq_true.1 h s[k] (by
    have : s[k] = s.data.toList[k]'(by simpa using hk) := rfl
    rw [this]; exact List.getElem_mem _)
  rw [hc] at this
  exact absurd this (by decide)
theorem may_of {s : ByteArray} (hl : s.size ≤ 30) (h : OkTo s s.size) : mayL s.data.toList = true := by
  have : s.data.toList.length ≤ 30 := by rw [len_size]; exact hl
  unfold mayL; rw [h.all, decide_eq_true this]; rfl
theorem may_not {s : ByteArray} {k : Nat} (hk : k < s.size) (hc : okC s[k] = false) : mayL s.data.toList = false := by
  unfold mayL; rw [not_all hk hc, Bool.and_false]
theorem may_long {s : ByteArray} (h : 30 < s.size) : mayL s.data.toList = false := by
  have : ¬ s.data.toList.length ≤ 30 := by rw [len_size]; omega
  simp only [mayL, decide_eq_false this, Bool.false_and]
theorem ret_bool {a b : Bool} (h : a = b) : Ending.returned (.bool a) = .returned (.bool b) := by rw [h]

theorem okC_cases (c : UInt8) : ((97 ≤ (c.toNat : Int) ∧ (c.toNat : Int) ≤ 122) ∧ okC c = true) ∨ (((c.toNat : Int) < 97 ∨ 122 < (c.toNat : Int)) ∧ (48 ≤ (c.toNat : Int) ∧ (c.toNat : Int) ≤ 57) ∧ okC c = true) ∨
    (((c.toNat : Int) < 97 ∨ 122 < (c.toNat : Int)) ∧ ((c.toNat : Int) < 48 ∨ 57 < (c.toNat : Int)) ∧ (c.toNat : Int) = 45 ∧ okC c = true) ∨
    (((c.toNat : Int) < 97 ∨ 122 < (c.toNat : Int)) ∧ ((c.toNat : Int) < 48 ∨ 57 < (c.toNat : Int)) ∧ (c.toNat : Int) ≠ 45 ∧ okC c = false) := by
  by_cases h1 : 97 ≤ c.toNat ∧ c.toNat ≤ 122
  · left; refine ⟨by omega, ?_⟩; simp [okC, h1.1, h1.2]
  · right
    by_cases h2 : 48 ≤ c.toNat ∧ c.toNat ≤ 57
    · left; refine ⟨by omega, by omega, ?_⟩; simp [okC, h2.1, h2.2]
    · right
      by_cases h3 : c.toNat = 45
      · left; refine ⟨by omega, by omega, by omega, ?_⟩; simp [okC, h3]
      · right; refine ⟨by omega, by omega, by omega, ?_⟩
        simp only [okC, Bool.or_eq_false_iff, Bool.and_eq_false_iff, decide_eq_false_iff_not]
        omega

set_option maxHeartbeats 1000000 in
theorem mayBe_any (s : ByteArray) (w : World) (hs : s.size ≤ maxLen) : Calls Tryz.prog 58 #[.string s] w fun e w' => e = .returned (.bool (mayL s.data.toList)) ∧ w = w' := by
  unfold maxLen at hs
  by_cases hl : 30 < s.size
  · go_enter Tryz.func58, Tryz.ntmps58
    go_wp2
    go_ret
    exact ⟨ret_bool (may_long hl).symm, rfl⟩
  · go_enter Tryz.func58, Tryz.ntmps58
    go_wp2
    go_loop [9] (fun i => ∃ k : Nat, k ≤ s.size ∧ i = .int .i64 k ∧ OkTo s k) (fun i => s.size - (intOf i).toNat)
    case atStart => exact ⟨0, Nat.zero_le _, rfl, okTo_zero s⟩
    case round =>
      obtain ⟨k, hk, rfl, hok⟩ := hrel
      by_cases hlt : k < s.size
      · rcases okC_cases s[k] with ⟨⟨h1, h2⟩, hc⟩ | ⟨h1, ⟨h2, h3⟩, hc⟩ | ⟨h1, h2, h3, hc⟩ | ⟨h1, h2, h3, hc⟩
        · have HC := Lib.hid hc
          clear hc
          go_wp2_with (first | (go_at_call 73; refine (isLetter_t _ _ (by assumption) (by assumption)).mono ?_; rintro e w' ⟨rfl, rfl⟩))
          go_round
          case rel => exact ⟨k + 1, by omega, by go_num, hok.next hlt HC.out⟩
          case measure => simp [intOf]; omega
        · have HC := Lib.hid hc
          clear hc
          go_wp2_with (first | (go_at_call 73; refine (isLetter_f _ _ (by assumption)).mono ?_; rintro e w' ⟨rfl, rfl⟩) | (go_at_call 74; refine (isDigit_t _ _ (by assumption) (by assumption)).mono ?_; rintro e w' ⟨rfl, rfl⟩))
          go_round
          case rel => exact ⟨k + 1, by omega, by go_num, hok.next hlt HC.out⟩
          case measure => simp [intOf]; omega
        · have HC := Lib.hid hc
          have e1 : (((s[k].toNat : Nat) : Int) != 45) = false := by simp [h3]
          clear hc h3
          go_wp2_with (first | (go_at_call 73; refine (isLetter_f _ _ (by assumption)).mono ?_; rintro e w' ⟨rfl, rfl⟩) | (go_at_call 74; refine (isDigit_f _ _ (by assumption)).mono ?_; rintro e w' ⟨rfl, rfl⟩))
          go_round
          case rel => exact ⟨k + 1, by omega, by go_num, hok.next hlt HC.out⟩
          case measure => simp [intOf]; omega
        · have HC := Lib.hid hc
          have e1 : (((s[k].toNat : Nat) : Int) != 45) = true := by simpa using h3
          clear hc h3
          go_wp2_with (first | (go_at_call 73; refine (isLetter_f _ _ (by assumption)).mono ?_; rintro e w' ⟨rfl, rfl⟩) | (go_at_call 74; refine (isDigit_f _ _ (by assumption)).mono ?_; rintro e w' ⟨rfl, rfl⟩))
          go_ret
          exact ⟨ret_bool (may_not hlt HC.out).symm, rfl⟩
      · go_wp2
        go_ret
        obtain rfl : k = s.size := by omega
        exact ⟨ret_bool (may_of (by omega) hok).symm, rfl⟩

end Go.Proofs.YtgmpggjikebcdaaGreatDoor
