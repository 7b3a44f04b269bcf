/-
  The document's May: which words may be.
-/
import Derived.Test.YtgmpggjikebcdaaGreatDoorWRows
namespace Go.Proofs.YtgmpggjikebcdaaGreatDoor
open Go.RowKit

def mayR (x : Bs) : Bool := mayL x && decide (1 ≤ x.length)
theorem okC_cases6 (c : UInt8) : ((97 ≤ (c.toNat : Int) ∧ (c.toNat : Int) ≤ 122) ∧ okC c = true) ∨ (((c.toNat : Int) < 97) ∧ (48 ≤ (c.toNat : Int) ∧ (c.toNat : Int) ≤ 57) ∧ okC c = true) ∨
    ((c.toNat : Int) = 45 ∧ okC c = true) ∨
    ((c.toNat : Int) < 48 ∧ (c.toNat : Int) ≠ 45 ∧ okC c = false) ∨ (57 < (c.toNat : Int) ∧ (c.toNat : Int) < 97 ∧ okC c = false) ∨ (122 < (c.toNat : Int) ∧ okC c = false) := by
  rcases okC_cases c with ⟨⟨h1, h2⟩, h⟩ | ⟨h1, ⟨h2, h3⟩, h⟩ | ⟨h1, h2, h3, h⟩ | ⟨h1, h2, h3, h⟩
  · exact .inl ⟨⟨h1, h2⟩, h⟩
  · exact .inr (.inl ⟨by omega, ⟨h2, h3⟩, h⟩)
  · exact .inr (.inr (.inl ⟨h3, h⟩))
  · right; right; right
    by_cases a : (c.toNat : Int) < 48
    · exact .inl ⟨a, h3, h⟩
    · right
      by_cases b : (c.toNat : Int) < 97
      · exact .inl ⟨by omega, b, h⟩
      · exact .inr ⟨by omega, h⟩
theorem mayR_not {s : ByteArray} {k : Nat} (hk : k < s.size) (hc : okC s[k] = false) : mayR s.data.toList = false := by
  unfold mayR; rw [may_not hk hc]; rfl
theorem mayR_end {s : ByteArray} (h : OkTo s s.size) : mayR s.data.toList = (decide (1 ≤ s.size) && decide (s.size ≤ 30)) := by
  unfold mayR mayL
  rw [h.all, len_size, Bool.and_true, Bool.and_comm]

set_option maxHeartbeats 2000000 in
theorem mayR_any (s : ByteArray) (w : World) (hs : s.size ≤ maxLen) : Calls Tryz.prog 50 #[.string s] w fun e w' => e = .returned (.bool (mayR s.data.toList)) ∧ w = w' := by
  unfold maxLen at hs
  go_enter Tryz.func50, Tryz.ntmps50
  go_wp2
  go_loop [3] (fun i => ∃ k : Nat, k ≤ s.size ∧ i = .int .i64 k ∧ OkTo s k) (fun i => s.size - (intOf i).toNat)
  case atStart => exact ⟨0, Nat.zero_le _, rfl, okTo_zero s⟩
  case round =>
    obtain ⟨k, hk, rfl, hok⟩ := hrel
    by_cases hlt : k < s.size
    · rcases okC_cases6 s[k] with ⟨⟨h1, h2⟩, hc⟩ | ⟨h1, ⟨h2, h3⟩, hc⟩ | ⟨h1, hc⟩ | ⟨h1, h2, hc⟩ | ⟨h1, h2, hc⟩ | ⟨h1, hc⟩
      · have HC := Lib.hid hc
        clear hc
        go_wp2
        go_round
        case rel => exact ⟨k + 1, by omega, by go_num, hok.next hlt HC.out⟩
        case measure => simp [intOf]; omega
      · have HC := Lib.hid hc
        have n1 : ¬ 97 ≤ ((s[k].toNat : Nat) : Int) := by omega
        clear hc
        go_wp2
        go_round
        case rel => exact ⟨k + 1, by omega, by go_num, hok.next hlt HC.out⟩
        case measure => simp [intOf]; omega
      · have HC := Lib.hid hc
        have n1 : ¬ 97 ≤ ((s[k].toNat : Nat) : Int) := by omega
        have n2 : ¬ 48 ≤ ((s[k].toNat : Nat) : Int) := by omega
        have e1 : (((s[k].toNat : Nat) : Int) == 45) = true := by simp [h1]
        clear hc h1
        go_wp2
        go_round
        case rel => exact ⟨k + 1, by omega, by go_num, hok.next hlt HC.out⟩
        case measure => simp [intOf]; omega
      · have HC := Lib.hid hc
        have n1 : ¬ 97 ≤ ((s[k].toNat : Nat) : Int) := by omega
        have n2 : ¬ 48 ≤ ((s[k].toNat : Nat) : Int) := by omega
        have e1 : (((s[k].toNat : Nat) : Int) == 45) = false := by simp [h2]
        clear hc h2
        go_wp2
        go_ret
        exact ⟨ret_bool (mayR_not hlt HC.out).symm, rfl⟩
      · have HC := Lib.hid hc
        have n1 : ¬ 97 ≤ ((s[k].toNat : Nat) : Int) := by omega
        have n2 : 48 ≤ ((s[k].toNat : Nat) : Int) := by omega
        have n3 : ¬ ((s[k].toNat : Nat) : Int) ≤ 57 := by omega
        have e1 : (((s[k].toNat : Nat) : Int) == 45) = false := by simp; omega
        clear hc
        go_wp2
        go_ret
        exact ⟨ret_bool (mayR_not hlt HC.out).symm, rfl⟩
      · have HC := Lib.hid hc
        have n1 : 97 ≤ ((s[k].toNat : Nat) : Int) := by omega
        have n4 : ¬ ((s[k].toNat : Nat) : Int) ≤ 122 := by omega
        have n2 : 48 ≤ ((s[k].toNat : Nat) : Int) := by omega
        have n3 : ¬ ((s[k].toNat : Nat) : Int) ≤ 57 := by omega
        have e1 : (((s[k].toNat : Nat) : Int) == 45) = false := by simp; omega
        clear hc
        go_wp2
        go_ret
        exact ⟨ret_bool (mayR_not hlt HC.out).symm, rfl⟩
    · obtain rfl : k = s.size := by omega
      by_cases h1 : 1 ≤ s.size
      · by_cases h2 : s.size ≤ 30
        · have HE : Hid (mayR s.data.toList = true) := Lib.hid (by rw [mayR_end hok, decide_eq_true h1, decide_eq_true h2]; rfl)
          go_wp2
          go_ret
          exact ⟨ret_bool (by rw [HE.out]; exact decide_eq_true (by omega)), rfl⟩
        · have HE : Hid (mayR s.data.toList = false) := Lib.hid (by rw [mayR_end hok, decide_eq_false h2]; simp)
          go_wp2
          go_ret
          exact ⟨ret_bool (by rw [HE.out]; exact decide_eq_false (by omega)), rfl⟩
      · have HE : Hid (mayR s.data.toList = false) := Lib.hid (by rw [mayR_end hok, decide_eq_false h1]; simp)
        go_wp2
        go_ret
        exact ⟨ret_bool HE.out.symm, rfl⟩
end Go.Proofs.YtgmpggjikebcdaaGreatDoor
