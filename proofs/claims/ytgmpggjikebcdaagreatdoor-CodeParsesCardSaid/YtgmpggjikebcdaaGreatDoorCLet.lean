/-
  The contracts of code's isLetter, areLetters, isType, written, isByte.
-/
import Derived.Test.YtgmpggjikebcdaaGreatDoorCPure
import Derived.Test.YtgmpggjikebcdaaGreatDoorWRows
namespace Go.Proofs.YtgmpggjikebcdaaGreatDoor
open Go.RowKit

theorem cLet_t1 (c : Int) (w : World) (h1 : 97 ≤ c) (h2 : c ≤ 122) : Calls Tryz.prog 51 #[.int .u8 c] w fun e w' => e = .returned (.bool true) ∧ w = w' := by
  go_enter Tryz.func51, Tryz.ntmps51
  go_wp2
  go_ret
  exact ⟨rfl, rfl⟩
theorem cLet_t2 (c : Int) (w : World) (h0 : c < 97) (h1 : 48 ≤ c) (h2 : c ≤ 57) : Calls Tryz.prog 51 #[.int .u8 c] w fun e w' => e = .returned (.bool true) ∧ w = w' := by
  have h0' : ¬ 97 ≤ c := by omega
  clear h0
  go_enter Tryz.func51, Tryz.ntmps51
  go_wp2
  go_ret
  exact ⟨rfl, rfl⟩
theorem cLet_f1 (c : Int) (w : World) (h1 : 122 < c) : Calls Tryz.prog 51 #[.int .u8 c] w fun e w' => e = .returned (.bool false) ∧ w = w' := by
  have h2 : 97 ≤ c := by omega
  have h3 : ¬ c ≤ 122 := by omega
  have h4 : 48 ≤ c := by omega
  have h5 : ¬ c ≤ 57 := by omega
  clear h1
  go_enter Tryz.func51, Tryz.ntmps51
  go_wp2
  go_ret
  exact ⟨rfl, rfl⟩
theorem cLet_f2 (c : Int) (w : World) (h1 : 57 < c) (h0 : c < 97) : Calls Tryz.prog 51 #[.int .u8 c] w fun e w' => e = .returned (.bool false) ∧ w = w' := by
  have h2 : ¬ 97 ≤ c := by omega
  have h4 : 48 ≤ c := by omega
  have h5 : ¬ c ≤ 57 := by omega
  clear h1 h0
  go_enter Tryz.func51, Tryz.ntmps51
  go_wp2
  go_ret
  exact ⟨rfl, rfl⟩
theorem cLet_f3 (c : Int) (w : World) (h1 : c < 48) : Calls Tryz.prog 51 #[.int .u8 c] w fun e w' => e = .returned (.bool false) ∧ w = w' := by
  have h2 : ¬ 97 ≤ c := by omega
  have h4 : ¬ 48 ≤ c := by omega
  clear h1
  go_enter Tryz.func51, Tryz.ntmps51
  go_wp2
  go_ret
  exact ⟨rfl, rfl⟩
theorem cLet_any (c : UInt8) (w : World) : Calls Tryz.prog 51 #[.int .u8 c.toNat] w fun e w' => e = .returned (.bool (lcC c)) ∧ w = w' := by
  by_cases h1 : 97 ≤ c.toNat
  · by_cases h2 : c.toNat ≤ 122
    · have e : lcC c = true := by simp [lcC, h1, h2]
      rw [e]; exact cLet_t1 _ w (by omega) (by omega)
    · have e : lcC c = false := by simp [lcC]; omega
      rw [e]; exact cLet_f1 _ w (by omega)
  · by_cases h2 : 48 ≤ c.toNat
    · by_cases h3 : c.toNat ≤ 57
      · have e : lcC c = true := by simp [lcC, h2, h3]
        rw [e]; exact cLet_t2 _ w (by omega) (by omega) (by omega)
      · have e : lcC c = false := by simp [lcC]; omega
        rw [e]; exact cLet_f2 _ w (by omega) (by omega)
    · have e : lcC c = false := by simp [lcC]; omega
      rw [e]; exact cLet_f3 _ w (by omega)
theorem cLet_t (c : UInt8) (w : World) (h : lcC c = true) : Calls Tryz.prog 51 #[.int .u8 c.toNat] w fun e w' => e = .returned (.bool true) ∧ w = w' := by
  have := cLet_any c w; rw [h] at this; exact this
theorem cLet_f (c : UInt8) (w : World) (h : lcC c = false) : Calls Tryz.prog 51 #[.int .u8 c.toNat] w fun e w' => e = .returned (.bool false) ∧ w = w' := by
  have := cLet_any c w; rw [h] at this; exact this

/-- The first k bytes are letters. -/
def LcTo (s : ByteArray) (k : Nat) : Prop := ∀ c ∈ s.data.toList.take k, lcC c = true
theorem LcTo.next {s : ByteArray} {k : Nat} (h : LcTo s k) (hk : k < s.size) (hc : lcC s[k] = true) : LcTo s (k + 1) := by
  intro c hm
  rw [take_snoc s k hk] at hm
  rcases List.mem_append.1 hm with h' | h'
  · exact h c h'
  · simp at h'; subst h'; exact hc
theorem lcTo_zero (s : ByteArray) : LcTo s 0 := by intro c h; simp at h
theorem LcTo.all {s : ByteArray} (h : LcTo s s.size) : s.data.toList.all lcC = true := by
  rw [List.all_eq_true]; intro c hc; exact h c (by rw [← len_size, List.take_length]; exact hc)
theorem not_lc {s : ByteArray} {k : Nat} (hk : k < s.size) (hc : lcC s[k] = false) : areL s.data.toList = false := by
  have : s.data.toList.all lcC = false := by
    rw [Bool.eq_false_iff]
    intro h
    have h2 := List.all_eq_true.1 h s[k] (by
      have : s.data.toList[k]? = some s[k] := by rw [List.getElem?_eq_getElem (by rw [len_size]; exact hk)]; rfl
      exact List.mem_of_getElem? this)
    rw [hc] at h2; cases h2
  unfold areL; rw [this]; simp
theorem lc_of {s : ByteArray} (hl : s.size ≤ 30) (h : LcTo s s.size) : areL s.data.toList = true := by
  unfold areL; rw [h.all, len_size]; simp [hl]
theorem lc_long {s : ByteArray} (h : 30 < s.size) : areL s.data.toList = false := by
  unfold areL; rw [len_size, decide_eq_false (by omega)]; simp

set_option maxHeartbeats 1000000 in
theorem areL_any (s : ByteArray) (w : World) (hs : s.size ≤ maxLen) : Calls Tryz.prog 32 #[.string s] w fun e w' => e = .returned (.bool (areL s.data.toList)) ∧ w = w' := by
  unfold maxLen at hs
  by_cases hl : 30 < s.size
  · go_enter Tryz.func32, Tryz.ntmps32
    go_wp2
    go_ret
    exact ⟨ret_bool (lc_long hl).symm, rfl⟩
  · go_enter Tryz.func32, Tryz.ntmps32
    go_wp2
    go_loop [9] (fun i => ∃ k : Nat, k ≤ s.size ∧ i = .int .i64 k ∧ LcTo s k) (fun i => s.size - (intOf i).toNat)
    case atStart => exact ⟨0, Nat.zero_le _, rfl, lcTo_zero s⟩
    case round =>
      obtain ⟨k, hk, rfl, hok⟩ := hrel
      by_cases hlt : k < s.size
      · rcases hc : lcC s[k] with _ | _
        · have HC := Lib.hid hc
          clear hc
          go_wp2_with (go_at_call 51; refine (cLet_f _ _ HC.out).mono ?_; rintro e w' ⟨rfl, rfl⟩)
          go_ret
          exact ⟨ret_bool (not_lc hlt HC.out).symm, rfl⟩
        · have HC := Lib.hid hc
          clear hc
          go_wp2_with (go_at_call 51; refine (cLet_t _ _ HC.out).mono ?_; rintro e w' ⟨rfl, rfl⟩)
          go_round
          case rel => exact ⟨k + 1, by omega, by go_num, hok.next hlt HC.out⟩
          case measure => simp [intOf]; omega
      · go_wp2
        go_ret
        obtain rfl : k = s.size := by omega
        exact ⟨ret_bool (lc_of (by omega) hok).symm, rfl⟩
theorem areL_l (x : Bs) (w : World) (hs : x.length ≤ maxLen) : Calls Tryz.prog 32 #[str x] w fun e w' => e = .returned (.bool (areL x)) ∧ w = w' := areL_any ⟨x.toArray⟩ w hs
theorem areL_b (x : Bs) (b : Bool) (w : World) (hs : x.length ≤ maxLen) (h : areL x = b) : Calls Tryz.prog 32 #[str x] w fun e w' => e = .returned (.bool b) ∧ w = w' := by
  subst h; exact areL_l x w hs

theorem isType_empty (w : World) : Calls Tryz.prog 31 #[.string ⟨#[]⟩] w fun e w' => e = .returned (.bool false) ∧ w = w' := by
  go_enter Tryz.func31, Tryz.ntmps31
  go_wp2
  go_ret
  exact ⟨rfl, rfl⟩
theorem isType_b (s : ByteArray) (b : Bool) (w : World) (h : s.toList.isEmpty = false) (HA : ∀ w, Calls Tryz.prog 32 #[.string s] w fun e w' => e = .returned (.bool b) ∧ w = w') :
    Calls Tryz.prog 31 #[.string s] w fun e w' => e = .returned (.bool b) ∧ w = w' := by
  have HH := Lib.hid HA
  clear HA
  go_enter Tryz.func31, Tryz.ntmps31
  go_wp2_with (go_at_call 32; refine (HH.out _).mono ?_; rintro e w' ⟨rfl, rfl⟩)
  go_ret
  exact ⟨rfl, rfl⟩
theorem str_ne {x : Bs} (h : x ≠ []) : (⟨x.toArray⟩ : ByteArray).toList.isEmpty = false := by
  rw [ByteArray.toList_eq, Bool.eq_false_iff]
  intro e
  exact h (List.isEmpty_iff.1 e)
theorem typeL_l (x : Bs) (w : World) (hs : x.length ≤ maxLen) : Calls Tryz.prog 31 #[str x] w fun e w' => e = .returned (.bool (typeL x)) ∧ w = w' := by
  by_cases h : x = []
  · subst h; exact isType_empty w
  · have e : typeL x = areL x := by unfold typeL; simp [h]
    rw [e]
    exact isType_b _ _ w (str_ne h) (fun w => areL_l x w hs)
theorem typeL_b (x : Bs) (b : Bool) (w : World) (hs : x.length ≤ maxLen) (h : typeL x = b) : Calls Tryz.prog 31 #[str x] w fun e w' => e = .returned (.bool b) ∧ w = w' := by
  subst h; exact typeL_l x w hs

theorem written_e (w : World) : Calls Tryz.prog 15 #[.string ⟨#[]⟩] w fun e w' => e = .returned (str [45]) ∧ w = w' := by
  go_enter Tryz.func15, Tryz.ntmps15
  go_wp2
  go_ret
  exact ⟨rfl, rfl⟩
theorem written_n (s : ByteArray) (w : World) (h : s.toList.isEmpty = false) : Calls Tryz.prog 15 #[.string s] w fun e w' => e = .returned (.string s) ∧ w = w' := by
  go_enter Tryz.func15, Tryz.ntmps15
  go_wp2
  go_ret
  exact ⟨rfl, rfl⟩
theorem written_l (x : Bs) (w : World) : Calls Tryz.prog 15 #[str x] w fun e w' => e = .returned (str (orL x)) ∧ w = w' := by
  by_cases h : x = []
  · subst h; exact written_e w
  · have e : orL x = x := by unfold orL; rw [if_neg h]
    rw [e]
    exact written_n _ w (str_ne h)

def byteI (n : Int) : Bool := decide (0 ≤ n) && decide (n ≤ 255)
theorem isByte_any (n : Int) (w : World) : Calls Tryz.prog 62 #[.int .i64 n] w fun e w' => e = .returned (.bool (byteI n)) ∧ w = w' := by
  by_cases h1 : 0 ≤ n
  · by_cases h2 : n ≤ 255
    · have e : byteI n = true := by simp [byteI, h1, h2]
      rw [e]
      clear e
      go_enter Tryz.func62, Tryz.ntmps62
      go_wp2
      go_ret
      exact ⟨rfl, rfl⟩
    · have e : byteI n = false := by simp [byteI, h1, h2]
      rw [e]
      clear e
      go_enter Tryz.func62, Tryz.ntmps62
      go_wp2
      go_ret
      exact ⟨rfl, rfl⟩
  · have e : byteI n = false := by simp [byteI, h1]
    rw [e]
    clear e
    go_enter Tryz.func62, Tryz.ntmps62
    go_wp2
    go_ret
    exact ⟨rfl, rfl⟩
theorem isByte_b (n : Int) (b : Bool) (w : World) (h : byteI n = b) : Calls Tryz.prog 62 #[.int .i64 n] w fun e w' => e = .returned (.bool b) ∧ w = w' := by
  subst h; exact isByte_any n w
end Go.Proofs.YtgmpggjikebcdaaGreatDoor
