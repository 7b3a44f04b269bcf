/-
  The document's digits and Number.
-/
import Derived.Test.YtcenjphpdgadmaaDoorZKit
namespace Go.Proofs.YtcenjphpdgadmaaDoor
set_option linter.unusedSimpArgs false
set_option linter.unusedVariables false
open Go.RowKit

theorem trim_list (s : ByteArray) (h : 0 < s.size) (e : s[0] = 45) : (s.extract 1 s.size).data.toList = trimL s.data.toList := by
  have h2 : (s.extract 1 s.size).data.toList = s.data.toList.drop 1 := by simpa using Lib.extract_to_end s 1
  rw [h2]
  have hp : s.data.toList = s[0] :: s.data.toList.drop 1 := by
    conv => lhs; rw [← List.drop_zero (l := s.data.toList)]
    rw [List.drop_eq_getElem_cons (by rw [len_size]; exact h)]
    rfl
  conv => rhs; rw [hp, e]
  rw [trim_minus]
theorem trim_same (s : ByteArray) (h : 0 < s.size) (e : s[0] ≠ 45) : s.data.toList = trimL s.data.toList := by
  have hp : s.data.toList = s[0] :: s.data.toList.drop 1 := by
    conv => lhs; rw [← List.drop_zero (l := s.data.toList)]
    rw [List.drop_eq_getElem_cons (by rw [len_size]; exact h)]
    rfl
  rw [hp, trim_other e]
theorem eq45_of {c : UInt8} (h : c = 45) : (((c.toNat : Nat) : Int) == 45) = true := by subst h; rfl
theorem ne45_of {c : UInt8} (h : c ≠ 45) : (((c.toNat : Nat) : Int) == 45) = false := by
  have : c.toNat ≠ 45 := fun e => h (UInt8.toNat_inj.1 (by simpa using e))
  simp; omega
theorem eq48_of {c : UInt8} (h : c = 48) : (((c.toNat : Nat) : Int) == 48) = true := by subst h; rfl
theorem ne48_of {c : UInt8} (h : c ≠ 48) : (((c.toNat : Nat) : Int) == 48) = false := by
  have : c.toNat ≠ 48 := fun e => h (UInt8.toNat_inj.1 (by simpa using e))
  simp; omega
theorem not_empty' {d : ByteArray} (h : 0 < d.size) : d.toList.isEmpty = false := by
  rw [ByteArray.toList_eq]; exact not_empty h

/-- What the digits' walk answers of the digits d of the text s. -/
theorem dec_is {s d : ByteArray} (h : d.data.toList = trimL s.data.toList) : decL s.data.toList = decOf s d := by unfold decL decOf; rw [h]

theorem dec_bad {s d : ByteArray} (h : 0 < d.size) (h48 : d[0] = 48) (h2 : 1 < s.size) : decOf s d = false := by
  have e : (s.data.toList == [48]) = false := by
    rw [Bool.eq_false_iff]; intro e
    have := congrArg List.length (beq_iff_eq.1 e)
    rw [len_size] at this; simp at this; omega
  unfold decOf
  rw [head_of h, h48, e]; simp
theorem dec_all {s d : ByteArray} (h : 0 < d.size) (h48 : d[0] ≠ 48) : decOf s d = d.data.toList.all digC := by
  unfold decOf
  rw [not_empty h, head_of h]; simp [h48]
theorem dec_one {s : ByteArray} (h : 0 < s.size) (h48 : s[0] = 48) (h1 : s.size = 1) : decOf s s = s.data.toList.all digC := by
  have e : s.data.toList = [48] := by
    have hp : s.data.toList = s[0] :: s.data.toList.drop 1 := by
      conv => lhs; rw [← List.drop_zero (l := s.data.toList)]
      rw [List.drop_eq_getElem_cons (by rw [len_size]; exact h)]
      rfl
    rw [hp, h48, List.drop_eq_nil_of_le (by rw [len_size]; omega)]
  unfold decOf
  rw [e]; rfl

set_option maxRecDepth 100000 in
set_option maxHeartbeats 4000000 in
theorem digitsR_m (s d : ByteArray) (w : World) (hs : s.size ≤ 3000) (hpos : 0 < s.size) (h45 : s[0] = 45) (hd : d.size + 1 = s.size)
    (hsl : ∀ w, (Instr.slice 9 (.string s) (some (.int .i64 1)) none none).run Tryd.prog w = .ok (.string d) w) :
    Calls Tryd.prog 74 #[.string s] w fun e w' => e = .returned (.bool (decOf s d)) ∧ w = w' := by
  have e1 := eq45_of h45
  clear h45
  by_cases h0 : d.size = 0
  · have hx := ba_empty h0
    subst hx
    clear h0 hd
    go_enter Tryd.func74, Tryd.ntmps74
    go_wp2
    go_ret
    exact ⟨rfl, rfl⟩
  · have hdp : 0 < d.size := by omega
    have hl := not_empty' hdp
    by_cases h48 : d[0] = 48
    · have e2 := eq48_of h48
      have HE := Lib.hid (dec_bad hdp h48 (show 1 < s.size by omega))
      clear h48
      by_cases hd1 : 1 < d.size
      · go_enter Tryd.func74, Tryd.ntmps74
        go_wp2
        go_ret
        exact ⟨ret_bool HE.out.symm, rfl⟩
      · have hs1 : 1 < s.size := by omega
        go_enter Tryd.func74, Tryd.ntmps74
        go_wp2
        go_ret
        exact ⟨ret_bool HE.out.symm, rfl⟩
    · have e2 := ne48_of h48
      have HA := Lib.hid (dec_all (s := s) hdp h48)
      clear h48
      go_enter Tryd.func74, Tryd.ntmps74
      go_wp2
      clear hl
      go_loop [4] (fun i => ∃ k : Nat, k ≤ d.size ∧ i = .int .i64 k ∧ DigTo d k) (fun i => d.size - (intOf i).toNat)
      case atStart => exact ⟨0, Nat.zero_le _, rfl, digTo_zero d⟩
      case round =>
        obtain ⟨k, hk, rfl, hok⟩ := hrel
        by_cases hlt : k < d.size
        · rcases digC_cases d[k] with ⟨⟨h1, h2⟩, hc⟩ | ⟨h1, hc⟩
          · have HC := Lib.hid hc
            have n1 : ¬ ((d[k].toNat : Nat) : Int) < 48 := by omega
            have n2 : ¬ 57 < ((d[k].toNat : Nat) : Int) := by omega
            clear hc
            go_wp2
            go_round
            case rel => exact ⟨k + 1, by omega, by go_num, hok.next hlt HC.out⟩
            case measure => simp [intOf]; omega
          · have HC := Lib.hid hc
            clear hc
            rcases h1 with h1 | h1
            · go_wp2
              go_ret
              exact ⟨ret_bool (by rw [HA.out]; exact (not_dig hlt HC.out).symm), rfl⟩
            · have n1 : ¬ ((d[k].toNat : Nat) : Int) < 48 := by omega
              go_wp2
              go_ret
              exact ⟨ret_bool (by rw [HA.out]; exact (not_dig hlt HC.out).symm), rfl⟩
        · obtain rfl : k = d.size := by omega
          have HX := Lib.hid hok.all
          go_wp2
          go_ret
          exact ⟨ret_bool (by rw [HA.out]; exact HX.out.symm), rfl⟩

set_option maxRecDepth 100000 in
set_option maxHeartbeats 4000000 in
theorem digitsR_p (s : ByteArray) (w : World) (hs : s.size ≤ 3000) (hpos : 0 < s.size) (h45 : s[0] ≠ 45) :
    Calls Tryd.prog 74 #[.string s] w fun e w' => e = .returned (.bool (decOf s s)) ∧ w = w' := by
  have e1 := ne45_of h45
  have hl := not_empty' hpos
  clear h45
  by_cases h48 : s[0] = 48
  · have e2 := eq48_of h48
    by_cases hs1 : 1 < s.size
    · have HE := Lib.hid (dec_bad (s := s) hpos h48 hs1)
      clear h48
      go_enter Tryd.func74, Tryd.ntmps74
      go_wp2
      go_ret
      exact ⟨ret_bool HE.out.symm, rfl⟩
    · have HA := Lib.hid (dec_one hpos h48 (show s.size = 1 by omega))
      clear h48
      go_enter Tryd.func74, Tryd.ntmps74
      go_wp2
      clear hl
      go_loop [4] (fun i => ∃ k : Nat, k ≤ s.size ∧ i = .int .i64 k ∧ DigTo s k) (fun i => s.size - (intOf i).toNat)
      case atStart => exact ⟨0, Nat.zero_le _, rfl, digTo_zero s⟩
      case round =>
        obtain ⟨k, hk, rfl, hok⟩ := hrel
        by_cases hlt : k < s.size
        · rcases digC_cases s[k] with ⟨⟨h1, h2⟩, hc⟩ | ⟨h1, hc⟩
          · have HC := Lib.hid hc
            have n1 : ¬ ((s[k].toNat : Nat) : Int) < 48 := by omega
            have n2 : ¬ 57 < ((s[k].toNat : Nat) : Int) := by omega
            clear hc
            go_wp2
            go_round
            case rel => exact ⟨k + 1, by omega, by go_num, hok.next hlt HC.out⟩
            case measure => simp [intOf]; omega
          · have HC := Lib.hid hc
            clear hc
            rcases h1 with h1 | h1
            · go_wp2
              go_ret
              exact ⟨ret_bool (by rw [HA.out]; exact (not_dig hlt HC.out).symm), rfl⟩
            · have n1 : ¬ ((s[k].toNat : Nat) : Int) < 48 := by omega
              go_wp2
              go_ret
              exact ⟨ret_bool (by rw [HA.out]; exact (not_dig hlt HC.out).symm), rfl⟩
        · obtain rfl : k = s.size := by omega
          have HX := Lib.hid hok.all
          go_wp2
          go_ret
          exact ⟨ret_bool (by rw [HA.out]; exact HX.out.symm), rfl⟩
  · have e2 := ne48_of h48
    have HA := Lib.hid (dec_all (s := s) hpos h48)
    clear h48
    go_enter Tryd.func74, Tryd.ntmps74
    go_wp2
    clear hl
    go_loop [4] (fun i => ∃ k : Nat, k ≤ s.size ∧ i = .int .i64 k ∧ DigTo s k) (fun i => s.size - (intOf i).toNat)
    case atStart => exact ⟨0, Nat.zero_le _, rfl, digTo_zero s⟩
    case round =>
      obtain ⟨k, hk, rfl, hok⟩ := hrel
      by_cases hlt : k < s.size
      · rcases digC_cases s[k] with ⟨⟨h1, h2⟩, hc⟩ | ⟨h1, hc⟩
        · have HC := Lib.hid hc
          have n1 : ¬ ((s[k].toNat : Nat) : Int) < 48 := by omega
          have n2 : ¬ 57 < ((s[k].toNat : Nat) : Int) := by omega
          clear hc
          go_wp2
          go_round
          case rel => exact ⟨k + 1, by omega, by go_num, hok.next hlt HC.out⟩
          case measure => simp [intOf]; omega
        · have HC := Lib.hid hc
          clear hc
          rcases h1 with h1 | h1
          · go_wp2
            go_ret
            exact ⟨ret_bool (by rw [HA.out]; exact (not_dig hlt HC.out).symm), rfl⟩
          · have n1 : ¬ ((s[k].toNat : Nat) : Int) < 48 := by omega
            go_wp2
            go_ret
            exact ⟨ret_bool (by rw [HA.out]; exact (not_dig hlt HC.out).symm), rfl⟩
      · obtain rfl : k = s.size := by omega
        have HX := Lib.hid hok.all
        go_wp2
        go_ret
        exact ⟨ret_bool (by rw [HA.out]; exact HX.out.symm), rfl⟩

theorem digitsR_e (w : World) : Calls Tryd.prog 74 #[.string ⟨#[]⟩] w fun e w' => e = .returned (.bool false) ∧ w = w' := by
  go_enter Tryd.func74, Tryd.ntmps74
  go_wp2
  go_ret
  exact ⟨rfl, rfl⟩
theorem slice_one (s : ByteArray) (hpos : 0 < s.size) (w : World) : (Instr.slice 9 (.string s) (some (.int .i64 1)) none none).run Tryd.prog w = .ok (.string (s.extract 1 s.size)) w := by
  have h1 : (1 : Int) ≤ (s.size : Int) := by omega
  simpa using run_slice_string_l (P := Tryd.prog) w 9 s Tryd.underlying9 .i64 1 (by decide) h1
theorem digitsR_any (s : ByteArray) (w : World) (hs : s.size ≤ 3000) : Calls Tryd.prog 74 #[.string s] w fun e w' => e = .returned (.bool (decL s.data.toList)) ∧ w = w' := by
  by_cases h0 : s.size = 0
  · have hx := ba_empty h0
    subst hx
    exact digitsR_e w
  · have hpos : 0 < s.size := by omega
    by_cases h45 : s[0] = 45
    · rw [dec_is (trim_list s hpos h45)]
      exact digitsR_m s _ w hs hpos h45 (by rw [ByteArray.size_extract]; omega) (slice_one s hpos)
    · rw [dec_is (trim_same s hpos h45)]
      exact digitsR_p s w hs hpos h45
end Go.Proofs.YtcenjphpdgadmaaDoor
