/-
  The document's Number.
-/
import Derived.Test.YtcjhgibhenocpaaGreatDoorUAZ
import Derived.Handy
namespace Go.Proofs.YtcjhgibhenocpaaGreatDoor
set_option linter.unusedSimpArgs false
set_option linter.unusedVariables false
open Go.RowKit

structure NF (d : Bs) (R E : Int × Nat) (g : Int → Int) : Prop where
  long : 19 < d.length → R = (0, 3)
  big : 9223372036854775808 < vf 0 d → R = (0, 3)
  edge : vf 0 d = 9223372036854775808 → R = E
  small : vf 0 d < 9223372036854775808 → R = (g (vf 0 d), 0)
theorem nf_m {s : Bs} (h : decL s = true) (hm : s.head? = some 45) : NF (trimL s) (numL s) (-9223372036854775808, 0) (fun x => -x) := by
  refine ⟨num_long h, ?_, ?_, ?_⟩
  · intro hb; unfold numL; rw [if_pos h, if_pos hm, if_pos hb]
  · intro he; unfold numL; rw [if_pos h, if_pos hm, if_neg (by omega), he]; rfl
  · intro hb; unfold numL; rw [if_pos h, if_pos hm, if_neg (by omega)]
theorem nf_p {s : Bs} (h : decL s = true) (hm : s.head? ≠ some 45) : NF (trimL s) (numL s) (0, 3) (fun x => x) := by
  refine ⟨num_long h, ?_, ?_, ?_⟩
  · intro hb; unfold numL; rw [if_pos h, if_neg hm, if_pos (by omega)]
  · intro he; unfold numL; rw [if_pos h, if_neg hm, if_pos (by omega)]
  · intro hb; unfold numL; rw [if_pos h, if_neg hm, if_neg (by omega)]
theorem num_step {n c : Nat} (hb : 48 ≤ c ∧ c ≤ 57) (_hn : n < 1000000000000000000) : Value.int .u64 ((n : Int) * 10 + ((c : Int) - 48)) = .int .u64 ((n * 10 + (c - 48) : Nat) : Int) := by
  congr 1; omega
theorem mem_get {d : ByteArray} {k : Nat} (h : k < d.size) : d[k] ∈ d.data.toList := by
  have : d[k] = d.data.toList[k]'(by simpa using h) := rfl
  rw [this]; exact List.getElem_mem _
theorem vf_less {d : Bs} {k : Nat} (h : d.all digC = true) (hk : k ≤ 18) : vf 0 (d.take k) < 1000000000000000000 := by
  have := vf_lt (d.take k) 0 (all_take h k)
  have hl : (d.take k).length ≤ 18 := by rw [List.length_take]; omega
  have hp : 10 ^ (d.take k).length ≤ 10 ^ 18 := Nat.pow_le_pow_right (by decide) hl
  have e18 : (10 : Nat) ^ 18 = 1000000000000000000 := by decide
  omega

set_option maxRecDepth 100000 in
set_option maxHeartbeats 4000000 in
theorem numberR_m (s d : ByteArray) (R : Int × Nat) (w : World) (hs : s.size ≤ 3000) (hpos : 0 < s.size) (h45 : s[0] = 45) (hd : d.size + 1 = s.size)
    (hsl : ∀ w, (Instr.slice 9 (.string s) (some (.int .i64 1)) none none).run Tryz.prog w = .ok (.string d) w)
    (HDG : Hid (∀ w, Calls Tryz.prog 159 #[.string s] w fun e w' => e = .returned (.bool true) ∧ w = w')) (HALL : Hid (d.data.toList.all digC = true)) (HF : Hid (NF d.data.toList R (-9223372036854775808, 0) (fun x => -x))) :
    Calls Tryz.prog 125 #[.string s] w fun e w' => e = .returned (.tuple #[.int .i64 R.1, .int .i64 R.2]) ∧ w = w' := by
  have e1 := eq45_of h45
  have HD : Hid (∀ c ∈ d.data.toList, digC c = true) := Lib.hid (List.all_eq_true.1 HALL.out)
  clear h45
  go_enter Tryz.func125, Tryz.ntmps125
  go_wp2_with (go_at_call 159; refine (HDG.out _).mono ?_; rintro e w' ⟨rfl, rfl⟩)
  go_loop [6, 7] (fun v6 i => ∃ k n : Nat, k ≤ d.size ∧ k ≤ 19 ∧ i = .int .i64 k ∧ v6 = .int .u64 n ∧ Hid (n = vf 0 (d.data.toList.take k))) (fun _ i => d.size - (intOf i).toNat)
  case atStart => exact ⟨0, 0, Nat.zero_le _, by decide, rfl, rfl, Lib.hid (by simp [vf_nil])⟩
  case round =>
    obtain ⟨k, n, hk, hk9, rfl, rfl, HN⟩ := hrel
    by_cases hlt : k < d.size
    · by_cases h19 : k < 19
      · have hdig := HD.out d[k] (mem_get hlt)
        have hb := dig_le hdig
        have hn : n < 1000000000000000000 := by rw [HN.out]; exact vf_less (HALL.out) (by omega)
        have hc1 : 48 ≤ ((d[k].toNat : Nat) : Int) := by omega
        have hc2 : ((d[k].toNat : Nat) : Int) ≤ 57 := by omega
        have HX : Hid (n * 10 + (d[k].toNat - 48) = vf 0 (d.data.toList.take (k + 1))) := Lib.hid (by rw [take_snoc d k hlt, vf_snoc, HN.out])
        go_wp2
        go_round
        case rel => exact ⟨k + 1, n * 10 + (d[k].toNat - 48), by omega, by omega, by go_num, num_step hb (by omega), HX⟩
        case measure => simp [intOf]; omega
      · have hlong : 19 < d.size := by omega
        have HR := Lib.hid (HF.out.long (by rw [len_size]; exact hlong))
        go_wp2
        go_ret2
        rw [HR.out]
        exact ⟨rfl, rfl⟩
    · have hk2 : k = d.size := by omega
      have hsh : ¬ 19 < d.size := by omega
      have HU : Hid (n = vf 0 d.data.toList) := Lib.hid (by have := HN.out; rw [List.take_of_length_le (by rw [len_size]; omega)] at this; exact this)
      have hn : n < 10000000000000000000 := by rw [HU.out]; exact vf_short HALL.out (by rw [len_size]; omega)
      by_cases hbig : 9223372036854775808 < n
      · have HR := Lib.hid (HF.out.big (by rw [← HU.out]; exact hbig))
        go_wp2
        go_ret2
        rw [HR.out]
        exact ⟨rfl, rfl⟩
      · by_cases hedge : n = 9223372036854775808
        · have HR := Lib.hid (HF.out.edge (by rw [← HU.out]; exact hedge))
          subst hedge
          go_wp2
          go_ret2
          rw [HR.out]
          refine ⟨?_, rfl⟩
          simp
          kernel_rfl
        · have hlt63 : n < 9223372036854775808 := by omega
          have HR := Lib.hid (HF.out.small (by rw [← HU.out]; exact hlt63))
          rw [← HU.out] at HR
          have e6 : (((n : Nat) : Int) == 9223372036854775808) = false := by simp; omega
          go_wp2
          go_ret2
          rw [HR.out]
          exact ⟨rfl, rfl⟩
set_option maxRecDepth 100000 in
set_option maxHeartbeats 4000000 in
theorem numberR_p (s : ByteArray) (R : Int × Nat) (w : World) (hs : s.size ≤ 3000) (hpos : 0 < s.size) (h45 : s[0] ≠ 45)
    (HDG : Hid (∀ w, Calls Tryz.prog 159 #[.string s] w fun e w' => e = .returned (.bool true) ∧ w = w')) (HALL : Hid (s.data.toList.all digC = true)) (HF : Hid (NF s.data.toList R (0, 3) (fun x => x))) :
    Calls Tryz.prog 125 #[.string s] w fun e w' => e = .returned (.tuple #[.int .i64 R.1, .int .i64 R.2]) ∧ w = w' := by
  have e1 := ne45_of h45
  have HD : Hid (∀ c ∈ s.data.toList, digC c = true) := Lib.hid (List.all_eq_true.1 HALL.out)
  clear h45
  go_enter Tryz.func125, Tryz.ntmps125
  go_wp2_with (go_at_call 159; refine (HDG.out _).mono ?_; rintro e w' ⟨rfl, rfl⟩)
  go_loop [6, 7] (fun v6 i => ∃ k n : Nat, k ≤ s.size ∧ k ≤ 19 ∧ i = .int .i64 k ∧ v6 = .int .u64 n ∧ Hid (n = vf 0 (s.data.toList.take k))) (fun _ i => s.size - (intOf i).toNat)
  case atStart => exact ⟨0, 0, Nat.zero_le _, by decide, rfl, rfl, Lib.hid (by simp [vf_nil])⟩
  case round =>
    obtain ⟨k, n, hk, hk9, rfl, rfl, HN⟩ := hrel
    by_cases hlt : k < s.size
    · by_cases h19 : k < 19
      · have hdig := HD.out s[k] (mem_get hlt)
        have hb := dig_le hdig
        have hn : n < 1000000000000000000 := by rw [HN.out]; exact vf_less (HALL.out) (by omega)
        have hc1 : 48 ≤ ((s[k].toNat : Nat) : Int) := by omega
        have hc2 : ((s[k].toNat : Nat) : Int) ≤ 57 := by omega
        have HX : Hid (n * 10 + (s[k].toNat - 48) = vf 0 (s.data.toList.take (k + 1))) := Lib.hid (by rw [take_snoc s k hlt, vf_snoc, HN.out])
        go_wp2
        go_round
        case rel => exact ⟨k + 1, n * 10 + (s[k].toNat - 48), by omega, by omega, by go_num, num_step hb (by omega), HX⟩
        case measure => simp [intOf]; omega
      · have hlong : 19 < s.size := by omega
        have HR := Lib.hid (HF.out.long (by rw [len_size]; exact hlong))
        go_wp2
        go_ret2
        rw [HR.out]
        exact ⟨rfl, rfl⟩
    · have hk2 : k = s.size := by omega
      have hsh : ¬ 19 < s.size := by omega
      have HU : Hid (n = vf 0 s.data.toList) := Lib.hid (by have := HN.out; rw [List.take_of_length_le (by rw [len_size]; omega)] at this; exact this)
      have hn : n < 10000000000000000000 := by rw [HU.out]; exact vf_short HALL.out (by rw [len_size]; omega)
      by_cases hbig : 9223372036854775808 < n
      · have HR := Lib.hid (HF.out.big (by rw [← HU.out]; exact hbig))
        go_wp2
        go_ret2
        rw [HR.out]
        exact ⟨rfl, rfl⟩
      · by_cases hedge : n = 9223372036854775808
        · have HR := Lib.hid (HF.out.edge (by rw [← HU.out]; exact hedge))
          subst hedge
          go_wp2
          go_ret2
          rw [HR.out]
          exact ⟨rfl, rfl⟩
        · have hlt63 : n < 9223372036854775808 := by omega
          have HR := Lib.hid (HF.out.small (by rw [← HU.out]; exact hlt63))
          rw [← HU.out] at HR
          have e6 : (((n : Nat) : Int) == 9223372036854775808) = false := by simp; omega
          go_wp2
          go_ret2
          rw [HR.out]
          exact ⟨rfl, rfl⟩

theorem numberR_f (s : ByteArray) (w : World) (HDG : Hid (∀ w, Calls Tryz.prog 159 #[.string s] w fun e w' => e = .returned (.bool false) ∧ w = w')) :
    Calls Tryz.prog 125 #[.string s] w fun e w' => e = .returned (.tuple #[.int .i64 0, .int .i64 4]) ∧ w = w' := by
  go_enter Tryz.func125, Tryz.ntmps125
  go_wp2_with (go_at_call 159; refine (HDG.out _).mono ?_; rintro e w' ⟨rfl, rfl⟩)
  go_ret2
  exact ⟨rfl, rfl⟩
theorem head_s {s : ByteArray} (h : 0 < s.size) : s.data.toList.head? = some s[0] := head_of h
theorem numberR_any (s : ByteArray) (w : World) (hs : s.size ≤ 3000) : Calls Tryz.prog 125 #[.string s] w fun e w' => e = .returned (.tuple #[.int .i64 (numL s.data.toList).1, .int .i64 (numL s.data.toList).2]) ∧ w = w' := by
  rcases hd : decL s.data.toList with _ | _
  · have e : numL s.data.toList = (0, 4) := by unfold numL; rw [hd]; rfl
    rw [e]
    exact numberR_f s w (Lib.hid fun w => (digitsR_any s w hs).mono fun e w' ⟨h1, h2⟩ => ⟨by rw [h1, hd], h2⟩)
  · have HDG : Hid (∀ w, Calls Tryz.prog 159 #[.string s] w fun e w' => e = .returned (.bool true) ∧ w = w') := Lib.hid fun w => (digitsR_any s w hs).mono fun e w' ⟨h1, h2⟩ => ⟨by rw [h1, hd], h2⟩
    obtain ⟨p1, p2, p3⟩ := decL_parts hd
    have hpos : 0 < s.size := by
      rcases Nat.eq_zero_or_pos s.size with h | h
      · have := ba_empty h
        subst this
        exact absurd rfl p1
      · exact h
    by_cases h45 : s[0] = 45
    · have ht := trim_list s hpos h45
      have hf := nf_m hd (by rw [head_s hpos, h45])
      rw [← ht] at p2 hf
      exact numberR_m s _ _ w hs hpos h45 (by rw [ByteArray.size_extract]; omega) (slice_one s hpos) HDG (Lib.hid p2) (Lib.hid hf)
    · have ht := trim_same s hpos h45
      have hf := nf_p hd (by rw [head_s hpos]; simpa using h45)
      rw [← ht] at p2 hf
      exact numberR_p s _ w hs hpos h45 HDG (Lib.hid p2) (Lib.hid hf)
end Go.Proofs.YtcjhgibhenocpaaGreatDoor
