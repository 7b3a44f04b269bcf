/-
  The document's Right.
-/
import Derived.Test.YtcenjphpdgadmaaDoorKRight
namespace Go.Proofs.YtcenjphpdgadmaaDoor
set_option linter.unusedSimpArgs false
set_option linter.unusedVariables false
open Go.RowKit

set_option maxHeartbeats 2000000 in
theorem rright_any (v : Value) (ts : List ByteArray) (w : World) (h : TsAt w v ts) : Calls Tryd.prog 41 #[v] w fun e w' => e = .returned (.bool (rightB ts)) ∧ w = w' := by
  obtain ⟨a, c, rfl, h1, h2, h3⟩ := h.cases
  clear h
  rcases h3 with rfl | ⟨b, o, rfl, hb, hc⟩
  · go_enter Tryd.func41, Tryd.ntmps41
    go_wp2
    go_loop [3] (fun i => i = .int .i64 0) (fun _ => 0)
    case atStart => rfl
    case round =>
      subst hrel
      go_wp2
      go_ret
      exact ⟨rfl, rfl⟩
  have HC := Lib.hid hc
  clear hc
  go_enter Tryd.func41, Tryd.ntmps41
  go_wp2
  go_loop [3] (fun i => ∃ k : Nat, k ≤ ts.length ∧ i = .int .i64 k ∧ Hid (∀ j, j < k → okB ts.length (ty ts j) = true)) (fun i => ts.length - (intOf i).toNat)
  case atStart => exact ⟨0, Nat.zero_le _, rfl, Lib.hid none_yet⟩
  case round =>
    obtain ⟨t, ht, rfl, hok⟩ := hrel
    by_cases hlt : t < ts.length
    · obtain ⟨hx, hsx⟩ := HC.out t hlt
      generalize hs : ty ts t = s at hx hsx
      have HS := Lib.hid hs
      clear hs
      go_wp2
      go_loop [5] (fun i => ∃ k : Nat, k ≤ s.size ∧ i = .int .i64 k ∧ Hid (∀ j, j < k → letB ts.length (byt s j) = true)) (fun i => s.size - (intOf i).toNat)
      case atStart => exact ⟨0, Nat.zero_le _, rfl, Lib.hid none_yet⟩
      case round =>
        obtain ⟨k, hk, rfl, hol⟩ := hrel
        by_cases hkt : k < s.size
        · have hb := byt_at hkt
          have hl := byt_lt s k
          generalize hc : byt s k = c at hb hl
          by_cases hi : c = 105
          · have e1 : (((s[k].toNat : Nat) : Int) != 105) = false := by rw [hb, hi]; rfl
            have HL : Hid (letB ts.length (byt s k) = true) := Lib.hid (let_iff.2 (.inl (by rw [hc]; exact hi)))
            clear hb hl hc hi
            go_wp2
            go_round
            case rel => exact ⟨k + 1, by omega, by go_num, Lib.hid (all_next hol.out HL.out)⟩
            case measure => simp [intOf]; omega
          · have e1 : (((s[k].toNat : Nat) : Int) != 105) = true := by rw [hb]; simp; omega
            have hl' : s[k].toNat < 256 := by omega
            have hn' : ts.length ≤ 9223372036854775807 := by omega
            rcases hd : digB ts.length c with _ | _
            · have HD : Hid (digB ts.length s[k].toNat = false) := Lib.hid (by rw [hb]; exact hd)
              have HL : Hid (letB ts.length (byt s k) = false) := Lib.hid (let_no.2 (by rw [hc]; exact ⟨hi, hd⟩))
              clear hb hl hc hi hd
              go_wp2_with (go_at_call 40; refine (rdig_f _ _ _ hl' hn' HD).mono ?_; rintro e w' ⟨rfl, rfl⟩)
              go_ret
              exact ⟨ret_bool (right_ok hlt (by rw [HS.out]; exact ok_let hkt HL.out)).symm, rfl⟩
            · have HD : Hid (digB ts.length s[k].toNat = true) := Lib.hid (by rw [hb]; exact hd)
              have HL : Hid (letB ts.length (byt s k) = true) := Lib.hid (let_iff.2 (.inr (by rw [hc]; exact hd)))
              have hge : ¬ ((s[k].toNat : Nat) : Int) - 48 < 0 := by have := (dig_iff.1 hd).1; omega
              clear hb hl hc hi hd
              go_wp2_with (go_at_call 40; refine (rdig_t _ _ _ hl' hn' HD).mono ?_; rintro e w' ⟨rfl, rfl⟩)
              go_round
              case rel => exact ⟨k + 1, by omega, by go_num, Lib.hid (all_next hol.out HL.out)⟩
              case measure => simp [intOf]; omega
        · by_cases g1 : s.size < 1
          · go_wp2
            go_ret
            exact ⟨ret_bool (right_ok hlt (by rw [HS.out]; exact ok_size (.inl g1))).symm, rfl⟩
          by_cases g2 : 6 < s.size
          · go_wp2
            go_ret
            exact ⟨ret_bool (right_ok hlt (by rw [HS.out]; exact ok_size (.inr g2))).symm, rfl⟩
          have HO : Hid (okB ts.length s = true) := Lib.hid (ok_iff.2 ⟨by omega, by omega, fun j hj => hol.out j (by omega)⟩)
          go_wp2
          go_round
          case rel => exact ⟨t + 1, by omega, by go_num, Lib.hid (all_next hok.out (by rw [HS.out]; exact HO.out))⟩
          case measure => simp [intOf]; omega
    · have HF : Hid (∀ j, j < ts.length → okB ts.length (ty ts j) = true) := Lib.hid (fun j hj => hok.out j (by omega))
      by_cases g1 : ts.length < 1
      · go_wp2
        go_ret
        exact ⟨ret_bool (right_size (.inl g1)).symm, rfl⟩
      by_cases g2 : 8 < ts.length
      · go_wp2
        go_ret
        exact ⟨ret_bool (by rw [right_size (.inr g2)]; simp; omega), rfl⟩
      go_wp2
      go_ret
      exact ⟨ret_bool (by rw [right_iff.2 ⟨by omega, by omega, HF.out⟩]; simp; omega), rfl⟩
theorem rright_t (v : Value) (ts : List ByteArray) (w : World) (h : TsAt w v ts) (hr : Hid (rightB ts = true)) : Calls Tryd.prog 41 #[v] w fun e w' => e = .returned (.bool true) ∧ w = w' :=
  (rright_any v ts w h).mono fun e w' ⟨h1, h2⟩ => ⟨by rw [h1, hr.out], h2⟩
theorem rright_f (v : Value) (ts : List ByteArray) (w : World) (h : TsAt w v ts) (hr : Hid (rightB ts = false)) : Calls Tryd.prog 41 #[v] w fun e w' => e = .returned (.bool false) ∧ w = w' :=
  (rright_any v ts w h).mono fun e w' ⟨h1, h2⟩ => ⟨by rw [h1, hr.out], h2⟩
end Go.Proofs.YtcenjphpdgadmaaDoor
