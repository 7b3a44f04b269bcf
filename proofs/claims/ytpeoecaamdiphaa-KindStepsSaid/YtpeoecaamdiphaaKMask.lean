/-
  Contracts: Mask (the program's and the document's).
-/
import Derived.Test.YtpeoecaamdiphaaKOne
namespace Go.Proofs.Ytpeoecaamdiphaa
open Go.RowKit

theorem mask_not {ts : List ByteArray} {t : Int} (h : oneB ts t = false) : maskN ts t = 0 := by
  unfold maskN; rw [h]; rfl
theorem mask_one {ts : List ByteArray} {n : Nat} (h : oneB ts n = true) : maskN ts n = bitsN (ty ts n) (ty ts n).size := by
  unfold maskN; rw [h]; rfl
theorem bits_i {s : ByteArray} {k : Nat} (h : byt s k = 105) : bitsN s (k + 1) = bitsN s k := by
  show bitsN s k + _ = _
  rw [if_pos h]; rfl
theorem bits_d {s : ByteArray} {k : Nat} (h : byt s k ≠ 105) : bitsN s (k + 1) = bitsN s k + 2 ^ k := by
  show bitsN s k + _ = _
  rw [if_neg h]
theorem bits_64 (s : ByteArray) {k : Nat} (hk : k ≤ 6) : bitsN s k < 64 := by
  have h1 := bits_lt s k
  have h2 : 2 ^ k ≤ 2 ^ 6 := Nat.pow_le_pow_right (by decide) hk
  omega

set_option maxRecDepth 10000 in
theorem or_bit : ∀ k, k < 6 → ∀ M : Nat, M < 2 ^ k → bits BinOp.or IntKind.u8 (M : Int) (2 ^ k % 256) = ((M + 2 ^ k : Nat) : Int) := by decide

set_option maxHeartbeats 1000000 in
theorem kmask_any (v : Value) (ts : List ByteArray) (t : Int) (w : World) (h : TsAt w v ts) : Calls Try.prog 18 #[v, .int .i64 t] w fun e w' => e = .returned (.int .u8 (maskN ts t)) ∧ w = w' := by
  have H := Lib.hid h
  rcases hr : oneB ts t with _ | _
  · have HR := Lib.hid hr
    rw [mask_not hr]
    clear hr h
    go_enter Try.func18, Try.ntmps18
    go_wp2_with (go_at_call 29; refine (kone_f _ ts _ _ H.out HR).mono ?_; rintro e w' ⟨rfl, rfl⟩)
    go_ret
    exact ⟨rfl, rfl⟩
  have HR := Lib.hid hr
  obtain ⟨n, rfl, hn, hri⟩ := one_lt hr
  obtain ⟨b, o, c, rfl, h1, h2, hb, hc, hs⟩ := h.one hn
  rw [mask_one hr]
  have h6 := (right_ty hri hn).2
  clear hr h hri
  generalize ty ts n = s at hc hs h6 ⊢
  go_enter Try.func18, Try.ntmps18
  go_wp2_with (go_at_call 29; refine (kone_t _ ts _ _ H.out HR).mono ?_; rintro e w' ⟨rfl, rfl⟩)
  go_loop [5, 16] (fun m i => ∃ k M : Nat, k ≤ s.size ∧ i = .int .i64 k ∧ m = .int .u8 M ∧ Hid (M = bitsN s k)) (fun _ i => s.size - (intOf i).toNat)
  case atStart => exact ⟨0, 0, Nat.zero_le _, rfl, rfl, Lib.hid rfl⟩
  case round =>
    obtain ⟨k, M, hk, rfl, rfl, hM⟩ := hrel
    by_cases hlt : k < s.size
    · have hb := byt_at hlt
      by_cases hi : byt s k = 105
      · have e1 : (((s[k].toNat : Nat) : Int) != 105) = false := by rw [hb, hi]; rfl
        have HI := Lib.hid hi
        clear hb hi
        go_wp2
        go_round
        case rel => exact ⟨k + 1, M, by omega, by go_num, rfl, Lib.hid (hM.out.trans (bits_i HI.out).symm)⟩
        case measure => simp [intOf]; omega
      · have e1 : (((s[k].toNat : Nat) : Int) != 105) = true := by rw [hb]; simp; omega
        have HI := Lib.hid hi
        clear hb hi
        go_wp2
        go_round
        case rel => exact ⟨k + 1, M + 2 ^ k, by omega, by go_num, by rw [or_bit k (by omega) M (by rw [hM.out]; exact bits_lt s k)], Lib.hid (by rw [hM.out, bits_d HI.out])⟩
        case measure => simp [intOf]; omega
    · go_wp2
      go_ret
      obtain rfl : k = s.size := by omega
      exact ⟨ret_int (by rw [hM.out]), rfl⟩

theorem rsize_n (v : Value) (ts : List ByteArray) (t : Int) (m : Nat) (w : World) (h : TsAt w v ts) (hm : Hid (sizeI ts t = m)) : Calls Try.prog 17 #[v, .int .i64 t] w fun e w' => e = .returned (.int .i64 m) ∧ w = w' :=
  (rsize_any v ts t w h).mono fun e w' ⟨h1, h2⟩ => ⟨by rw [h1, hm.out], h2⟩
theorem rto_n (v : Value) (ts : List ByteArray) (t f x : Int) (w : World) (h : TsAt w v ts) (hm : Hid (toI ts t f = x)) : Calls Try.prog 21 #[v, .int .i64 t, .int .i64 f] w fun e w' => e = .returned (.int .i64 x) ∧ w = w' :=
  (rto_any v ts t f w h).mono fun e w' ⟨h1, h2⟩ => ⟨by rw [h1, hm.out], h2⟩
theorem ksize_n (v : Value) (ts : List ByteArray) (t : Int) (m : Nat) (w : World) (h : TsAt w v ts) (hm : Hid (sizeI ts t = m)) : Calls Try.prog 16 #[v, .int .i64 t] w fun e w' => e = .returned (.int .i64 m) ∧ w = w' :=
  (ksize_any v ts t w h).mono fun e w' ⟨h1, h2⟩ => ⟨by rw [h1, hm.out], h2⟩
theorem kto_n (v : Value) (ts : List ByteArray) (t f x : Int) (w : World) (h : TsAt w v ts) (hm : Hid (toI ts t f = x)) : Calls Try.prog 20 #[v, .int .i64 t, .int .i64 f] w fun e w' => e = .returned (.int .i64 x) ∧ w = w' :=
  (kto_any v ts t f w h).mono fun e w' ⟨h1, h2⟩ => ⟨by rw [h1, hm.out], h2⟩

set_option maxHeartbeats 1000000 in
theorem rmask_any (v : Value) (ts : List ByteArray) (t : Int) (w : World) (h : TsAt w v ts) : Calls Try.prog 19 #[v, .int .i64 t] w fun e w' => e = .returned (.int .u8 (maskN ts t)) ∧ w = w' := by
  have H := Lib.hid h
  rcases hr : oneB ts t with _ | _
  · have HS : Hid (sizeI ts t = ((0 : Nat) : Int)) := Lib.hid (size_not hr)
    rw [mask_not hr]
    clear hr h
    go_enter Try.func19, Try.ntmps19
    go_wp2
    go_loop [5, 7] (fun m i => m = .int .u8 0 ∧ i = .int .i64 0) (fun _ _ => 0)
    case atStart => exact ⟨rfl, rfl⟩
    case round =>
      obtain ⟨rfl, rfl⟩ := hrel
      go_wp2_with (go_at_call 17; refine (rsize_n _ ts _ 0 _ H.out HS).mono ?_; rintro e w' ⟨rfl, rfl⟩)
      go_ret
      exact ⟨rfl, rfl⟩
  have HR := Lib.hid hr
  obtain ⟨n, rfl, hn, hri⟩ := one_lt hr
  obtain ⟨b, o, c, rfl, h1, h2, hb, hc, hs⟩ := h.one hn
  rw [mask_one hr]
  have h6 := (right_ty hri hn).2
  have HS : Hid (sizeI ts n = (ty ts n).size) := Lib.hid (size_of hr)
  have HE := Lib.hid hri
  clear hr h hri hc
  generalize hg : ty ts n = s at hs h6 HS ⊢
  have HG := Lib.hid hg
  clear hg
  go_enter Try.func19, Try.ntmps19
  go_wp2
  go_loop [5, 6, 7] (fun m bt i => ∃ k M B : Nat, k ≤ s.size ∧ M + B < 256 ∧ B ≤ 64 ∧ i = .int .i64 k ∧ m = .int .u8 M ∧ bt = .int .u8 B ∧ Hid (M = bitsN s k ∧ B = 2 ^ k)) (fun _ _ i => s.size - (intOf i).toNat)
  case atStart => exact ⟨0, 0, 1, Nat.zero_le _, by omega, by omega, rfl, rfl, rfl, Lib.hid ⟨rfl, rfl⟩⟩
  case round =>
    obtain ⟨k, M, B, hk, hMB, hB, rfl, rfl, rfl, hM⟩ := hrel
    by_cases hlt : k < s.size
    · have hb2 : B * 2 = 2 ^ (k + 1) := by rw [hM.out.2, Nat.pow_succ]
      have hB2 : B ≤ 32 := by
        have h2 : 2 ^ k ≤ 2 ^ 5 := Nat.pow_le_pow_right (by decide) (by omega)
        have := hM.out.2
        omega
      have HB2 := Lib.hid hb2
      clear hb2
      by_cases hi : byt s k = 105
      · have HT : Hid (toI ts n k = -1) := Lib.hid (to_i HR.out (by rw [HG.out]; exact hlt) (by rw [HG.out]; exact hi))
        have HI := Lib.hid hi
        have hM2 : M + B * 2 < 256 := by
          have := bits_64 s (k := k) (by omega)
          have := hM.out.1
          omega
        clear hi
        go_wp2_with (first
          | (go_at_call 17; refine (rsize_n _ ts _ _ _ H.out HS).mono ?_; rintro e w' ⟨rfl, rfl⟩)
          | (go_at_call 21; refine (rto_n _ ts _ _ _ _ H.out HT).mono ?_; rintro e w' ⟨rfl, rfl⟩))
        go_round
        case rel => exact ⟨k + 1, M, B * 2, by omega, by omega, by omega, by go_num, rfl, by go_num, Lib.hid ⟨hM.out.1.trans (bits_i HI.out).symm, HB2.out⟩⟩
        case measure => simp [intOf]; omega
      · have hd : 48 ≤ byt s k := by
          have h7 := right_let HE.out hn (k := k) (by rw [HG.out]; exact hlt)
          rw [HG.out] at h7
          exact (dig_iff.1 (h7.resolve_left hi)).1
        have HT : Hid (toI ts n k = (byt s k : Int) - 48) := Lib.hid (by rw [to_d HR.out (by rw [HG.out]; exact hlt) (by rw [HG.out]; exact hi), HG.out])
        have HI := Lib.hid hi
        have hM2 : M + B + B * 2 < 256 := by
          have := bits_64 s (k := k) (by omega)
          have := hM.out.1
          omega
        have hge : (0 : Int) ≤ (byt s k : Int) - 48 := by omega
        generalize hx : (byt s k : Int) - 48 = x at HT hge
        clear hi hx hd
        go_wp2_with (first
          | (go_at_call 17; refine (rsize_n _ ts _ _ _ H.out HS).mono ?_; rintro e w' ⟨rfl, rfl⟩)
          | (go_at_call 21; refine (rto_n _ ts _ _ _ _ H.out HT).mono ?_; rintro e w' ⟨rfl, rfl⟩))
        go_round
        case rel => exact ⟨k + 1, M + B, B * 2, by omega, by omega, by omega, by go_num, by go_num, by go_num, Lib.hid ⟨by rw [hM.out.1, hM.out.2, bits_d HI.out], HB2.out⟩⟩
        case measure => simp [intOf]; omega
    · go_wp2_with (go_at_call 17; refine (rsize_n _ ts _ _ _ H.out HS).mono ?_; rintro e w' ⟨rfl, rfl⟩)
      go_ret
      obtain rfl : k = s.size := by omega
      exact ⟨ret_int (by rw [hM.out.1]), rfl⟩
end Go.Proofs.Ytpeoecaamdiphaa
