/-
  KindFields: the walk.
-/
import Derived.Test.YtpeoecaamdiphaaKLaw1
import Derived.Test.YtpeoecaamdiphaaKLet
namespace Go.Proofs.Ytpeoecaamdiphaa
open Go.RowKit

theorem tmod_of {M k x : Nat} (h : M / 2 ^ k % 2 = x) : ((M : Int) / 2 ^ k).tmod 2 = (x : Int) := by
  subst h
  exact IntWalk.up_tmod (by simp) rfl

set_option maxRecDepth 100000 in
set_option maxHeartbeats 4000000 in
theorem fields_walk (v : Value) (ts : List ByteArray) (t : Int) (w : World) (h : TsAt w v ts) : Calls Try.prog 5 #[v, .int .i64 t] w (TrueB w) := by
  have H := Lib.hid h
  rcases hf : fewB ts with _ | _
  · have HF := Lib.hid hf
    clear hf h
    go_enter Try.func5, Try.ntmps5
    go_wp2_with (first
      | (go_at_call 10; refine (alive_any _).mono ?_; rintro e w1 ⟨rfl, hb1⟩)
      | (go_at_call 11; refine (few_f _ ts _ (H.out.below hb1) HF).mono ?_; rintro e w' ⟨rfl, rfl⟩))
    go_ret
    exact ⟨rfl, hb1⟩
  have HF := Lib.hid hf
  clear hf
  rcases ho : oneB ts t with _ | _
  · have HZ : Hid (sizeI ts t = ((0 : Nat) : Int)) := Lib.hid (size_not ho)
    have HM : Hid (maskN ts t = 0) := Lib.hid (mask_not ho)
    have HT : Hid (toI ts t 0 = -1) := Lib.hid (to_not ho)
    obtain ⟨a, c, rfl, h1, h2⟩ := h.shape
    clear h
    rcases hr : rightB ts with _ | _
    · have HR := Lib.hid hr
      clear hr ho
      go_enter Try.func5, Try.ntmps5
      go_wp2_with (first
        | (go_at_call 10; refine (alive_any _).mono ?_; rintro e w1 ⟨rfl, hb1⟩; have HT1 := Lib.hid (H.out.below hb1))
        | (go_at_call 11; refine (few_t _ ts _ HT1.out HF).mono ?_; rintro e w' ⟨rfl, rfl⟩)
        | (go_at_call 13; refine (rright_n _ ts _ _ HT1.out HR).mono ?_; rintro e w' ⟨rfl, rfl⟩)
        | (go_at_call 16; refine (ksize_n _ ts t 0 _ HT1.out HZ).mono ?_; rintro e w' ⟨rfl, rfl⟩)
        | (go_at_call 18; refine (kmask_n _ ts t 0 _ HT1.out HM).mono ?_; rintro e w' ⟨rfl, rfl⟩)
        | (go_at_call 20; refine (kto_n _ ts t 0 (-1) _ HT1.out HT).mono ?_; rintro e w' ⟨rfl, rfl⟩))
      go_ret
      exact ⟨rfl, hb1⟩
    · have HR := Lib.hid hr
      have hlt := (one_no.1 ho).resolve_right (by rw [hr]; decide)
      clear hr ho
      rcases hlt with hlt | hlt
      all_goals
        go_enter Try.func5, Try.ntmps5
        go_wp2_with (first
          | (go_at_call 10; refine (alive_any _).mono ?_; rintro e w1 ⟨rfl, hb1⟩; have HT1 := Lib.hid (H.out.below hb1))
          | (go_at_call 11; refine (few_t _ ts _ HT1.out HF).mono ?_; rintro e w' ⟨rfl, rfl⟩)
          | (go_at_call 13; refine (rright_n _ ts _ _ HT1.out HR).mono ?_; rintro e w' ⟨rfl, rfl⟩)
          | (go_at_call 16; refine (ksize_n _ ts t 0 _ HT1.out HZ).mono ?_; rintro e w' ⟨rfl, rfl⟩)
          | (go_at_call 18; refine (kmask_n _ ts t 0 _ HT1.out HM).mono ?_; rintro e w' ⟨rfl, rfl⟩)
          | (go_at_call 20; refine (kto_n _ ts t 0 (-1) _ HT1.out HT).mono ?_; rintro e w' ⟨rfl, rfl⟩))
        go_ret
        exact ⟨rfl, hb1⟩
  have HO := Lib.hid ho
  obtain ⟨n, rfl, hn, hr⟩ := one_lt ho
  obtain ⟨b, o, c, rfl, h1, h2, hb, hc, hs⟩ := h.one hn
  have HR := Lib.hid hr
  have h6 := (right_ty hr hn).2
  have h8 := (right_len hr).2
  have HM : Hid (maskN ts n = bitsN (ty ts n) (ty ts n).size) := Lib.hid (mask_one ho)
  have HZ : Hid (sizeI ts n = (ty ts n).size) := Lib.hid (size_of ho)
  have HTN : Hid (toI ts n (-1) = -1) := Lib.hid (to_out (.inl (by decide)))
  have HC := Lib.hid hc
  clear hr ho h hc
  generalize hS : ty ts n = s at h6 hs HM HZ HC
  have HS := Lib.hid hS
  clear hS
  generalize hMv : bitsN s s.size = M at HM
  have HMv := Lib.hid hMv
  have hM64 : M < 64 := by rw [← hMv]; exact bits_64 s h6
  clear hMv
  go_enter Try.func5, Try.ntmps5
  go_wp2_with (first
    | (go_at_call 10; refine (alive_any _).mono ?_; rintro e w1 ⟨rfl, hb1⟩; have HT1 := Lib.hid (H.out.below hb1))
    | (go_at_call 11; refine (few_t _ ts _ HT1.out HF).mono ?_; rintro e w' ⟨rfl, rfl⟩)
    | (go_at_call 13; refine (rright_n _ ts _ _ HT1.out HR).mono ?_; rintro e w' ⟨rfl, rfl⟩)
    | (go_at_call 18; refine (kmask_n _ ts _ M _ HT1.out HM).mono ?_; rintro e w' ⟨rfl, rfl⟩))
  have hcell : w1.cell? ⟨b, o + n, none⟩ = some (.string s) := by rw [(bcell hb1).1 b _ hb]; exact HC.out
  go_loop [52] (fun i => ∃ k : Nat, k ≤ 8 ∧ i = .int .i64 k) (fun i => 8 - (intOf i).toNat)
  case atStart => exact ⟨0, by omega, rfl⟩
  case round =>
    obtain ⟨k, hk, rfl⟩ := hrel
    by_cases hk8 : k < 8
    · have hbit := bit_at s k s.size
      rw [HMv.out] at hbit
      by_cases hks : k < s.size
      · have hks' : k < (ty ts n).size := by rw [HS.out]; exact hks
        have hl := right_let HR.out hn hks'
        rw [HS.out] at hl
        by_cases hi : byt s k = 105
        · have HT : Hid (toI ts n k = -1) := Lib.hid (to_i HO.out hks' (by rw [HS.out]; exact hi))
          have hq : M / 2 ^ k % 2 = 0 := by rw [hbit]; simp [hi]
          have hq2 : ((M : Int) / 2 ^ k).tmod 2 = 0 := tmod_of hq
          clear hbit hl hi hq
          go_wp2_with (go_at_call 20; refine (kto_n _ ts _ _ _ _ HT1.out HT).mono ?_; rintro e w' ⟨rfl, rfl⟩)
          go_round
          case rel => exact ⟨k + 1, by omega, by go_num⟩
          case measure => (simp [intOf] <;> omega)
        · have hd := dig_iff.1 (hl.resolve_left hi)
          obtain ⟨m, hm⟩ : ∃ m, byt s k = m + 48 := ⟨byt s k - 48, by omega⟩
          have HT : Hid (toI ts n k = (m : Int)) := Lib.hid (by rw [to_d HO.out hks' (by rw [HS.out]; exact hi), HS.out, hm]; omega)
          have hby := byt_at hks
          have hq : M / 2 ^ k % 2 = 1 := by rw [hbit]; simp [hi, hks]
          have hq2 : ((M : Int) / 2 ^ k).tmod 2 = 1 := tmod_of hq
          have hml : m < ts.length := by omega
          have hsm : s[k].toNat = m + 48 := by omega
          clear hbit hl hi hq hd hm hby
          go_wp2_with (go_at_call 20; refine (kto_n _ ts _ _ _ _ HT1.out HT).mono ?_; rintro e w' ⟨rfl, rfl⟩)
          go_round
          case rel => exact ⟨k + 1, by omega, by go_num⟩
          case measure => (simp [intOf] <;> omega)
      · have HT : Hid (toI ts n k = -1) := Lib.hid (to_out (.inr (by rw [HS.out]; omega)))
        have hq : M / 2 ^ k % 2 = 0 := by rw [hbit]; simp [hks]
        have hq2 : ((M : Int) / 2 ^ k).tmod 2 = 0 := tmod_of hq
        clear hbit hq
        go_wp2_with (go_at_call 20; refine (kto_n _ ts _ _ _ _ HT1.out HT).mono ?_; rintro e w' ⟨rfl, rfl⟩)
        go_round
        case rel => exact ⟨k + 1, by omega, by go_num⟩
        case measure => (simp [intOf] <;> omega)
    · obtain rfl : k = 8 := by omega
      go_wp2
      go_region_with (first
        | (go_at_call 16; refine (ksize_n _ ts _ s.size _ (ts_drawn HT1.out _) HZ).mono ?_; rintro e w' ⟨rfl, rfl⟩)
        | (go_at_call 20; refine (kto_n _ ts _ (-1) (-1) _ (ts_drawn HT1.out _) HTN).mono ?_; rintro e w' ⟨rfl, rfl⟩))
      all_goals
        go_wp2_with fail
        go_ret
        exact ⟨rfl, hb1.trans (below_drewN _ _ _)⟩
end Go.Proofs.Ytpeoecaamdiphaa
