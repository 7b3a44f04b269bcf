/-
  KindLetters: the walk.
-/
import Derived.Test.YtpeoecaamdiphaaKLet
namespace Go.Proofs.Ytpeoecaamdiphaa
open Go.RowKit

set_option maxRecDepth 100000 in
set_option maxHeartbeats 4000000 in
theorem letters_walk (v : Value) (ts : List ByteArray) (w : World) (h : TsAt w v ts) : Calls Try.prog 8 #[v] w (TrueB w) := by
  have H := Lib.hid h
  rcases hf : fewB ts with _ | _
  · have HF := Lib.hid hf
    clear hf h
    go_enter Try.func8, Try.ntmps8
    go_wp2_with (first
      | (go_at_call 10; refine (alive_any _).mono ?_; rintro e w1 ⟨rfl, hb1⟩)
      | (go_at_call 11; refine (few_f _ ts _ (H.out.below hb1) HF).mono ?_; rintro e w' ⟨rfl, rfl⟩))
    go_ret
    exact ⟨rfl, hb1⟩
  have HF := Lib.hid hf
  have h20 := (few_iff.1 hf).1
  have h50 := Lib.hid (few_iff.1 hf).2
  obtain ⟨a, c, rfl, h1, h2⟩ := h.shape
  clear hf h
  have HZ := Lib.hid (out_zero ts)
  have hcl : ∀ w1, TsAt w1 (.slice a ts.length c) ts → ∀ k, k < ts.length → ∃ b o, a = some ⟨b, o, none⟩ ∧ w1.cell? ⟨b, o + k, none⟩ = some (.string (ty ts k)) ∧ (ty ts k).size ≤ 9223372036854775807 := by
    intro w1 hT k hk
    obtain ⟨b, o, c', e1, _, _, _, h3, h4⟩ := hT.one hk
    simp only [Value.slice.injEq] at e1
    exact ⟨b, o, e1.1, h3, h4⟩
  have HCL := Lib.hid hcl
  clear hcl
  obtain ⟨E0, hE0, hcase⟩ : ∃ E0 : Bool, outE ts 0 = E0 ∧ ((E0 = false ∧ ts.length < 1) ∨ (E0 = false ∧ 8 < ts.length) ∨ (E0 = true ∧ 1 ≤ ts.length ∧ ts.length ≤ 8)) := by
    refine ⟨_, rfl, ?_⟩
    rw [HZ.out]
    by_cases g1 : ts.length < 1
    · exact .inl ⟨decide_eq_false (by omega), g1⟩
    by_cases g2 : 8 < ts.length
    · exact .inr (.inl ⟨decide_eq_false (by omega), g2⟩)
    exact .inr (.inr ⟨decide_eq_true ⟨by omega, by omega⟩, by omega, by omega⟩)
  have HE0 := Lib.hid hE0
  clear hE0
  go_enter Try.func8, Try.ntmps8
  go_upto_region 5 with (first
    | (go_at_call 10; refine (alive_any _).mono ?_; rintro e w1 ⟨rfl, hb1⟩; have HT1 := Lib.hid (H.out.below hb1))
    | (go_at_call 11; refine (few_t _ ts _ HT1.out HF).mono ?_; rintro e w' ⟨rfl, rfl⟩))
  go_cut [3] from 12 (fun x wx => ∃ E : Bool, x = .bool E ∧ Hid (outE ts 0 = E) ∧ w1 = wx)
  case first =>
    rcases hcase with ⟨rfl, g⟩ | ⟨rfl, g⟩ | ⟨rfl, g, g'⟩
    all_goals
      go_wp2
      go_meet
      case rel => exact ⟨_, by first | rfl | (simp; omega), HE0, rfl⟩
  case rest =>
    obtain ⟨E, rfl, HE0, rfl⟩ := hcut
    go_wp2
    go_loop [3, 27] (fun x i => ∃ (k : Nat) (E : Bool), k ≤ ts.length ∧ i = .int .i64 k ∧ x = .bool E ∧ Hid (outE ts k = E)) (fun _ i => ts.length - (intOf i).toNat)
    case atStart => exact ⟨0, _, Nat.zero_le _, rfl, rfl, HE0⟩
    case round =>
      obtain ⟨k, E, hk, rfl, rfl, hE⟩ := hrel
      by_cases hlt : k < ts.length
      · obtain ⟨b, o, rfl, hcell, hsz⟩ := HCL.out w1 HT1.out k hlt
        have hN := out_next (ts := ts) (k := k) (s := ty ts k) rfl
        have hI := in_zero (ts := ts) (k := k) (s := ty ts k)
        have hJ := fun i => in_next (ts := ts) (k := k) (i := i) (s := ty ts k)
        rw [hE.out] at hI
        generalize ty ts k = s at hcell hsz hN hI hJ
        have HN := Lib.hid hN
        have HJ := Lib.hid hJ
        clear hN hJ
        obtain ⟨F, hF, hc2⟩ : ∃ F : Bool, inE ts k s 0 = F ∧ ((E = false ∧ F = false) ∨ (E = true ∧ F = false ∧ s.size < 1) ∨ (E = true ∧ F = false ∧ 6 < s.size) ∨ (E = true ∧ F = true ∧ 1 ≤ s.size ∧ s.size ≤ 6)) := by
          refine ⟨_, rfl, ?_⟩
          rw [hI]
          cases E
          · exact .inl ⟨rfl, rfl⟩
          by_cases g1 : s.size < 1
          · exact .inr (.inl ⟨rfl, decide_eq_false (by omega), g1⟩)
          by_cases g2 : 6 < s.size
          · exact .inr (.inr (.inl ⟨rfl, decide_eq_false (by omega), g2⟩))
          exact .inr (.inr (.inr ⟨rfl, decide_eq_true ⟨by omega, by omega⟩, by omega, by omega⟩))
        have HF0 := Lib.hid hF
        clear hF hI hE
        rcases hc2 with ⟨rfl, rfl⟩ | ⟨rfl, rfl, g1⟩ | ⟨rfl, rfl, g1⟩ | ⟨rfl, rfl, g1, g2⟩
        all_goals
          go_wp2
          go_loop [3, 44] (fun x i => ∃ (j : Nat) (G : Bool), j ≤ s.size ∧ i = .int .i64 j ∧ x = .bool G ∧ Hid (inE ts k s j = G)) (fun _ i => s.size - (intOf i).toNat)
          case atStart => exact ⟨0, _, Nat.zero_le _, rfl, by first | rfl | (simp; omega), HF0⟩
          case round =>
            obtain ⟨j, G, hj, rfl, rfl, hG⟩ := hrel
            by_cases hjs : j < s.size
            · have hnx := HJ.out j
              rw [hG.out] at hnx
              cases G
              · have HX := Lib.hid hnx
                clear hnx
                go_wp2
                all_goals
                  go_round
                  case rel => exact ⟨j + 1, false, by omega, by go_num, rfl, HX⟩
                  case measure => (simp [intOf] <;> omega)
              · have hby := byt_at hjs
                have hlb := byt_lt s j
                by_cases hi : byt s j = 105
                · have e1 : (((s[j].toNat : Nat) : Int) == 105) = true := by rw [hby, hi]; rfl
                  have HX := Lib.hid (hnx.trans (by rw [let_iff.2 (.inl hi)]; rfl : _ = true))
                  clear hnx hby hlb hi
                  go_wp2
                  all_goals
                    go_round
                    case rel => exact ⟨j + 1, true, by omega, by go_num, rfl, HX⟩
                    case measure => (simp [intOf] <;> omega)
                · have e1 : (((s[j].toNat : Nat) : Int) == 105) = false := by rw [hby]; simp; omega
                  by_cases h48 : byt s j < 48
                  · have h49 : s[j].toNat < 48 := by omega
                    have HX := Lib.hid (hnx.trans (by rw [let_no.2 ⟨hi, dig_no.2 (by omega)⟩]; rfl : _ = false))
                    clear hnx hby hlb hi h48
                    go_wp2
                    all_goals
                      go_round
                      case rel => exact ⟨j + 1, false, by omega, by go_num, rfl, HX⟩
                      case measure => (simp [intOf] <;> omega)
                  · have h49 : 48 ≤ s[j].toNat := by omega
                    have h50 : s[j].toNat < 256 := by omega
                    by_cases hd : byt s j < 48 + ts.length
                    · have h51 : s[j].toNat < 48 + ts.length := by omega
                      have HX := Lib.hid (hnx.trans (by rw [let_iff.2 (.inr (dig_iff.2 ⟨by omega, hd⟩))]; rfl : _ = true))
                      clear hnx hby hlb hi h48 hd
                      go_wp2
                      all_goals
                        go_round
                        case rel => exact ⟨j + 1, true, by omega, by go_num, by first | rfl | (simp; omega), HX⟩
                        case measure => (simp [intOf] <;> omega)
                    · have h51 : 48 + ts.length ≤ s[j].toNat := by omega
                      have HX := Lib.hid (hnx.trans (by rw [let_no.2 ⟨hi, dig_no.2 (by omega)⟩]; rfl : _ = false))
                      clear hnx hby hlb hi h48 hd
                      go_wp2
                      all_goals
                        go_round
                        case rel => exact ⟨j + 1, false, by omega, by go_num, by first | rfl | (simp; omega), HX⟩
                        case measure => (simp [intOf] <;> omega)
            · obtain rfl : j = s.size := by omega
              go_wp2
              all_goals
                go_round
                case rel => exact ⟨k + 1, G, by omega, by go_num, rfl, Lib.hid (HN.out.trans hG.out)⟩
                case measure => (simp [intOf] <;> omega)
      · obtain rfl : k = ts.length := by omega
        have HR := Lib.hid ((out_all ts).symm.trans hE.out)
        clear hE
        cases E
        all_goals
          go_wp2_with (go_at_call 12; refine (kright_y _ ts _ _ HT1.out HR).mono ?_; rintro e w' ⟨rfl, rfl⟩)
        · go_loop [7] (fun i => i = .int .i64 0) (fun _ => 0)
          case atStart => rfl
          case round =>
            subst hrel
            go_wp2
            go_ret
            exact ⟨rfl, hb1⟩
        · go_loop [7] (fun i => ∃ k : Nat, k ≤ ts.length ∧ i = .int .i64 k) (fun i => ts.length - (intOf i).toNat)
          case atStart => exact ⟨0, Nat.zero_le _, rfl⟩
          case round =>
            obtain ⟨k, hk, rfl⟩ := hrel
            by_cases hlt : k < ts.length
            · obtain ⟨b, o, rfl, hcell, hsz⟩ := HCL.out w1 HT1.out k hlt
              have h6 := (right_ty HR.out hlt).2
              have HM : Hid (maskN ts k = bitsN (ty ts k) (ty ts k).size) := Lib.hid (mask_one (one_t (by omega) (by omega) HR.out))
              generalize ty ts k = s at hcell hsz h6 HM
              generalize hMv : bitsN s s.size = M at HM
              have HMv := Lib.hid hMv
              have hM64 : M < 64 := by rw [← hMv]; exact bits_64 s h6
              clear hMv
              go_wp2
              go_loop [8, 90] (fun x i => ∃ (j n : Nat), j ≤ s.size ∧ n ≤ j ∧ i = .int .i64 j ∧ x = .int .i64 n ∧ Hid (n = ptrsN s j)) (fun _ i => s.size - (intOf i).toNat)
              case atStart => exact ⟨0, 0, Nat.zero_le _, Nat.le_refl _, rfl, rfl, Lib.hid rfl⟩
              case round =>
                obtain ⟨j, n, hj, hnj, rfl, rfl, hN⟩ := hrel
                by_cases hjs : j < s.size
                · have hby := byt_at hjs
                  by_cases hi : byt s j = 105
                  · have e1 : (((s[j].toNat : Nat) : Int) != 105) = false := by rw [hby, hi]; rfl
                    have HI := Lib.hid hi
                    clear hby hi
                    go_wp2
                    go_round
                    case rel => exact ⟨j + 1, n, by omega, by omega, by go_num, rfl, Lib.hid (hN.out.trans (ptrs_i HI.out).symm)⟩
                    case measure => (simp [intOf] <;> omega)
                  · have e1 : (((s[j].toNat : Nat) : Int) != 105) = true := by rw [hby]; simp; omega
                    have HI := Lib.hid hi
                    clear hby hi
                    go_wp2
                    go_round
                    case rel => exact ⟨j + 1, n + 1, by omega, by omega, by go_num, by go_num, Lib.hid (by rw [hN.out, ptrs_d HI.out])⟩
                    case measure => (simp [intOf] <;> omega)
                · obtain rfl : j = s.size := by omega
                  go_wp2
                  go_loop [10, 103] (fun x i => ∃ (j m : Nat), j ≤ 8 ∧ m ≤ j ∧ i = .int .i64 j ∧ x = .int .i64 m ∧ Hid (m = ptrsN s (min j s.size))) (fun _ i => 8 - (intOf i).toNat)
                  case atStart => exact ⟨0, 0, Nat.zero_le _, Nat.le_refl _, rfl, rfl, Lib.hid (by simp [ptrsN])⟩
                  case round =>
                    obtain ⟨j, m, hj8, hmj, rfl, rfl, hJ⟩ := hrel
                    by_cases hj : j < 8
                    · go_wp2_with (go_at_call 18; refine (kmask_n _ ts _ M _ HT1.out HM).mono ?_; rintro e w' ⟨rfl, rfl⟩)
                      have HB := Lib.hid (and_bit M hM64 j hj)
                      have hp := ptrs_min s j
                      rw [HMv.out] at hp
                      have HP := Lib.hid hp
                      clear hp
                      generalize M / 2 ^ j % 2 = B at HB HP
                      have hB1 : B ≤ 1 := HP.out.2
                      go_round
                      case rel => exact ⟨j + 1, m + B, by omega, by omega, by go_num, by rw [HB.out, IntWalk.wrap64_in ((B : Nat) : Int) (by omega), IntWalk.wrap64_in ((m : Nat) + (B : Nat) : Int) (by omega)]; go_num, Lib.hid (by rw [hJ.out, HP.out.1])⟩
                      case measure => (simp [intOf] <;> omega)
                    · obtain rfl : j = 8 := by omega
                      have hmn : m = n := by rw [hJ.out, hN.out, Nat.min_eq_right (by omega)]
                      subst hmn
                      go_wp2
                      go_round
                      case rel => exact ⟨k + 1, by omega, by go_num⟩
                      case measure => (simp [intOf] <;> omega)
            · go_wp2
              go_ret
              exact ⟨rfl, hb1⟩
end Go.Proofs.Ytpeoecaamdiphaa
