/-
  ClassWhole, ClassDoubles: the walks.
-/
import Derived.Test.YtdnhlahecmfhdaaGCAlive
namespace Go.Proofs.Ytdnhlahecmfhdaa
open Go.RowKit

theorem cuts_get {s w : Int} {M j : Nat} (hM : 8 / w.toNat = M) (hj : j < M) : (cutsZ s w)[j]? = some (8 * s + 1 + (j : Int) * w) := by
  unfold cutsZ
  rw [List.getElem?_map, List.getElem?_range (by omega)]; rfl
theorem cuts_len {s w : Int} {M : Nat} (hM : 8 / w.toNat = M) : (cutsZ s w).length = M := by unfold cutsZ; rw [List.length_map, List.length_range, hM]
theorem blocks_at {s c w : Int} (hw : wordsZ c = w) (hw0 : w ≠ 0) (s0 : 0 ≤ s) (s1 : s ≤ 1048576) : blocksZ s c = cutsZ s w := by
  unfold blocksZ; rw [if_neg (by omega), hw]
theorem begins_at {s c w : Int} {i : Nat} (hw : wordsZ c = w) (hw0 : 0 < w) (s0 : 0 ≤ s) (hi : i < 8) : beginsZ (8 * s + 1 + (i : Int)) c = decide ((i : Int) % w = 0) := by
  unfold beginsZ
  rw [hw, decide_eq_true (show 1 ≤ 8 * s + 1 + (i : Int) by omega), decide_eq_true hw0, show (8 * s + 1 + (i : Int) - 1) % 8 = (i : Int) by omega]
  rfl
set_option maxRecDepth 100000 in
set_option maxHeartbeats 8000000 in
theorem gcwhole_n (s c : Int) (w : World) (s0 : 0 ≤ s) (s1 : s ≤ 65535) (c0 : 0 ≤ c) (c1 : c ≤ 255) : Calls Try.prog 4 #[.int .u16 s, .int .u8 c] w (AggPost w (.bool true)) := by
  have HAL := Lib.hid fun w1 => gcalive_n w1
  have HB := Lib.hid (Below.refl w.heap.size w)
  have HIN : Hid (∀ w1 i, 0 ≤ i → i < 8 → Calls Try.prog 16 #[.int .i64 (8 * s + 1 + i)] w1 (AggPost w1 (.int .i64 s))) := Lib.hid fun w1 i h0 h1 => by
    have h := clin_n (8 * s + 1 + i) w1 (by omega) (by omega)
    rw [show inZ (8 * s + 1 + i) = s by unfold inZ; rw [if_neg (by omega)]; omega] at h
    exact h
  go_enter Try.func4, Try.ntmps4
  go_upto_region 4 with (go_at_call 8; ((with_reducible refine (HAL.out _).mono ?_); rintro e w1 ⟨rfl, hb⟩; have HB := Lib.hid (HB.out.trans (hb.mono HB.out.size)); clear hb))
  clear HAL
  have hk : c % 4 = 0 ∨ c % 4 = 1 ∨ c % 4 = 2 ∨ c % 4 = 3 := by omega
  generalize c % 4 = k at hk ⊢
  obtain ⟨z, M, hz, hM, hzM⟩ : ∃ (z : Int) (M : Nat), wordsZ k = z ∧ 8 / z.toNat = M ∧ ((z = 1 ∧ M = 8) ∨ (z = 2 ∧ M = 4) ∨ (z = 4 ∧ M = 2) ∨ (z = 8 ∧ M = 1)) := by
    rcases hk with rfl | rfl | rfl | rfl
    · exact ⟨1, 8, rfl, rfl, .inl ⟨rfl, rfl⟩⟩
    · exact ⟨2, 4, rfl, rfl, .inr (.inl ⟨rfl, rfl⟩)⟩
    · exact ⟨4, 2, rfl, rfl, .inr (.inr (.inl ⟨rfl, rfl⟩))⟩
    · exact ⟨8, 1, rfl, rfl, .inr (.inr (.inr ⟨rfl, rfl⟩))⟩
  have HW := Lib.hid fun w1 => clwords_n k w1 (by omega) (by omega)
  have HBL := Lib.hid fun w1 => clblocks_n s k w1 (by omega) (by omega) (by omega) (by omega)
  have hz0 : z ≠ 0 := by omega
  rw [hz] at HW
  rw [blocks_at hz hz0 s0 (by omega)] at HBL
  have HBE : Hid (∀ w1 i b, 0 ≤ i → i < 8 → ((i % z = 0 ∧ b = true) ∨ (i % z ≠ 0 ∧ b = false)) → Calls Try.prog 18 #[.int .i64 (8 * s + 1 + i), .int .i64 k] w1 (AggPost w1 (.bool b))) := Lib.hid fun w1 i b h0 h1 hb => by
    obtain ⟨iN, rfl⟩ : ∃ iN : Nat, i = iN := ⟨i.toNat, by omega⟩
    have h := clbegins_n (8 * s + 1 + (iN : Int)) k w1 (by omega) (by omega) (by omega) (by omega)
    rw [begins_at hz (by omega) s0 (by omega)] at h
    rcases hb with ⟨h9, rfl⟩ | ⟨h9, rfl⟩
    · rw [decide_eq_true h9] at h; exact h
    · rw [decide_eq_false h9] at h; exact h
  have HLEN := Lib.hid (cuts_len (s := s) hM)
  have HGET := Lib.hid fun j (hj : j < M) => cuts_get (s := s) hM hj
  clear hz hz0 hM hk
  have hM0 : 0 < M := by omega
  go_upto_region 6 with (first
    | (go_at_call 11; ((with_reducible refine (HW.out _).mono ?_); rintro e w2 ⟨rfl, hb⟩; have HB := Lib.hid (HB.out.trans (hb.mono HB.out.size)); clear hb))
    | (go_at_call 14; ((with_reducible refine (HBL.out _).mono ?_); rintro e w3 ⟨v3, rfl, hr, hb⟩; have HB := Lib.hid (HB.out.trans (hb.mono HB.out.size)); obtain ⟨bl, ol, cl, rfl, hl1, hl2, hbl, hcell⟩ := rowA_cells hr HLEN.out hM0; have HC : Hid (∀ wr, Below w3.heap.size w3 wr → ∀ j : Nat, j < M → wr.cell? ⟨bl, ol + j, none⟩ = some (.int .i64 (8 * s + 1 + (j : Int) * z))) := Lib.hid fun wr hbw j hj => (by rw [(bcell hbw).1 _ _ hbl]; exact hcell j _ (HGET.out j hj)); clear hr hb hbl hcell)))
  clear HW HBL HGET HLEN
  have HB3 := Lib.hid (Below.refl w3.heap.size w3)
  have HBW := HB
  clear HB
  rcases hzM with ⟨rfl, rfl⟩ | ⟨rfl, rfl⟩ | ⟨rfl, rfl⟩ | ⟨rfl, rfl⟩
  · go_wp2_with (fail)
    go_loopw [30] (fun v30 wr => ∃ i : Nat, i ≤ 8 ∧ v30 = .int .i64 i ∧ Hid (Below w3.heap.size w3 wr)) (fun v30 _ => 8 - (intOf v30).toNat)
    case atStart => exact ⟨0, by omega, rfl, HB3⟩
    case round =>
      clear HB3
      obtain ⟨i, hi8, rfl, HB⟩ := hrel
      by_cases hil : i < 8
      · have hii : (i : Int) < 8 := by omega
        have hi0 : (0 : Int) ≤ (i : Int) := by omega
        obtain ⟨wo, hwo⟩ : ∃ wo : World, wo = wr := ⟨_, rfl⟩
        rw [← hwo] at HB ⊢
        clear hwo
        go_wp2_with (fail)
        go_loopw [10, 11, 41] (fun v10 v11 v41 wx => ∃ (m : Nat) (x : Int) (y : Bool), m ≤ 8 ∧ (((i : Int) < (m : Int) * 1 ∧ x = 1 ∧ (((i : Int) % 1 = 0 ∧ y = true) ∨ ((i : Int) % 1 ≠ 0 ∧ y = false))) ∨ ((m : Int) * 1 ≤ (i : Int) ∧ x = 0 ∧ y = false)) ∧ v10 = .int .i64 x ∧ v11 = .bool y ∧ v41 = .int .i64 m ∧ wx = wo) (fun _ _ v41 _ => 8 - (intOf v41).toNat)
        case atStart => exact ⟨0, 0, false, by omega, .inr ⟨by omega, rfl, rfl⟩, rfl, rfl, rfl, rfl⟩
        case round =>
          obtain ⟨m, x, y, hm, hxy, rfl, rfl, rfl, hwx⟩ := hrel
          subst hwx
          by_cases hml : m < 8
          · have hmi : (m : Int) < 8 := by omega
            have hm0 : (0 : Int) ≤ (m : Int) := by omega
            have cj := HC.out _ HB.out m hml
            obtain ⟨B, hB⟩ : ∃ B : Int, B = 8 * s + 1 + (m : Int) * 1 := ⟨_, rfl⟩
            rw [← hB] at cj
            have hb0 : 0 ≤ B := by omega
            have hb1 : B ≤ 600000 := by omega
            rcases hxy with ⟨hc, rfl, hy⟩ | ⟨hc, rfl, rfl⟩
            · have h1 : ¬ (B ≤ 8 * s + 1 + (i : Int)) := by omega
              have h2 : (B == 8 * s + 1 + (i : Int)) = false := by simp; omega
              rcases hy with ⟨hr, rfl⟩ | ⟨hr, rfl⟩
              · clear hB
                go_wp2_with (fail)
                go_roundw
                case rel => exact ⟨m + 1, 1, true, by omega, .inl ⟨by omega, rfl, .inl ⟨hr, rfl⟩⟩, by go_num, by go_num, by go_num, trivial⟩
                case measure => simp [intOf]; omega
              · clear hB
                go_wp2_with (fail)
                go_roundw
                case rel => exact ⟨m + 1, 1, false, by omega, .inl ⟨by omega, rfl, .inr ⟨hr, rfl⟩⟩, by go_num, by go_num, by go_num, trivial⟩
                case measure => simp [intOf]; omega
            · have h1 : B ≤ 8 * s + 1 + (i : Int) := by omega
              by_cases hin : 8 * s + 1 + (i : Int) < B + 1
              · by_cases hr : (i : Int) % 1 = 0
                · have h2 : (B == 8 * s + 1 + (i : Int)) = true := by simp; omega
                  have hc2 : (i : Int) < ((m + 1 : Nat) : Int) * 1 := by omega
                  clear hB
                  go_wp2_with (fail)
                  go_roundw
                  case rel => exact ⟨m + 1, 1, true, by omega, .inl ⟨hc2, rfl, .inl ⟨hr, rfl⟩⟩, by go_num, by go_num, by go_num, trivial⟩
                  case measure => simp [intOf]; omega
                · have h2 : (B == 8 * s + 1 + (i : Int)) = false := by simp; omega
                  have hc2 : (i : Int) < ((m + 1 : Nat) : Int) * 1 := by omega
                  clear hB
                  go_wp2_with (fail)
                  go_roundw
                  case rel => exact ⟨m + 1, 1, false, by omega, .inl ⟨hc2, rfl, .inr ⟨hr, rfl⟩⟩, by go_num, by go_num, by go_num, trivial⟩
                  case measure => simp [intOf]; omega
              · have h2 : (B == 8 * s + 1 + (i : Int)) = false := by simp; omega
                have hc2 : ((m + 1 : Nat) : Int) * 1 ≤ (i : Int) := by omega
                clear hB
                go_wp2_with (fail)
                go_roundw
                case rel => exact ⟨m + 1, 0, false, by omega, .inr ⟨hc2, rfl, rfl⟩, by go_num, by go_num, by go_num, trivial⟩
                case measure => simp [intOf]; omega
          · have hmn : ¬ ((m : Int) < 8) := by omega
            rcases hxy with ⟨hc, rfl, hy⟩ | ⟨hc, rfl, rfl⟩
            · have HBI := Lib.hid fun w1 => HBE.out w1 (i : Int) y hi0 hii hy
              have HII := Lib.hid fun w1 => HIN.out w1 (i : Int) hi0 hii
              clear hy
              rcases y with _ | _
              all_goals
                go_wp2_with (first
                  | (go_at_call 18; ((with_reducible refine (HBI.out _).mono ?_); rintro e w5 ⟨rfl, hb⟩; have HB := Lib.hid (HB.out.trans (hb.mono HB.out.size)); clear hb))
                  | (go_at_call 16; ((with_reducible refine (HII.out _).mono ?_); rintro e w6 ⟨rfl, hb⟩; have HB := Lib.hid (HB.out.trans (hb.mono HB.out.size)); clear hb)))
                go_roundw
                case rel => exact ⟨i + 1, by omega, by go_num, HB⟩
                case measure => simp [intOf]; omega
            · omega
      · have hin : ¬ ((i : Int) < 8) := by omega
        go_wp2_with (fail)
        go_ret
        exact ⟨rfl, HBW.out.trans (HB.out.mono HBW.out.size)⟩
  · go_wp2_with (fail)
    go_loopw [30] (fun v30 wr => ∃ i : Nat, i ≤ 8 ∧ v30 = .int .i64 i ∧ Hid (Below w3.heap.size w3 wr)) (fun v30 _ => 8 - (intOf v30).toNat)
    case atStart => exact ⟨0, by omega, rfl, HB3⟩
    case round =>
      clear HB3
      obtain ⟨i, hi8, rfl, HB⟩ := hrel
      by_cases hil : i < 8
      · have hii : (i : Int) < 8 := by omega
        have hi0 : (0 : Int) ≤ (i : Int) := by omega
        obtain ⟨wo, hwo⟩ : ∃ wo : World, wo = wr := ⟨_, rfl⟩
        rw [← hwo] at HB ⊢
        clear hwo
        go_wp2_with (fail)
        go_loopw [10, 11, 41] (fun v10 v11 v41 wx => ∃ (m : Nat) (x : Int) (y : Bool), m ≤ 4 ∧ (((i : Int) < (m : Int) * 2 ∧ x = 1 ∧ (((i : Int) % 2 = 0 ∧ y = true) ∨ ((i : Int) % 2 ≠ 0 ∧ y = false))) ∨ ((m : Int) * 2 ≤ (i : Int) ∧ x = 0 ∧ y = false)) ∧ v10 = .int .i64 x ∧ v11 = .bool y ∧ v41 = .int .i64 m ∧ wx = wo) (fun _ _ v41 _ => 4 - (intOf v41).toNat)
        case atStart => exact ⟨0, 0, false, by omega, .inr ⟨by omega, rfl, rfl⟩, rfl, rfl, rfl, rfl⟩
        case round =>
          obtain ⟨m, x, y, hm, hxy, rfl, rfl, rfl, hwx⟩ := hrel
          subst hwx
          by_cases hml : m < 4
          · have hmi : (m : Int) < 4 := by omega
            have hm0 : (0 : Int) ≤ (m : Int) := by omega
            have cj := HC.out _ HB.out m hml
            obtain ⟨B, hB⟩ : ∃ B : Int, B = 8 * s + 1 + (m : Int) * 2 := ⟨_, rfl⟩
            rw [← hB] at cj
            have hb0 : 0 ≤ B := by omega
            have hb1 : B ≤ 600000 := by omega
            rcases hxy with ⟨hc, rfl, hy⟩ | ⟨hc, rfl, rfl⟩
            · have h1 : ¬ (B ≤ 8 * s + 1 + (i : Int)) := by omega
              have h2 : (B == 8 * s + 1 + (i : Int)) = false := by simp; omega
              rcases hy with ⟨hr, rfl⟩ | ⟨hr, rfl⟩
              · clear hB
                go_wp2_with (fail)
                go_roundw
                case rel => exact ⟨m + 1, 1, true, by omega, .inl ⟨by omega, rfl, .inl ⟨hr, rfl⟩⟩, by go_num, by go_num, by go_num, trivial⟩
                case measure => simp [intOf]; omega
              · clear hB
                go_wp2_with (fail)
                go_roundw
                case rel => exact ⟨m + 1, 1, false, by omega, .inl ⟨by omega, rfl, .inr ⟨hr, rfl⟩⟩, by go_num, by go_num, by go_num, trivial⟩
                case measure => simp [intOf]; omega
            · have h1 : B ≤ 8 * s + 1 + (i : Int) := by omega
              by_cases hin : 8 * s + 1 + (i : Int) < B + 2
              · by_cases hr : (i : Int) % 2 = 0
                · have h2 : (B == 8 * s + 1 + (i : Int)) = true := by simp; omega
                  have hc2 : (i : Int) < ((m + 1 : Nat) : Int) * 2 := by omega
                  clear hB
                  go_wp2_with (fail)
                  go_roundw
                  case rel => exact ⟨m + 1, 1, true, by omega, .inl ⟨hc2, rfl, .inl ⟨hr, rfl⟩⟩, by go_num, by go_num, by go_num, trivial⟩
                  case measure => simp [intOf]; omega
                · have h2 : (B == 8 * s + 1 + (i : Int)) = false := by simp; omega
                  have hc2 : (i : Int) < ((m + 1 : Nat) : Int) * 2 := by omega
                  clear hB
                  go_wp2_with (fail)
                  go_roundw
                  case rel => exact ⟨m + 1, 1, false, by omega, .inl ⟨hc2, rfl, .inr ⟨hr, rfl⟩⟩, by go_num, by go_num, by go_num, trivial⟩
                  case measure => simp [intOf]; omega
              · have h2 : (B == 8 * s + 1 + (i : Int)) = false := by simp; omega
                have hc2 : ((m + 1 : Nat) : Int) * 2 ≤ (i : Int) := by omega
                clear hB
                go_wp2_with (fail)
                go_roundw
                case rel => exact ⟨m + 1, 0, false, by omega, .inr ⟨hc2, rfl, rfl⟩, by go_num, by go_num, by go_num, trivial⟩
                case measure => simp [intOf]; omega
          · have hmn : ¬ ((m : Int) < 4) := by omega
            rcases hxy with ⟨hc, rfl, hy⟩ | ⟨hc, rfl, rfl⟩
            · have HBI := Lib.hid fun w1 => HBE.out w1 (i : Int) y hi0 hii hy
              have HII := Lib.hid fun w1 => HIN.out w1 (i : Int) hi0 hii
              clear hy
              rcases y with _ | _
              all_goals
                go_wp2_with (first
                  | (go_at_call 18; ((with_reducible refine (HBI.out _).mono ?_); rintro e w5 ⟨rfl, hb⟩; have HB := Lib.hid (HB.out.trans (hb.mono HB.out.size)); clear hb))
                  | (go_at_call 16; ((with_reducible refine (HII.out _).mono ?_); rintro e w6 ⟨rfl, hb⟩; have HB := Lib.hid (HB.out.trans (hb.mono HB.out.size)); clear hb)))
                go_roundw
                case rel => exact ⟨i + 1, by omega, by go_num, HB⟩
                case measure => simp [intOf]; omega
            · omega
      · have hin : ¬ ((i : Int) < 8) := by omega
        go_wp2_with (fail)
        go_ret
        exact ⟨rfl, HBW.out.trans (HB.out.mono HBW.out.size)⟩
  · go_wp2_with (fail)
    go_loopw [30] (fun v30 wr => ∃ i : Nat, i ≤ 8 ∧ v30 = .int .i64 i ∧ Hid (Below w3.heap.size w3 wr)) (fun v30 _ => 8 - (intOf v30).toNat)
    case atStart => exact ⟨0, by omega, rfl, HB3⟩
    case round =>
      clear HB3
      obtain ⟨i, hi8, rfl, HB⟩ := hrel
      by_cases hil : i < 8
      · have hii : (i : Int) < 8 := by omega
        have hi0 : (0 : Int) ≤ (i : Int) := by omega
        obtain ⟨wo, hwo⟩ : ∃ wo : World, wo = wr := ⟨_, rfl⟩
        rw [← hwo] at HB ⊢
        clear hwo
        go_wp2_with (fail)
        go_loopw [10, 11, 41] (fun v10 v11 v41 wx => ∃ (m : Nat) (x : Int) (y : Bool), m ≤ 2 ∧ (((i : Int) < (m : Int) * 4 ∧ x = 1 ∧ (((i : Int) % 4 = 0 ∧ y = true) ∨ ((i : Int) % 4 ≠ 0 ∧ y = false))) ∨ ((m : Int) * 4 ≤ (i : Int) ∧ x = 0 ∧ y = false)) ∧ v10 = .int .i64 x ∧ v11 = .bool y ∧ v41 = .int .i64 m ∧ wx = wo) (fun _ _ v41 _ => 2 - (intOf v41).toNat)
        case atStart => exact ⟨0, 0, false, by omega, .inr ⟨by omega, rfl, rfl⟩, rfl, rfl, rfl, rfl⟩
        case round =>
          obtain ⟨m, x, y, hm, hxy, rfl, rfl, rfl, hwx⟩ := hrel
          subst hwx
          by_cases hml : m < 2
          · have hmi : (m : Int) < 2 := by omega
            have hm0 : (0 : Int) ≤ (m : Int) := by omega
            have cj := HC.out _ HB.out m hml
            obtain ⟨B, hB⟩ : ∃ B : Int, B = 8 * s + 1 + (m : Int) * 4 := ⟨_, rfl⟩
            rw [← hB] at cj
            have hb0 : 0 ≤ B := by omega
            have hb1 : B ≤ 600000 := by omega
            rcases hxy with ⟨hc, rfl, hy⟩ | ⟨hc, rfl, rfl⟩
            · have h1 : ¬ (B ≤ 8 * s + 1 + (i : Int)) := by omega
              have h2 : (B == 8 * s + 1 + (i : Int)) = false := by simp; omega
              rcases hy with ⟨hr, rfl⟩ | ⟨hr, rfl⟩
              · clear hB
                go_wp2_with (fail)
                go_roundw
                case rel => exact ⟨m + 1, 1, true, by omega, .inl ⟨by omega, rfl, .inl ⟨hr, rfl⟩⟩, by go_num, by go_num, by go_num, trivial⟩
                case measure => simp [intOf]; omega
              · clear hB
                go_wp2_with (fail)
                go_roundw
                case rel => exact ⟨m + 1, 1, false, by omega, .inl ⟨by omega, rfl, .inr ⟨hr, rfl⟩⟩, by go_num, by go_num, by go_num, trivial⟩
                case measure => simp [intOf]; omega
            · have h1 : B ≤ 8 * s + 1 + (i : Int) := by omega
              by_cases hin : 8 * s + 1 + (i : Int) < B + 4
              · by_cases hr : (i : Int) % 4 = 0
                · have h2 : (B == 8 * s + 1 + (i : Int)) = true := by simp; omega
                  have hc2 : (i : Int) < ((m + 1 : Nat) : Int) * 4 := by omega
                  clear hB
                  go_wp2_with (fail)
                  go_roundw
                  case rel => exact ⟨m + 1, 1, true, by omega, .inl ⟨hc2, rfl, .inl ⟨hr, rfl⟩⟩, by go_num, by go_num, by go_num, trivial⟩
                  case measure => simp [intOf]; omega
                · have h2 : (B == 8 * s + 1 + (i : Int)) = false := by simp; omega
                  have hc2 : (i : Int) < ((m + 1 : Nat) : Int) * 4 := by omega
                  clear hB
                  go_wp2_with (fail)
                  go_roundw
                  case rel => exact ⟨m + 1, 1, false, by omega, .inl ⟨hc2, rfl, .inr ⟨hr, rfl⟩⟩, by go_num, by go_num, by go_num, trivial⟩
                  case measure => simp [intOf]; omega
              · have h2 : (B == 8 * s + 1 + (i : Int)) = false := by simp; omega
                have hc2 : ((m + 1 : Nat) : Int) * 4 ≤ (i : Int) := by omega
                clear hB
                go_wp2_with (fail)
                go_roundw
                case rel => exact ⟨m + 1, 0, false, by omega, .inr ⟨hc2, rfl, rfl⟩, by go_num, by go_num, by go_num, trivial⟩
                case measure => simp [intOf]; omega
          · have hmn : ¬ ((m : Int) < 2) := by omega
            rcases hxy with ⟨hc, rfl, hy⟩ | ⟨hc, rfl, rfl⟩
            · have HBI := Lib.hid fun w1 => HBE.out w1 (i : Int) y hi0 hii hy
              have HII := Lib.hid fun w1 => HIN.out w1 (i : Int) hi0 hii
              clear hy
              rcases y with _ | _
              all_goals
                go_wp2_with (first
                  | (go_at_call 18; ((with_reducible refine (HBI.out _).mono ?_); rintro e w5 ⟨rfl, hb⟩; have HB := Lib.hid (HB.out.trans (hb.mono HB.out.size)); clear hb))
                  | (go_at_call 16; ((with_reducible refine (HII.out _).mono ?_); rintro e w6 ⟨rfl, hb⟩; have HB := Lib.hid (HB.out.trans (hb.mono HB.out.size)); clear hb)))
                go_roundw
                case rel => exact ⟨i + 1, by omega, by go_num, HB⟩
                case measure => simp [intOf]; omega
            · omega
      · have hin : ¬ ((i : Int) < 8) := by omega
        go_wp2_with (fail)
        go_ret
        exact ⟨rfl, HBW.out.trans (HB.out.mono HBW.out.size)⟩
  · go_wp2_with (fail)
    go_loopw [30] (fun v30 wr => ∃ i : Nat, i ≤ 8 ∧ v30 = .int .i64 i ∧ Hid (Below w3.heap.size w3 wr)) (fun v30 _ => 8 - (intOf v30).toNat)
    case atStart => exact ⟨0, by omega, rfl, HB3⟩
    case round =>
      clear HB3
      obtain ⟨i, hi8, rfl, HB⟩ := hrel
      by_cases hil : i < 8
      · have hii : (i : Int) < 8 := by omega
        have hi0 : (0 : Int) ≤ (i : Int) := by omega
        obtain ⟨wo, hwo⟩ : ∃ wo : World, wo = wr := ⟨_, rfl⟩
        rw [← hwo] at HB ⊢
        clear hwo
        go_wp2_with (fail)
        go_loopw [10, 11, 41] (fun v10 v11 v41 wx => ∃ (m : Nat) (x : Int) (y : Bool), m ≤ 1 ∧ (((i : Int) < (m : Int) * 8 ∧ x = 1 ∧ (((i : Int) % 8 = 0 ∧ y = true) ∨ ((i : Int) % 8 ≠ 0 ∧ y = false))) ∨ ((m : Int) * 8 ≤ (i : Int) ∧ x = 0 ∧ y = false)) ∧ v10 = .int .i64 x ∧ v11 = .bool y ∧ v41 = .int .i64 m ∧ wx = wo) (fun _ _ v41 _ => 1 - (intOf v41).toNat)
        case atStart => exact ⟨0, 0, false, by omega, .inr ⟨by omega, rfl, rfl⟩, rfl, rfl, rfl, rfl⟩
        case round =>
          obtain ⟨m, x, y, hm, hxy, rfl, rfl, rfl, hwx⟩ := hrel
          subst hwx
          by_cases hml : m < 1
          · have hmi : (m : Int) < 1 := by omega
            have hm0 : (0 : Int) ≤ (m : Int) := by omega
            have cj := HC.out _ HB.out m hml
            obtain ⟨B, hB⟩ : ∃ B : Int, B = 8 * s + 1 + (m : Int) * 8 := ⟨_, rfl⟩
            rw [← hB] at cj
            have hb0 : 0 ≤ B := by omega
            have hb1 : B ≤ 600000 := by omega
            rcases hxy with ⟨hc, rfl, hy⟩ | ⟨hc, rfl, rfl⟩
            · have h1 : ¬ (B ≤ 8 * s + 1 + (i : Int)) := by omega
              have h2 : (B == 8 * s + 1 + (i : Int)) = false := by simp; omega
              rcases hy with ⟨hr, rfl⟩ | ⟨hr, rfl⟩
              · clear hB
                go_wp2_with (fail)
                go_roundw
                case rel => exact ⟨m + 1, 1, true, by omega, .inl ⟨by omega, rfl, .inl ⟨hr, rfl⟩⟩, by go_num, by go_num, by go_num, trivial⟩
                case measure => simp [intOf]; omega
              · clear hB
                go_wp2_with (fail)
                go_roundw
                case rel => exact ⟨m + 1, 1, false, by omega, .inl ⟨by omega, rfl, .inr ⟨hr, rfl⟩⟩, by go_num, by go_num, by go_num, trivial⟩
                case measure => simp [intOf]; omega
            · have h1 : B ≤ 8 * s + 1 + (i : Int) := by omega
              by_cases hin : 8 * s + 1 + (i : Int) < B + 8
              · by_cases hr : (i : Int) % 8 = 0
                · have h2 : (B == 8 * s + 1 + (i : Int)) = true := by simp; omega
                  have hc2 : (i : Int) < ((m + 1 : Nat) : Int) * 8 := by omega
                  clear hB
                  go_wp2_with (fail)
                  go_roundw
                  case rel => exact ⟨m + 1, 1, true, by omega, .inl ⟨hc2, rfl, .inl ⟨hr, rfl⟩⟩, by go_num, by go_num, by go_num, trivial⟩
                  case measure => simp [intOf]; omega
                · have h2 : (B == 8 * s + 1 + (i : Int)) = false := by simp; omega
                  have hc2 : (i : Int) < ((m + 1 : Nat) : Int) * 8 := by omega
                  clear hB
                  go_wp2_with (fail)
                  go_roundw
                  case rel => exact ⟨m + 1, 1, false, by omega, .inl ⟨hc2, rfl, .inr ⟨hr, rfl⟩⟩, by go_num, by go_num, by go_num, trivial⟩
                  case measure => simp [intOf]; omega
              · have h2 : (B == 8 * s + 1 + (i : Int)) = false := by simp; omega
                have hc2 : ((m + 1 : Nat) : Int) * 8 ≤ (i : Int) := by omega
                clear hB
                go_wp2_with (fail)
                go_roundw
                case rel => exact ⟨m + 1, 0, false, by omega, .inr ⟨hc2, rfl, rfl⟩, by go_num, by go_num, by go_num, trivial⟩
                case measure => simp [intOf]; omega
          · have hmn : ¬ ((m : Int) < 1) := by omega
            rcases hxy with ⟨hc, rfl, hy⟩ | ⟨hc, rfl, rfl⟩
            · have HBI := Lib.hid fun w1 => HBE.out w1 (i : Int) y hi0 hii hy
              have HII := Lib.hid fun w1 => HIN.out w1 (i : Int) hi0 hii
              clear hy
              rcases y with _ | _
              all_goals
                go_wp2_with (first
                  | (go_at_call 18; ((with_reducible refine (HBI.out _).mono ?_); rintro e w5 ⟨rfl, hb⟩; have HB := Lib.hid (HB.out.trans (hb.mono HB.out.size)); clear hb))
                  | (go_at_call 16; ((with_reducible refine (HII.out _).mono ?_); rintro e w6 ⟨rfl, hb⟩; have HB := Lib.hid (HB.out.trans (hb.mono HB.out.size)); clear hb)))
                go_roundw
                case rel => exact ⟨i + 1, by omega, by go_num, HB⟩
                case measure => simp [intOf]; omega
            · omega
      · have hin : ¬ ((i : Int) < 8) := by omega
        go_wp2_with (fail)
        go_ret
        exact ⟨rfl, HBW.out.trans (HB.out.mono HBW.out.size)⟩
end Go.Proofs.Ytdnhlahecmfhdaa
