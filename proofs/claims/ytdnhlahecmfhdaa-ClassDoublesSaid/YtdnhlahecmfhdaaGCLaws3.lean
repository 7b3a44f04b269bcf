/-
  ClassDoubles: the walk.
-/
import Derived.Test.YtdnhlahecmfhdaaGCLaws2
namespace Go.Proofs.Ytdnhlahecmfhdaa
open Go.RowKit

set_option maxRecDepth 100000 in
set_option maxHeartbeats 8000000 in
theorem gcdoubles_n (c s : Int) (w : World) (c0 : 0 ≤ c) (c1 : c ≤ 255) (s0 : 0 ≤ s) (s1 : s ≤ 255) : Calls Try.prog 6 #[.int .u8 c, .int .u8 s] w (AggPost w (.bool true)) := by
  have HAL := Lib.hid fun w1 => gcalive_n w1
  have HB := Lib.hid (Below.refl w.heap.size w)
  go_enter Try.func6, Try.ntmps6
  go_upto_region 4 with (go_at_call 8; ((with_reducible refine (HAL.out _).mono ?_); rintro e w1 ⟨rfl, hb⟩; have HB := Lib.hid (HB.out.trans (hb.mono HB.out.size)); clear hb))
  clear HAL
  have hk : c % 3 = 0 ∨ c % 3 = 1 ∨ c % 3 = 2 := by omega
  generalize c % 3 = k at hk ⊢
  rcases hk with rfl | rfl | rfl
  · have HW := Lib.hid fun w1 => clwords_n 0 w1 (by decide) (by decide)
    have HW2 := Lib.hid fun w1 => clwords_n 1 w1 (by decide) (by decide)
    rw [show wordsZ 0 = 1 by decide] at HW
    rw [show wordsZ 1 = 2 by decide] at HW2
    have H1 := Lib.hid fun w1 => clblocks_n s 0 w1 (by omega) (by omega) (by decide) (by decide)
    have H2 := Lib.hid fun w1 => clblocks_n s 1 w1 (by omega) (by omega) (by decide) (by decide)
    rw [blocks_at (w := 1) (by decide) (by decide) s0 (by omega), cuts_1] at H1
    rw [blocks_at (w := 2) (by decide) (by decide) s0 (by omega), cuts_2] at H2
    have HBE : Hid (∀ w1 ptr, (ptr = 8 * s + 1 ∨ ptr = 8 * s + 3 ∨ ptr = 8 * s + 5 ∨ ptr = 8 * s + 7) → Calls Try.prog 18 #[.int .i64 ptr, .int .i64 0] w1 (AggPost w1 (.bool true))) := Lib.hid fun w1 ptr hp => by
      have h := clbegins_n ptr 0 w1 (by omega) (by omega) (by decide) (by decide)
      rw [show beginsZ ptr 0 = true by unfold beginsZ; rw [show wordsZ 0 = 1 by decide, decide_eq_true (show 1 ≤ ptr by omega), decide_eq_true (show (0 : Int) < 1 by decide), decide_eq_true (show (ptr - 1) % 8 % 1 = 0 by omega)]; rfl] at h
      exact h
    go_upto_region 5 with (first
      | (go_at_call 14; ((with_reducible refine (H1.out _).mono ?_); rintro e w3 ⟨v3, rfl, hr, hb⟩; have HB := Lib.hid (HB.out.trans (hb.mono HB.out.size)); obtain ⟨ba, oa, ca, rfl, hl1, hl2, hblt, hcell⟩ := rowA_cells hr (n := 8) rfl (by decide); have HCA : Hid (∀ wr, Below w3.heap.size w3 wr → wr.cell? ⟨ba, oa, none⟩ = some (.int .i64 (8 * s + 1)) ∧ wr.cell? ⟨ba, oa + 1, none⟩ = some (.int .i64 (8 * s + 2)) ∧ wr.cell? ⟨ba, oa + 2, none⟩ = some (.int .i64 (8 * s + 3)) ∧ wr.cell? ⟨ba, oa + 3, none⟩ = some (.int .i64 (8 * s + 4)) ∧ wr.cell? ⟨ba, oa + 4, none⟩ = some (.int .i64 (8 * s + 5)) ∧ wr.cell? ⟨ba, oa + 5, none⟩ = some (.int .i64 (8 * s + 6)) ∧ wr.cell? ⟨ba, oa + 6, none⟩ = some (.int .i64 (8 * s + 7)) ∧ wr.cell? ⟨ba, oa + 7, none⟩ = some (.int .i64 (8 * s + 8))) := Lib.hid fun wr hbw => (by have hx := fun j : Nat => (bcell hbw).1 ba (oa + j) hblt; exact ⟨(hx 0).trans (hcell 0 _ rfl), (hx 1).trans (hcell 1 _ rfl), (hx 2).trans (hcell 2 _ rfl), (hx 3).trans (hcell 3 _ rfl), (hx 4).trans (hcell 4 _ rfl), (hx 5).trans (hcell 5 _ rfl), (hx 6).trans (hcell 6 _ rfl), (hx 7).trans (hcell 7 _ rfl)⟩); clear hr hb hblt hcell))
      | (go_at_call 14; ((with_reducible refine (H2.out _).mono ?_); rintro e w4 ⟨v4, rfl, hr, hb⟩; have HB := Lib.hid (HB.out.trans (hb.mono HB.out.size)); have HB34 := Lib.hid hb; obtain ⟨bb, ob, cb, rfl, hm1, hm2, hblt, hcell⟩ := rowA_cells hr (n := 4) rfl (by decide); have HCB : Hid (∀ wr, Below w4.heap.size w4 wr → wr.cell? ⟨bb, ob, none⟩ = some (.int .i64 (8 * s + 1)) ∧ wr.cell? ⟨bb, ob + 1, none⟩ = some (.int .i64 (8 * s + 3)) ∧ wr.cell? ⟨bb, ob + 2, none⟩ = some (.int .i64 (8 * s + 5)) ∧ wr.cell? ⟨bb, ob + 3, none⟩ = some (.int .i64 (8 * s + 7))) := Lib.hid fun wr hbw => (by have hx := fun j : Nat => (bcell hbw).1 bb (ob + j) hblt; exact ⟨(hx 0).trans (hcell 0 _ rfl), (hx 1).trans (hcell 1 _ rfl), (hx 2).trans (hcell 2 _ rfl), (hx 3).trans (hcell 3 _ rfl)⟩); clear hr hb hblt hcell)))
    clear H1 H2
    have HB4 := Lib.hid (Below.refl w4.heap.size w4)
    go_wp2_with (first
      | (go_at_call 11; ((with_reducible refine (HW.out _).mono ?_); rintro e w5 ⟨rfl, hb⟩; have HB4 := Lib.hid (HB4.out.trans (hb.mono HB4.out.size)); clear hb))
      | (go_at_call 11; ((with_reducible refine (HW2.out _).mono ?_); rintro e w6 ⟨rfl, hb⟩; have HB4 := Lib.hid (HB4.out.trans (hb.mono HB4.out.size)); clear hb)))
    clear HW HW2
    go_loopw [41] (fun v41 wr => ∃ z : Int, (z = 0 ∨ z = 1 ∨ z = 2 ∨ z = 3 ∨ z = 4) ∧ v41 = .int .i64 z ∧ Hid (Below w4.heap.size w4 wr)) (fun v41 _ => 4 - (intOf v41).toNat)
    case atStart => exact ⟨0, by omega, rfl, HB4⟩
    case round =>
      clear HB4
      obtain ⟨z, hz, rfl, HB4⟩ := hrel
      obtain ⟨ca0, ca1, ca2, ca3, ca4, ca5, ca6, ca7⟩ := HCA.out _ (HB34.out.trans (HB4.out.mono HB34.out.size))
      obtain ⟨cb0, cb1, cb2, cb3⟩ := HCB.out _ HB4.out
      rcases hz with rfl | rfl | rfl | rfl | rfl
      · go_wp2_with (go_at_call 18; ((with_reducible refine (HBE.out _ _ (by omega)).mono ?_); rintro e w7 ⟨rfl, hb⟩; have HB4 := Lib.hid (HB4.out.trans (hb.mono HB4.out.size)); clear hb))
        go_roundw
        case rel => exact ⟨1, by omega, by go_num, HB4⟩
        case measure => simp [intOf]
      · go_wp2_with (go_at_call 18; ((with_reducible refine (HBE.out _ _ (by omega)).mono ?_); rintro e w7 ⟨rfl, hb⟩; have HB4 := Lib.hid (HB4.out.trans (hb.mono HB4.out.size)); clear hb))
        go_roundw
        case rel => exact ⟨2, by omega, by go_num, HB4⟩
        case measure => simp [intOf]
      · go_wp2_with (go_at_call 18; ((with_reducible refine (HBE.out _ _ (by omega)).mono ?_); rintro e w7 ⟨rfl, hb⟩; have HB4 := Lib.hid (HB4.out.trans (hb.mono HB4.out.size)); clear hb))
        go_roundw
        case rel => exact ⟨3, by omega, by go_num, HB4⟩
        case measure => simp [intOf]
      · go_wp2_with (go_at_call 18; ((with_reducible refine (HBE.out _ _ (by omega)).mono ?_); rintro e w7 ⟨rfl, hb⟩; have HB4 := Lib.hid (HB4.out.trans (hb.mono HB4.out.size)); clear hb))
        go_roundw
        case rel => exact ⟨4, by omega, by go_num, HB4⟩
        case measure => simp [intOf]
      · go_wp2_with (fail)
        go_ret
        exact ⟨rfl, HB.out.trans (HB4.out.mono HB.out.size)⟩
  · have HW := Lib.hid fun w1 => clwords_n 1 w1 (by decide) (by decide)
    have HW2 := Lib.hid fun w1 => clwords_n 2 w1 (by decide) (by decide)
    rw [show wordsZ 1 = 2 by decide] at HW
    rw [show wordsZ 2 = 4 by decide] at HW2
    have H1 := Lib.hid fun w1 => clblocks_n s 1 w1 (by omega) (by omega) (by decide) (by decide)
    have H2 := Lib.hid fun w1 => clblocks_n s 2 w1 (by omega) (by omega) (by decide) (by decide)
    rw [blocks_at (w := 2) (by decide) (by decide) s0 (by omega), cuts_2] at H1
    rw [blocks_at (w := 4) (by decide) (by decide) s0 (by omega), cuts_4] at H2
    have HBE : Hid (∀ w1 ptr, (ptr = 8 * s + 1 ∨ ptr = 8 * s + 5) → Calls Try.prog 18 #[.int .i64 ptr, .int .i64 1] w1 (AggPost w1 (.bool true))) := Lib.hid fun w1 ptr hp => by
      have h := clbegins_n ptr 1 w1 (by omega) (by omega) (by decide) (by decide)
      rw [show beginsZ ptr 1 = true by unfold beginsZ; rw [show wordsZ 1 = 2 by decide, decide_eq_true (show 1 ≤ ptr by omega), decide_eq_true (show (0 : Int) < 2 by decide), decide_eq_true (show (ptr - 1) % 8 % 2 = 0 by omega)]; rfl] at h
      exact h
    go_upto_region 5 with (first
      | (go_at_call 14; ((with_reducible refine (H1.out _).mono ?_); rintro e w3 ⟨v3, rfl, hr, hb⟩; have HB := Lib.hid (HB.out.trans (hb.mono HB.out.size)); obtain ⟨ba, oa, ca, rfl, hl1, hl2, hblt, hcell⟩ := rowA_cells hr (n := 4) rfl (by decide); have HCA : Hid (∀ wr, Below w3.heap.size w3 wr → wr.cell? ⟨ba, oa, none⟩ = some (.int .i64 (8 * s + 1)) ∧ wr.cell? ⟨ba, oa + 1, none⟩ = some (.int .i64 (8 * s + 3)) ∧ wr.cell? ⟨ba, oa + 2, none⟩ = some (.int .i64 (8 * s + 5)) ∧ wr.cell? ⟨ba, oa + 3, none⟩ = some (.int .i64 (8 * s + 7))) := Lib.hid fun wr hbw => (by have hx := fun j : Nat => (bcell hbw).1 ba (oa + j) hblt; exact ⟨(hx 0).trans (hcell 0 _ rfl), (hx 1).trans (hcell 1 _ rfl), (hx 2).trans (hcell 2 _ rfl), (hx 3).trans (hcell 3 _ rfl)⟩); clear hr hb hblt hcell))
      | (go_at_call 14; ((with_reducible refine (H2.out _).mono ?_); rintro e w4 ⟨v4, rfl, hr, hb⟩; have HB := Lib.hid (HB.out.trans (hb.mono HB.out.size)); have HB34 := Lib.hid hb; obtain ⟨bb, ob, cb, rfl, hm1, hm2, hblt, hcell⟩ := rowA_cells hr (n := 2) rfl (by decide); have HCB : Hid (∀ wr, Below w4.heap.size w4 wr → wr.cell? ⟨bb, ob, none⟩ = some (.int .i64 (8 * s + 1)) ∧ wr.cell? ⟨bb, ob + 1, none⟩ = some (.int .i64 (8 * s + 5))) := Lib.hid fun wr hbw => (by have hx := fun j : Nat => (bcell hbw).1 bb (ob + j) hblt; exact ⟨(hx 0).trans (hcell 0 _ rfl), (hx 1).trans (hcell 1 _ rfl)⟩); clear hr hb hblt hcell)))
    clear H1 H2
    have HB4 := Lib.hid (Below.refl w4.heap.size w4)
    go_wp2_with (first
      | (go_at_call 11; ((with_reducible refine (HW.out _).mono ?_); rintro e w5 ⟨rfl, hb⟩; have HB4 := Lib.hid (HB4.out.trans (hb.mono HB4.out.size)); clear hb))
      | (go_at_call 11; ((with_reducible refine (HW2.out _).mono ?_); rintro e w6 ⟨rfl, hb⟩; have HB4 := Lib.hid (HB4.out.trans (hb.mono HB4.out.size)); clear hb)))
    clear HW HW2
    go_loopw [41] (fun v41 wr => ∃ z : Int, (z = 0 ∨ z = 1 ∨ z = 2) ∧ v41 = .int .i64 z ∧ Hid (Below w4.heap.size w4 wr)) (fun v41 _ => 2 - (intOf v41).toNat)
    case atStart => exact ⟨0, by omega, rfl, HB4⟩
    case round =>
      clear HB4
      obtain ⟨z, hz, rfl, HB4⟩ := hrel
      obtain ⟨ca0, ca1, ca2, ca3⟩ := HCA.out _ (HB34.out.trans (HB4.out.mono HB34.out.size))
      obtain ⟨cb0, cb1⟩ := HCB.out _ HB4.out
      rcases hz with rfl | rfl | rfl
      · go_wp2_with (go_at_call 18; ((with_reducible refine (HBE.out _ _ (by omega)).mono ?_); rintro e w7 ⟨rfl, hb⟩; have HB4 := Lib.hid (HB4.out.trans (hb.mono HB4.out.size)); clear hb))
        go_roundw
        case rel => exact ⟨1, by omega, by go_num, HB4⟩
        case measure => simp [intOf]
      · go_wp2_with (go_at_call 18; ((with_reducible refine (HBE.out _ _ (by omega)).mono ?_); rintro e w7 ⟨rfl, hb⟩; have HB4 := Lib.hid (HB4.out.trans (hb.mono HB4.out.size)); clear hb))
        go_roundw
        case rel => exact ⟨2, by omega, by go_num, HB4⟩
        case measure => simp [intOf]
      · go_wp2_with (fail)
        go_ret
        exact ⟨rfl, HB.out.trans (HB4.out.mono HB.out.size)⟩
  · have HW := Lib.hid fun w1 => clwords_n 2 w1 (by decide) (by decide)
    have HW2 := Lib.hid fun w1 => clwords_n 3 w1 (by decide) (by decide)
    rw [show wordsZ 2 = 4 by decide] at HW
    rw [show wordsZ 3 = 8 by decide] at HW2
    have H1 := Lib.hid fun w1 => clblocks_n s 2 w1 (by omega) (by omega) (by decide) (by decide)
    have H2 := Lib.hid fun w1 => clblocks_n s 3 w1 (by omega) (by omega) (by decide) (by decide)
    rw [blocks_at (w := 4) (by decide) (by decide) s0 (by omega), cuts_4] at H1
    rw [blocks_at (w := 8) (by decide) (by decide) s0 (by omega), cuts_8] at H2
    have HBE : Hid (∀ w1 ptr, (ptr = 8 * s + 1) → Calls Try.prog 18 #[.int .i64 ptr, .int .i64 2] w1 (AggPost w1 (.bool true))) := Lib.hid fun w1 ptr hp => by
      have h := clbegins_n ptr 2 w1 (by omega) (by omega) (by decide) (by decide)
      rw [show beginsZ ptr 2 = true by unfold beginsZ; rw [show wordsZ 2 = 4 by decide, decide_eq_true (show 1 ≤ ptr by omega), decide_eq_true (show (0 : Int) < 4 by decide), decide_eq_true (show (ptr - 1) % 8 % 4 = 0 by omega)]; rfl] at h
      exact h
    go_upto_region 5 with (first
      | (go_at_call 14; ((with_reducible refine (H1.out _).mono ?_); rintro e w3 ⟨v3, rfl, hr, hb⟩; have HB := Lib.hid (HB.out.trans (hb.mono HB.out.size)); obtain ⟨ba, oa, ca, rfl, hl1, hl2, hblt, hcell⟩ := rowA_cells hr (n := 2) rfl (by decide); have HCA : Hid (∀ wr, Below w3.heap.size w3 wr → wr.cell? ⟨ba, oa, none⟩ = some (.int .i64 (8 * s + 1)) ∧ wr.cell? ⟨ba, oa + 1, none⟩ = some (.int .i64 (8 * s + 5))) := Lib.hid fun wr hbw => (by have hx := fun j : Nat => (bcell hbw).1 ba (oa + j) hblt; exact ⟨(hx 0).trans (hcell 0 _ rfl), (hx 1).trans (hcell 1 _ rfl)⟩); clear hr hb hblt hcell))
      | (go_at_call 14; ((with_reducible refine (H2.out _).mono ?_); rintro e w4 ⟨v4, rfl, hr, hb⟩; have HB := Lib.hid (HB.out.trans (hb.mono HB.out.size)); have HB34 := Lib.hid hb; obtain ⟨bb, ob, cb, rfl, hm1, hm2, hblt, hcell⟩ := rowA_cells hr (n := 1) rfl (by decide); have HCB : Hid (∀ wr, Below w4.heap.size w4 wr → wr.cell? ⟨bb, ob, none⟩ = some (.int .i64 (8 * s + 1))) := Lib.hid fun wr hbw => (by have hx := fun j : Nat => (bcell hbw).1 bb (ob + j) hblt; exact (hx 0).trans (hcell 0 _ rfl)); clear hr hb hblt hcell)))
    clear H1 H2
    have HB4 := Lib.hid (Below.refl w4.heap.size w4)
    go_wp2_with (first
      | (go_at_call 11; ((with_reducible refine (HW.out _).mono ?_); rintro e w5 ⟨rfl, hb⟩; have HB4 := Lib.hid (HB4.out.trans (hb.mono HB4.out.size)); clear hb))
      | (go_at_call 11; ((with_reducible refine (HW2.out _).mono ?_); rintro e w6 ⟨rfl, hb⟩; have HB4 := Lib.hid (HB4.out.trans (hb.mono HB4.out.size)); clear hb)))
    clear HW HW2
    go_loopw [41] (fun v41 wr => ∃ z : Int, (z = 0 ∨ z = 1) ∧ v41 = .int .i64 z ∧ Hid (Below w4.heap.size w4 wr)) (fun v41 _ => 1 - (intOf v41).toNat)
    case atStart => exact ⟨0, by omega, rfl, HB4⟩
    case round =>
      clear HB4
      obtain ⟨z, hz, rfl, HB4⟩ := hrel
      obtain ⟨ca0, ca1⟩ := HCA.out _ (HB34.out.trans (HB4.out.mono HB34.out.size))
      have cb0 := HCB.out _ HB4.out
      rcases hz with rfl | rfl
      · go_wp2_with (go_at_call 18; ((with_reducible refine (HBE.out _ _ (by omega)).mono ?_); rintro e w7 ⟨rfl, hb⟩; have HB4 := Lib.hid (HB4.out.trans (hb.mono HB4.out.size)); clear hb))
        go_roundw
        case rel => exact ⟨1, by omega, by go_num, HB4⟩
        case measure => simp [intOf]
      · go_wp2_with (fail)
        go_ret
        exact ⟨rfl, HB.out.trans (HB4.out.mono HB.out.size)⟩
end Go.Proofs.Ytdnhlahecmfhdaa
