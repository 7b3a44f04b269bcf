/-
  FreshMore: the walk.
-/
import Derived.Test.YtfnoldopjnegfaaDoorVPU
import Derived.Deep.LoopGhost
import Derived.Deep.RegionHeld3
import Derived.Deep.CutRange
import Derived.Deep.CutBlock
import Derived.Deep.QuietTactic
namespace Go.Proofs.YtfnoldopjnegfaaDoor
set_option linter.unusedSimpArgs false
set_option linter.unusedVariables false
open Go.RowKit

set_option maxRecDepth 100000 in
set_option maxHeartbeats 8000000 in
theorem fmore_at (w W0 : World) (p : PProg) (k : Int) (a b : Nat) (x x' : Option Addr) (kx kx' : Nat)
    (hW0 : W0 = (w.alloc (.cells (progC (.slice x p.types.length kx) p (.slice x' p.code.length kx')) 25)).alloc (.cells #[.int .u8 (a : Int), .int .u8 (b : Int)] 44)) (KJ : Hid (blk W0 (w.heap.size + 1) #[.int .u8 (a : Int), .int .u8 (b : Int)] 44)) (KP : Hid (Keep W0 w.heap.size (.slice x p.types.length kx) (.slice x' p.code.length kx') p)) (HB : Hid (Below w.heap.size w W0))
    (HAL : Hid (∀ w1, Calls Tryd.prog 10 #[] w1 (AggPost w1 (.bool true))))
    (HSO : Hid (∀ w1, ProgAt w1 (.agg (progC (.slice x p.types.length kx) p (.slice x' p.code.length kx'))) p → Below w.heap.size w w1 → Calls Tryd.prog 11 #[.agg (progC (.slice x p.types.length kx) p (.slice x' p.code.length kx'))] w1 (AggPost w1 (.bool (soundB p)))))
    (g2 : kx' ≤ 9223372036854775807) (g1 : p.code.length ≤ kx') (ha : a < 256) (hb : b < 256)
    (HOU : Hid (∀ (w1 : World) (k : Int) (m : Nat), ProgAt w1 (.agg (progC (.slice x p.types.length kx) p (.slice x' p.code.length kx'))) p → m < 256 → Calls Tryd.prog 14 #[.agg #[.slice x p.types.length kx, str p.locals, str p.globs, .slice x' p.code.length kx'], .int .i64 k, .int .u8 (m : Int)] w1 (AggPost w1 (.int .u8 ((outV p k m : Nat) : Int)))))
    (HSA : Hid (∀ (w1 : World) (k : Int), ProgAt w1 (.agg (progC (.slice x p.types.length kx) p (.slice x' p.code.length kx'))) p → Calls Tryd.prog 16 #[.agg #[.slice x p.types.length kx, str p.locals, str p.globs, .slice x' p.code.length kx'], .int .i64 k] w1 (AggPost w1 (.bool (safeV p k))))) :
    Calls Tryd.prog 6 #[.agg (progC (.slice x p.types.length kx) p (.slice x' p.code.length kx')), .int .i64 k, .agg #[.int .u8 (a : Int), .int .u8 (b : Int)]] w (AggPost w (.bool true)) := by
  go_enter Tryd.func6, Tryd.ntmps6
  go_upto_region 1 with (fail)
  rw [← hW0]
  clear hW0
  rcases hsd : soundB p with _ | _
  · rw [hsd] at HSO
    go_wp2_with (first
      | (refine wpList_loadB rfl 25 _ rfl w.heap.size (progC (.slice x p.types.length kx) p (.slice x' p.code.length kx')) rfl 25 KP.out.blk _ Tryd.underlying25 rfl prog_info ?_)
      | (go_at_call 10; ((with_reducible refine (HAL.out _).mono ?_); rintro e w1 ⟨rfl, hb⟩; have KP := Lib.hid (KP.out.below hb); have HB := Lib.hid (HB.out.trans (hb.mono HB.out.size)); clear hb))
      | (go_at_call 11; ((with_reducible refine (HSO.out _ KP.out.at' HB.out).mono ?_); rintro e w2 ⟨rfl, hb⟩; have KP := Lib.hid (KP.out.below hb); have HB := Lib.hid (HB.out.trans (hb.mono HB.out.size)); clear hb)))
    go_ret
    exact ⟨rfl, HB.out⟩
  rw [hsd] at HSO
  clear hsd
  have hal := Nat.lt_of_le_of_lt (Nat.and_le_left (m := b)) ha
  have HAN := Lib.hid (and9_u8 ha hb)
  have HLE := Lib.hid (outV_mono (q := p) (k := k) (leN_and2 (x := a) (y := b)))
  go_upto_region 5 with (first
    | (refine wpList_loadB rfl 25 _ rfl w.heap.size (progC (.slice x p.types.length kx) p (.slice x' p.code.length kx')) rfl 25 KP.out.blk _ Tryd.underlying25 rfl prog_info ?_)
    | (go_at_call 10; ((with_reducible refine (HAL.out _).mono ?_); rintro e w1 ⟨rfl, hb⟩; have KJ := Lib.hid (blk_below KJ.out hb); have KP := Lib.hid (KP.out.below hb); have HB := Lib.hid (HB.out.trans (hb.mono HB.out.size)); clear hb))
    | (go_at_call 11; ((with_reducible refine (HSO.out _ KP.out.at' HB.out).mono ?_); rintro e w2 ⟨rfl, hb⟩; have KJ := Lib.hid (blk_below KJ.out hb); have KP := Lib.hid (KP.out.below hb); have HB := Lib.hid (HB.out.trans (hb.mono HB.out.size)); clear hb)))
  clear HSO HAL
  have j0 : w2.cell? ⟨w.heap.size + 1, 0, none⟩ = some (.int .u8 (a : Int)) := blk_cell KJ.out 0 _ rfl
  have j1 : w2.cell? ⟨w.heap.size + 1, 1, none⟩ = some (.int .u8 (b : Int)) := blk_cell KJ.out 1 _ rfl
  go_cut [7, 8] from 6 (fun v7 v8 wx => v7 = .int .u8 ((a &&& b : Nat) : Int) ∧ v8 = .int .u8 (b : Int) ∧ Keep wx w.heap.size (.slice x p.types.length kx) (.slice x' p.code.length kx') p ∧ Below w.heap.size w wx)
  case first =>
    go_quiet (fail)
    go_wp2
    go_meet
    exact ⟨by rw [HAN.out], rfl, KP.out.below (below8_draws (Below.refl _ _) _), below8_draws HB.out _⟩
  case rest =>
    obtain ⟨rfl, rfl, hk9, hb9⟩ := hcut
    have KP := Lib.hid hk9
    have HB := Lib.hid hb9
    clear hk9 hb9 j0 j1 KJ HAN
    have HO1 : Hid (∀ w1, ProgAt w1 (.agg (progC (.slice x p.types.length kx) p (.slice x' p.code.length kx'))) p → Calls Tryd.prog 14 #[.agg #[.slice x p.types.length kx, str p.locals, str p.globs, .slice x' p.code.length kx'], .int .i64 k, .int .u8 ((a &&& b : Nat) : Int)] w1 (AggPost w1 (.int .u8 ((outV p k (a &&& b) : Nat) : Int)))) := Lib.hid fun w1 h1 => HOU.out w1 k _ h1 hal
    have HO2 : Hid (∀ w1, ProgAt w1 (.agg (progC (.slice x p.types.length kx) p (.slice x' p.code.length kx'))) p → Calls Tryd.prog 14 #[.agg #[.slice x p.types.length kx, str p.locals, str p.globs, .slice x' p.code.length kx'], .int .i64 k, .int .u8 (b : Int)] w1 (AggPost w1 (.int .u8 ((outV p k b : Nat) : Int)))) := Lib.hid fun w1 h1 => HOU.out w1 k b h1 hb
    have HS1 : Hid (∀ w1, ProgAt w1 (.agg (progC (.slice x p.types.length kx) p (.slice x' p.code.length kx'))) p → Calls Tryd.prog 16 #[.agg #[.slice x p.types.length kx, str p.locals, str p.globs, .slice x' p.code.length kx'], .int .i64 k] w1 (AggPost w1 (.bool (safeV p k)))) := Lib.hid fun w1 h1 => HSA.out w1 k h1
    have hra : outV p k (a &&& b) < 256 := outV_lt hal
    have hrb : outV p k b < 256 := outV_lt hb
    have HEQ : Hid (¬ (k < 0 ∨ (p.code.length : Int) ≤ k) → safeV p k = true → outV p k (a &&& b) = outV p k b) := Lib.hid fun h1 h2 => outV_safe h1 (by unfold safeV at h2; simp only [Bool.and_eq_true] at h2; exact h2.2)
    have e1 : (bits .andNot .u8 ((outV p k (a &&& b) : Nat) : Int) ((outV p k b : Nat) : Int) != 0) = false := by rw [but_u8 hra hrb, but_le HLE.out]; rfl
    generalize outV p k (a &&& b) = rx at HO1 HEQ e1
    generalize outV p k b = ry at HO2 HEQ e1
    generalize a &&& b = xa at HO1 ⊢
    clear HOU HSA HLE hra hrb hal
    obtain ⟨p0, p1, p2, p3⟩ := KP.out.cells
    go_upto_region 6 with (fail)
    have KP := Lib.hid (KP.out.below (Below.refl _ _).drew)
    have HB := Lib.hid (HB.out.trans ((Below.refl _ _).drew.mono HB.out.size))
    go_region_held3 (fun w' => w'.cell? ⟨w.heap.size, 0, none⟩ = some (.slice x p.types.length kx) ∧ w'.cell? ⟨w.heap.size, 1, none⟩ = some (str p.locals) ∧ w'.cell? ⟨w.heap.size, 2, none⟩ = some (str p.globs) ∧ w'.cell? ⟨w.heap.size, 3, none⟩ = some (.slice x' p.code.length kx')) (go_keep) (first
      | (go_at_call 14; ((with_reducible refine (HO1.out _ KP.out.at').mono ?_); rintro e wq ⟨rfl, hb⟩; have KP := Lib.hid (KP.out.below hb); have HB := Lib.hid (HB.out.trans (hb.mono HB.out.size)); clear hb p0 p1 p2 p3; obtain ⟨p0, p1, p2, p3⟩ := KP.out.cells))
      | (go_at_call 14; ((with_reducible refine (HO2.out _ KP.out.at').mono ?_); rintro e wq ⟨rfl, hb⟩; have KP := Lib.hid (KP.out.below hb); have HB := Lib.hid (HB.out.trans (hb.mono HB.out.size)); clear hb p0 p1 p2 p3; obtain ⟨p0, p1, p2, p3⟩ := KP.out.cells)))
    all_goals
      clear p0 p1 p2 HO1 HO2
      by_cases hk : k < 0 ∨ (p.code.length : Int) ≤ k
      · clear HEQ HS1
        rcases Int.lt_or_le k 0 with hk0 | hk0
        · clear hk
          go_wp2
          go_ret
          exact ⟨rfl, HB.out⟩
        · have hk1 : (p.code.length : Int) ≤ k := by omega
          have hk2 : ¬ (k < 0) := by omega
          clear hk
          go_wp2
          go_ret
          exact ⟨rfl, HB.out⟩
      · have hk0 : ¬ (k < 0) := by omega
        have hk1 : ¬ ((p.code.length : Int) ≤ k) := by omega
        rcases hsv : safeV p k with _ | _
        · rw [hsv] at HS1
          clear hk HEQ hsv
          go_wp2_with (first
            | (refine wpList_loadB rfl 25 _ rfl w.heap.size (progC (.slice x p.types.length kx) p (.slice x' p.code.length kx')) rfl 25 KP.out.blk _ Tryd.underlying25 rfl prog_info ?_)
            | (refine wpList_loadBw (by rfl) 25 _ rfl w.heap.size (progC (.slice x p.types.length kx) p (.slice x' p.code.length kx')) rfl 25 KP.out.blk _ Tryd.underlying25 rfl prog_info ?_)
            | (go_at_call 16; ((with_reducible refine (HS1.out _ KP.out.at').mono ?_); rintro e wz ⟨rfl, hb⟩; have KP := Lib.hid (KP.out.below hb); have HB := Lib.hid (HB.out.trans (hb.mono HB.out.size)); clear hb p3)))
          go_ret
          exact ⟨rfl, HB.out⟩
        · have h9 := HEQ.out hk hsv
          rw [hsv] at HS1
          subst h9
          clear hk HEQ hsv
          go_wp2_with (first
            | (refine wpList_loadB rfl 25 _ rfl w.heap.size (progC (.slice x p.types.length kx) p (.slice x' p.code.length kx')) rfl 25 KP.out.blk _ Tryd.underlying25 rfl prog_info ?_)
            | (refine wpList_loadBw (by rfl) 25 _ rfl w.heap.size (progC (.slice x p.types.length kx) p (.slice x' p.code.length kx')) rfl 25 KP.out.blk _ Tryd.underlying25 rfl prog_info ?_)
            | (go_at_call 16; ((with_reducible refine (HS1.out _ KP.out.at').mono ?_); rintro e wz ⟨rfl, hb⟩; have KP := Lib.hid (KP.out.below hb); have HB := Lib.hid (HB.out.trans (hb.mono HB.out.size)); clear hb p3)))
          go_ret
          exact ⟨rfl, HB.out⟩
theorem fmore_walk (v : Value) (p : PProg) (k : Int) (a b : Nat) (w : World) (h : ProgAt w v p) (hs : OkP p) (ha : a < 256) (hb : b < 256) (ht' : HasT w) : Calls Tryd.prog 6 #[v, .int .i64 k, .agg #[.int .u8 (a : Int), .int .u8 (b : Int)]] w fun e w' => e = .returned (.bool true) ∧ Below w.heap.size w w' := by
  obtain ⟨vt, vc, rfl, ht, hc⟩ := id h
  have hwb : Below w.heap.size w (w.alloc (.cells (progC vt p vc) 25)) := (Below.refl _ _).alloc (Nat.le_refl _) _
  have HK := keep_new h
  obtain ⟨x, c, rfl, -, -, -⟩ := id ht.elems
  obtain ⟨x', c', rfl, q1, q2, -⟩ := id hc
  unfold maxLen at q2
  have hwb2 : Below (w.alloc (.cells (progC (.slice x p.types.length c) p (.slice x' p.code.length c')) 25)).heap.size (w.alloc (.cells (progC (.slice x p.types.length c) p (.slice x' p.code.length c')) 25)) ((w.alloc (.cells (progC (.slice x p.types.length c) p (.slice x' p.code.length c')) 25)).alloc (.cells #[.int .u8 (a : Int), .int .u8 (b : Int)] 44)) := (Below.refl _ _).alloc (Nat.le_refl _) _
  have hI : (w.alloc (.cells (progC (.slice x p.types.length c) p (.slice x' p.code.length c')) 25)).heap.size = w.heap.size + 1 := World.size_alloc _ _
  exact fmore_at w _ p k a b x x' c c' rfl (Lib.hid (by rw [← hI]; exact blk_new _ _ _)) (Lib.hid (HK.below hwb2)) (Lib.hid (hwb.trans (hwb2.mono hwb.size))) (Lib.hid fun w1 => yalive_n w1) (Lib.hid fun w1 h1 hb1 => sound_n _ p w1 _ h1 hs (ht'.below hb1) rfl) (by omega) q1 ha hb (Lib.hid fun w1 k m h1 hm => yout_n _ p w1 k m h1 hs.ins hm) (Lib.hid fun w1 k h1 => rsafe_n _ p w1 k _ h1 rfl)
end Go.Proofs.YtfnoldopjnegfaaDoor
