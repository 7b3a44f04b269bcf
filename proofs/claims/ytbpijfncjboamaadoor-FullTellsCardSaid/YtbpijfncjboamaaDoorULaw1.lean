/-
  FullTells: the walk.
-/
import Derived.Test.YtbpijfncjboamaaDoorUAlive
import Derived.Deep.LoopGhost
import Derived.Deep.RegionHeld3
import Derived.Deep.CutRange
import Derived.Deep.CutBlock
import Derived.Deep.QuietTactic
namespace Go.Proofs.YtbpijfncjboamaaDoor
set_option linter.unusedSimpArgs false
set_option linter.unusedVariables false
open Go.RowKit

set_option maxRecDepth 100000 in
set_option maxHeartbeats 8000000 in
theorem utells_at (w W0 : World) (p : PProg) (k : Int) (x x' : Option Addr) (kx kx' : Nat)
    (hW0 : W0 = w.alloc (.cells (progC (.slice x p.types.length kx) p (.slice x' p.code.length kx')) 25)) (KP : Hid (Keep W0 w.heap.size (.slice x p.types.length kx) (.slice x' p.code.length kx') p)) (HB : Hid (Below w.heap.size w W0))
    (HAL : Hid (∀ w1, Calls Tryd.prog 8 #[] w1 (AggPost w1 (.bool true))))
    (HSO : Hid (∀ w1, ProgAt w1 (.agg (progC (.slice x p.types.length kx) p (.slice x' p.code.length kx'))) p → Below w.heap.size w w1 → Calls Tryd.prog 9 #[.agg (progC (.slice x p.types.length kx) p (.slice x' p.code.length kx'))] w1 (AggPost w1 (.bool (soundB p)))))
    (g2 : kx' ≤ 9223372036854775807) (g1 : p.code.length ≤ kx')
    (HLA : Hid (soundB p = true → ∀ (w1 : World) (k : Int), ProgAt w1 (.agg (progC (.slice x p.types.length kx) p (.slice x' p.code.length kx'))) p → Calls Tryd.prog 11 #[.agg #[.slice x p.types.length kx, str p.locals, str p.globs, .slice x' p.code.length kx'], .int .i64 k] w1 (AggPost w1 (.int .i64 (lastV p k)))))
    (HLR : Hid (soundB p = true → ∀ (w1 : World) (k : Int), ProgAt w1 (.agg (progC (.slice x p.types.length kx) p (.slice x' p.code.length kx'))) p → Calls Tryd.prog 10 #[.agg #[.slice x p.types.length kx, str p.locals, str p.globs, .slice x' p.code.length kx'], .int .i64 k] w1 (AggPost w1 (.int .i64 (lastV p k)))))
    (HFU : Hid (soundB p = true → ∀ (w1 : World) (k : Int), ProgAt w1 (.agg (progC (.slice x p.types.length kx) p (.slice x' p.code.length kx'))) p → Calls Tryd.prog 12 #[.agg #[.slice x p.types.length kx, str p.locals, str p.globs, .slice x' p.code.length kx'], .int .i64 k] w1 (AggPost w1 (.bool (decide (0 ≤ lastV p k)))))) :
    Calls Tryd.prog 3 #[.agg (progC (.slice x p.types.length kx) p (.slice x' p.code.length kx')), .int .i64 k] w (AggPost w (.bool true)) := by
  go_enter Tryd.func3, Tryd.ntmps3
  go_upto_region 1 with (fail)
  rw [← hW0]
  clear hW0
  rcases hsd : soundB p with _ | _
  · rw [hsd] at HSO
    go_wp2_with (first
      | (refine wpList_loadB rfl 25 _ rfl w.heap.size (progC (.slice x p.types.length kx) p (.slice x' p.code.length kx')) rfl 25 KP.out.blk _ Tryd.underlying25 rfl prog_info ?_)
      | (go_at_call 8; ((with_reducible refine (HAL.out _).mono ?_); rintro e w1 ⟨rfl, hb⟩; have KP := Lib.hid (KP.out.below hb); have HB := Lib.hid (HB.out.trans (hb.mono HB.out.size)); clear hb))
      | (go_at_call 9; ((with_reducible refine (HSO.out _ KP.out.at' HB.out).mono ?_); rintro e w2 ⟨rfl, hb⟩; have KP := Lib.hid (KP.out.below hb); have HB := Lib.hid (HB.out.trans (hb.mono HB.out.size)); clear hb)))
    go_ret
    exact ⟨rfl, HB.out⟩
  have HLA := Lib.hid (fun w1 => HLA.out hsd w1 k)
  have HLR := Lib.hid (fun w1 => HLR.out hsd w1 k)
  have HFU := Lib.hid (fun w1 => HFU.out hsd w1 k)
  rw [hsd] at HSO
  clear hsd
  generalize lastV p k = z at HLA HLR HFU
  by_cases hz : 0 ≤ z
  · rw [decide_eq_true hz] at HFU
    go_wp2_with (first
      | (refine wpList_loadB rfl 25 _ rfl w.heap.size (progC (.slice x p.types.length kx) p (.slice x' p.code.length kx')) rfl 25 KP.out.blk _ Tryd.underlying25 rfl prog_info ?_)
      | (refine wpList_loadBw (by rfl) 25 _ rfl w.heap.size (progC (.slice x p.types.length kx) p (.slice x' p.code.length kx')) rfl 25 KP.out.blk _ Tryd.underlying25 rfl prog_info ?_)
      | (go_at_call 8; ((with_reducible refine (HAL.out _).mono ?_); rintro e w1 ⟨rfl, hb⟩; have KP := Lib.hid (KP.out.below hb); have HB := Lib.hid (HB.out.trans (hb.mono HB.out.size)); clear hb))
      | (go_at_call 9; ((with_reducible refine (HSO.out _ KP.out.at' HB.out).mono ?_); rintro e w2 ⟨rfl, hb⟩; have KP := Lib.hid (KP.out.below hb); have HB := Lib.hid (HB.out.trans (hb.mono HB.out.size)); clear hb))
      | (go_at_call 11; ((with_reducible refine (HLA.out _ KP.out.at').mono ?_); rintro e wq ⟨rfl, hb⟩; have KP := Lib.hid (KP.out.below hb); have HB := Lib.hid (HB.out.trans (hb.mono HB.out.size)); clear hb))
      | (go_at_call 10; ((with_reducible refine (HLR.out _ KP.out.at').mono ?_); rintro e wq ⟨rfl, hb⟩; have KP := Lib.hid (KP.out.below hb); have HB := Lib.hid (HB.out.trans (hb.mono HB.out.size)); clear hb))
      | (go_at_call 12; ((with_reducible refine (HFU.out _ KP.out.at').mono ?_); rintro e wq ⟨rfl, hb⟩; have KP := Lib.hid (KP.out.below hb); have HB := Lib.hid (HB.out.trans (hb.mono HB.out.size)); clear hb)))
    go_ret
    exact ⟨rfl, HB.out⟩
  · rw [decide_eq_false hz] at HFU
    have hz2 : decide (0 ≤ z) = false := decide_eq_false hz
    go_wp2_with (first
      | (refine wpList_loadB rfl 25 _ rfl w.heap.size (progC (.slice x p.types.length kx) p (.slice x' p.code.length kx')) rfl 25 KP.out.blk _ Tryd.underlying25 rfl prog_info ?_)
      | (refine wpList_loadBw (by rfl) 25 _ rfl w.heap.size (progC (.slice x p.types.length kx) p (.slice x' p.code.length kx')) rfl 25 KP.out.blk _ Tryd.underlying25 rfl prog_info ?_)
      | (go_at_call 8; ((with_reducible refine (HAL.out _).mono ?_); rintro e w1 ⟨rfl, hb⟩; have KP := Lib.hid (KP.out.below hb); have HB := Lib.hid (HB.out.trans (hb.mono HB.out.size)); clear hb))
      | (go_at_call 9; ((with_reducible refine (HSO.out _ KP.out.at' HB.out).mono ?_); rintro e w2 ⟨rfl, hb⟩; have KP := Lib.hid (KP.out.below hb); have HB := Lib.hid (HB.out.trans (hb.mono HB.out.size)); clear hb))
      | (go_at_call 11; ((with_reducible refine (HLA.out _ KP.out.at').mono ?_); rintro e wq ⟨rfl, hb⟩; have KP := Lib.hid (KP.out.below hb); have HB := Lib.hid (HB.out.trans (hb.mono HB.out.size)); clear hb))
      | (go_at_call 10; ((with_reducible refine (HLR.out _ KP.out.at').mono ?_); rintro e wq ⟨rfl, hb⟩; have KP := Lib.hid (KP.out.below hb); have HB := Lib.hid (HB.out.trans (hb.mono HB.out.size)); clear hb))
      | (go_at_call 12; ((with_reducible refine (HFU.out _ KP.out.at').mono ?_); rintro e wq ⟨rfl, hb⟩; have KP := Lib.hid (KP.out.below hb); have HB := Lib.hid (HB.out.trans (hb.mono HB.out.size)); clear hb)))
    go_ret
    exact ⟨rfl, HB.out⟩
theorem utells_walk (v : Value) (p : PProg) (k : Int) (w : World) (h : ProgAt w v p) (hs : OkP p) (ht' : HasT w) : Calls Tryd.prog 3 #[v, .int .i64 k] w fun e w' => e = .returned (.bool true) ∧ Below w.heap.size w w' := by
  obtain ⟨vt, vc, rfl, ht, hc⟩ := id h
  have hwb : Below w.heap.size w (w.alloc (.cells (progC vt p vc) 25)) := (Below.refl _ _).alloc (Nat.le_refl _) _
  have HK := keep_new h
  obtain ⟨x, c, rfl, -, -, -⟩ := id ht.elems
  obtain ⟨x', c', rfl, q1, q2, -⟩ := id hc
  unfold maxLen at q2
  exact utells_at w _ p k x x' c c' rfl (Lib.hid HK) (Lib.hid hwb) (Lib.hid fun w1 => ualive_n w1) (Lib.hid fun w1 h1 hb1 => sound_n _ p w1 _ h1 hs (ht'.below hb1) rfl) (by omega) q1 (Lib.hid fun hsd w1 k h1 => ulast_n _ p w1 k h1 hs (sound_parts hsd).2.2.1) (Lib.hid fun hsd w1 k h1 => rlast_n _ p w1 k h1 hs (sound_parts hsd).2.2.1) (Lib.hid fun hsd w1 k h1 => ufull_n _ p w1 k h1 hs (sound_parts hsd).2.2.1)
end Go.Proofs.YtbpijfncjboamaaDoor
