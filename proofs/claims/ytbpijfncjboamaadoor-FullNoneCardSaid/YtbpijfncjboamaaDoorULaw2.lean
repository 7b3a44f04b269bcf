/-
  FullNone: the walk.
-/
import Derived.Test.YtbpijfncjboamaaDoorUAlive
import Derived.Deep.LoopGhost
import Derived.Deep.RegionHeld3
import Derived.Deep.CutRange
import Derived.Deep.CutBlock
import Derived.Deep.QuietTactic
namespace Go.Proofs.YtbpijfncjboamaaDoor
set_option linter.unusedSimpArgs false
set_option linter.unusedVariables false
open Go.RowKit

set_option maxRecDepth 100000 in
set_option maxHeartbeats 8000000 in
theorem unone_at (w W0 : World) (p : PProg) (a0 : Nat) (x x' : Option Addr) (kx kx' : Nat)
    (hW0 : W0 = w.alloc (.cells (progC (.slice x p.types.length kx) p (.slice x' p.code.length kx')) 25)) (KP : Hid (Keep W0 w.heap.size (.slice x p.types.length kx) (.slice x' p.code.length kx') p)) (HB : Hid (Below w.heap.size w W0))
    (HAL : Hid (∀ w1, Calls Tryd.prog 8 #[] w1 (AggPost w1 (.bool true))))
    (HSO : Hid (∀ w1, ProgAt w1 (.agg (progC (.slice x p.types.length kx) p (.slice x' p.code.length kx'))) p → Below w.heap.size w w1 → Calls Tryd.prog 9 #[.agg (progC (.slice x p.types.length kx) p (.slice x' p.code.length kx'))] w1 (AggPost w1 (.bool (soundB p)))))
    (g2 : kx' ≤ 9223372036854775807) (g1 : p.code.length ≤ kx') (ha0 : a0 ≤ 255)
    (HLA : Hid (soundB p = true → ∀ (w1 : World) (k : Int), ProgAt w1 (.agg (progC (.slice x p.types.length kx) p (.slice x' p.code.length kx'))) p → Calls Tryd.prog 11 #[.agg #[.slice x p.types.length kx, str p.locals, str p.globs, .slice x' p.code.length kx'], .int .i64 k] w1 (AggPost w1 (.int .i64 (lastV p k)))))
    (HFU : Hid (soundB p = true → ∀ (w1 : World) (k : Int), ProgAt w1 (.agg (progC (.slice x p.types.length kx) p (.slice x' p.code.length kx'))) p → Calls Tryd.prog 12 #[.agg #[.slice x p.types.length kx, str p.locals, str p.globs, .slice x' p.code.length kx'], .int .i64 k] w1 (AggPost w1 (.bool (decide (0 ≤ lastV p k))))))
    (HSA : Hid (∀ (w1 : World) (k : Int), ProgAt w1 (.agg (progC (.slice x p.types.length kx) p (.slice x' p.code.length kx'))) p → Calls Tryd.prog 13 #[.agg #[.slice x p.types.length kx, str p.locals, str p.globs, .slice x' p.code.length kx'], .int .i64 k] w1 (AggPost w1 (.bool (safeV p k))))) :
    Calls Tryd.prog 7 #[.agg (progC (.slice x p.types.length kx) p (.slice x' p.code.length kx')), .int .u8 a0] w (AggPost w (.bool true)) := by
  go_enter Tryd.func7, Tryd.ntmps7
  go_upto_region 1 with (fail)
  rw [← hW0]
  clear hW0
  rcases hsd : soundB p with _ | _
  · rw [hsd] at HSO
    go_wp2_with (first
      | (refine wpList_loadB rfl 25 _ rfl w.heap.size (progC (.slice x p.types.length kx) p (.slice x' p.code.length kx')) rfl 25 KP.out.blk _ Tryd.underlying25 rfl prog_info ?_)
      | (go_at_call 8; ((with_reducible refine (HAL.out _).mono ?_); rintro e w1 ⟨rfl, hb⟩; have KP := Lib.hid (KP.out.below hb); have HB := Lib.hid (HB.out.trans (hb.mono HB.out.size)); clear hb))
      | (go_at_call 9; ((with_reducible refine (HSO.out _ KP.out.at' HB.out).mono ?_); rintro e w2 ⟨rfl, hb⟩; have KP := Lib.hid (KP.out.below hb); have HB := Lib.hid (HB.out.trans (hb.mono HB.out.size)); clear hb)))
    go_ret
    exact ⟨rfl, HB.out⟩
  obtain ⟨hfw, hl60, hck, hin0, hl1⟩ := sound_parts hsd
  have HCK := Lib.hid hck
  have HLA := Lib.hid (HLA.out hsd)
  have HFU := Lib.hid (HFU.out hsd)
  rw [hsd] at HSO
  clear hin0 hck hsd
  go_upto_region 5 with (first
    | (refine wpList_loadB rfl 25 _ rfl w.heap.size (progC (.slice x p.types.length kx) p (.slice x' p.code.length kx')) rfl 25 KP.out.blk _ Tryd.underlying25 rfl prog_info ?_)
    | (go_at_call 8; ((with_reducible refine (HAL.out _).mono ?_); rintro e w1 ⟨rfl, hb⟩; have KP := Lib.hid (KP.out.below hb); have HB := Lib.hid (HB.out.trans (hb.mono HB.out.size)); clear hb))
    | (go_at_call 9; ((with_reducible refine (HSO.out _ KP.out.at' HB.out).mono ?_); rintro e w2 ⟨rfl, hb⟩; have KP := Lib.hid (KP.out.below hb); have HB := Lib.hid (HB.out.trans (hb.mono HB.out.size)); clear hb)))
  clear HSO HAL
  have hz : ((p.code.length : Int) == 0) = false := by simp; intro h; rw [h] at hl1; simp at hl1
  have hz' : ¬ ((p.code.length : Int) = 0) := by omega
  have p3 := KP.out.cells.2.2.2
  go_upto_region 6 with (fail)
  obtain ⟨m, hm, hmm⟩ : ∃ m : Nat, m < p.code.length ∧ (a0 : Int) % (p.code.length : Int) = m := ⟨a0 % p.code.length, Nat.mod_lt a0 (by omega), rfl⟩
  rw [hmm]
  clear hmm hz hz'
  have hmi : (m : Int) < (p.code.length : Int) := by omega
  have hm0 : (0 : Int) ≤ (m : Int) := by omega
  obtain ⟨i, hi⟩ : ∃ i, p.code[m]? = some i := ⟨_, List.getElem?_eq_getElem hm⟩
  have HLM : Hid (∀ w1, ProgAt w1 (.agg (progC (.slice x p.types.length kx) p (.slice x' p.code.length kx'))) p → Calls Tryd.prog 11 #[.agg #[.slice x p.types.length kx, str p.locals, str p.globs, .slice x' p.code.length kx'], .int .i64 m] w1 (AggPost w1 (.int .i64 (lastL p m)))) := Lib.hid fun w1 h1 => by rw [← lastV_nat hm]; exact HLA.out w1 m h1
  have HFM : Hid (∀ w1, ProgAt w1 (.agg (progC (.slice x p.types.length kx) p (.slice x' p.code.length kx'))) p → Calls Tryd.prog 12 #[.agg #[.slice x p.types.length kx, str p.locals, str p.globs, .slice x' p.code.length kx'], .int .i64 m] w1 (AggPost w1 (.bool (decide (0 ≤ lastL p m))))) := Lib.hid fun w1 h1 => by rw [← lastV_nat hm]; exact HFU.out w1 m h1
  obtain ⟨bb, o, rfl, hbb, hrg⟩ := prog_ins KP.out.at' hi
  have d0 : w2.cell? ⟨bb, o + m * 5, none⟩ = some (.int .u8 i.op) := hrg 0 _ rfl
  clear HLA HFU hrg hbb
  by_cases h5 : i.op = 5
  · by_cases hk1 : p.code.length ≤ m + 1
    · have hl := last_end (q := p) hk1
      have hk2 : (p.code.length : Int) ≤ (m : Int) + 1 := by omega
      have hk3 : ¬ ((m : Int) + 1 < (p.code.length : Int)) := by omega
      have hk4 : decide ((m : Int) + 1 < (p.code.length : Int)) = false := decide_eq_false hk3
      rw [hl] at HLM
      rw [h5] at d0
      clear h5 hk1 hl hi HFM HSA HCK
      go_wp2_with (first
        | (refine wpList_loadB rfl 25 _ rfl w.heap.size (progC (.slice x p.types.length kx) p (.slice (some ⟨bb, o, none⟩) p.code.length kx')) rfl 25 KP.out.blk _ Tryd.underlying25 rfl prog_info ?_)
        | (refine wpList_loadBw (by rfl) 25 _ rfl w.heap.size (progC (.slice x p.types.length kx) p (.slice (some ⟨bb, o, none⟩) p.code.length kx')) rfl 25 KP.out.blk _ Tryd.underlying25 rfl prog_info ?_)
        | (go_at_call 11; ((with_reducible refine (HLM.out _ KP.out.at').mono ?_); rintro e wq ⟨rfl, hb⟩; have KP := Lib.hid (KP.out.below hb); have HB := Lib.hid (HB.out.trans (hb.mono HB.out.size)); clear hb p3; have p3 := KP.out.cells.2.2.2)))
      go_ret
      exact ⟨rfl, HB.out⟩
    · have hk2 : (m : Int) + 1 < (p.code.length : Int) := by omega
      have hk3 : ¬ ((p.code.length : Int) ≤ (m : Int) + 1) := by omega
      obtain ⟨j, hj⟩ : ∃ j, p.code[m + 1]? = some j := ⟨_, List.getElem?_eq_getElem (by omega)⟩
      obtain ⟨bb2, o2, e2, hbb2, hrg2⟩ := prog_ins KP.out.at' hj
      cases e2
      have HNO : Hid (j.op = 3 ∨ j.op = 4 ∨ j.op = 5 ∨ j.op = 8 ∨ j.op = 10 ∨ j.op = 12 ∨ j.op = 13 → lastL p m = -1) := Lib.hid fun h => last_next hi hj h
      have HSO5 : Hid (safeL p (m + 1) = true → j.op = 3 ∨ j.op = 4 ∨ j.op = 5) := Lib.hid fun h => safe_op hj h
      have hsv : safeV p ((m : Int) + 1) = safeL p (m + 1) := by unfold safeV; rw [show ((m : Int) + 1).toNat = m + 1 by omega]; simp; omega
      have HS1 : Hid (∀ w1, ProgAt w1 (.agg (progC (.slice x p.types.length kx) p (.slice (some ⟨bb, o, none⟩) p.code.length kx'))) p → Calls Tryd.prog 13 #[.agg #[.slice x p.types.length kx, str p.locals, str p.globs, .slice (some ⟨bb, o, none⟩) p.code.length kx'], .int .i64 ((m : Int) + 1)] w1 (AggPost w1 (.bool (safeL p (m + 1))))) := Lib.hid fun w1 h1 => by rw [← hsv]; exact HSA.out w1 _ h1
      rw [h5] at d0
      obtain ⟨op, ja, jb, jc, jn⟩ := j
      simp only at HNO HSO5
      obtain ⟨f0, f1, f2, f3, f4⟩ : (w2.cell? ⟨bb, o + (m + 1) * 5, none⟩ = some (.int .u8 op)) ∧ w2.cell? ⟨bb, o + (m + 1) * 5 + 1, none⟩ = some (.int .u8 ja) ∧ w2.cell? ⟨bb, o + (m + 1) * 5 + 2, none⟩ = some (.int .u8 jb) ∧ w2.cell? ⟨bb, o + (m + 1) * 5 + 3, none⟩ = some (.int .u8 jc) ∧ w2.cell? ⟨bb, o + (m + 1) * 5 + 4, none⟩ = some (.int .i64 jn) := ⟨hrg2 0 _ rfl, hrg2 1 _ rfl, hrg2 2 _ rfl, hrg2 3 _ rfl, hrg2 4 _ rfl⟩
      have hmz : ((m : Int) + 1) * 5 = (((m + 1) * 5 : Nat) : Int) := by omega
      have hm1t : ((m : Int) + 1).toNat = m + 1 := by omega
      have hm10 : (0 : Int) ≤ (m : Int) + 1 := by omega
      clear hrg2 hbb2 hi hj h5 hsv HSA HLM hk1
      go_upto_region 9 with (fail)
      have hab : Below w2.heap.size w2 (w2.alloc (.cells (insC ⟨op, ja, jb, jc, jn⟩) 39)) := (Below.refl _ _).alloc (Nat.le_refl _) _
      have KP := Lib.hid (KP.out.below hab)
      have HB := Lib.hid (HB.out.trans (hab.mono HB.out.size))
      have HI : Hid (blk (w2.alloc (.cells (insC ⟨op, ja, jb, jc, jn⟩) 39)) w2.heap.size (insC ⟨op, ja, jb, jc, jn⟩) 39) := Lib.hid (blk_new _ _ _)
      obtain ⟨I, hI⟩ : ∃ I, I = w2.heap.size := ⟨_, rfl⟩
      obtain ⟨wa, hwa⟩ : ∃ wa, wa = w2.alloc (.cells (insC ⟨op, ja, jb, jc, jn⟩) 39) := ⟨_, rfl⟩
      rw [← hwa] at KP HB HI ⊢
      rw [← hI] at HI ⊢
      clear hab hwa hI f0 f1 f2 f3 f4 d0 p3
      have hcase : (lastL p m = -1 ∧ (safeL p (m + 1) = true ∨ (safeL p (m + 1) = false ∧ ((op == 8) = true ∨ ((op == 8) = false ∧ (op == 10) = true) ∨ ((op == 8) = false ∧ (op == 10) = false ∧ (op == 12) = true) ∨ ((op == 8) = false ∧ (op == 10) = false ∧ (op == 12) = false ∧ (op == 13) = true) ∨ ((op == 8) = false ∧ (op == 10) = false ∧ (op == 12) = false ∧ (op == 13) = false ∧ (op == 3) = true) ∨ ((op == 8) = false ∧ (op == 10) = false ∧ (op == 12) = false ∧ (op == 13) = false ∧ (op == 3) = false ∧ (op == 4) = true))))) ∨
          (safeL p (m + 1) = false ∧ (op == 8) = false ∧ (op == 10) = false ∧ (op == 12) = false ∧ (op == 13) = false ∧ (op == 3) = false ∧ (op == 4) = false) := by
        rcases hs9 : safeL p (m + 1) with _ | _
        · by_cases e8 : op = 8
          · exact .inl ⟨HNO.out (by omega), .inr ⟨rfl, .inl (by simpa using e8)⟩⟩
          have q8 : (op == 8) = false := by simpa using e8
          by_cases e10 : op = 10
          · exact .inl ⟨HNO.out (by omega), .inr ⟨rfl, .inr (.inl ⟨q8, by simpa using e10⟩)⟩⟩
          have q10 : (op == 10) = false := by simpa using e10
          by_cases e12 : op = 12
          · exact .inl ⟨HNO.out (by omega), .inr ⟨rfl, .inr (.inr (.inl ⟨q8, q10, by simpa using e12⟩))⟩⟩
          have q12 : (op == 12) = false := by simpa using e12
          by_cases e13 : op = 13
          · exact .inl ⟨HNO.out (by omega), .inr ⟨rfl, .inr (.inr (.inr (.inl ⟨q8, q10, q12, by simpa using e13⟩)))⟩⟩
          have q13 : (op == 13) = false := by simpa using e13
          by_cases e3 : op = 3
          · exact .inl ⟨HNO.out (by omega), .inr ⟨rfl, .inr (.inr (.inr (.inr (.inl ⟨q8, q10, q12, q13, by simpa using e3⟩))))⟩⟩
          have q3 : (op == 3) = false := by simpa using e3
          by_cases e4 : op = 4
          · exact .inl ⟨HNO.out (by omega), .inr ⟨rfl, .inr (.inr (.inr (.inr (.inr ⟨q8, q10, q12, q13, q3, by simpa using e4⟩))))⟩⟩
          · exact .inr ⟨rfl, q8, q10, q12, q13, q3, by simpa using e4⟩
        · have := HSO5.out hs9
          exact .inl ⟨HNO.out (by omega), .inl rfl⟩
      have HCA := Lib.hid hcase
      clear hcase HNO HSO5
      have e0 : wa.cell? ⟨I, 0, none⟩ = some (.int .u8 op) := blk_cell HI.out 0 _ rfl
      generalize safeL p (m + 1) = sf at HS1 HCA
      generalize lastL p m = z at HFM HCA
      rcases HCA.out with ⟨rfl, hc⟩ | ⟨rfl, q8, q10, q12, q13, q3, q4⟩
      · have HFM : Hid (∀ w1, ProgAt w1 (.agg (progC (.slice x p.types.length kx) p (.slice (some ⟨bb, o, none⟩) p.code.length kx'))) p → Calls Tryd.prog 12 #[.agg #[.slice x p.types.length kx, str p.locals, str p.globs, .slice (some ⟨bb, o, none⟩) p.code.length kx'], .int .i64 m] w1 (AggPost w1 (.bool false))) := Lib.hid HFM.out
        clear HCA
        rcases hc with rfl | ⟨rfl, hc⟩
        · go_wp2_with (first
            | (refine wpList_loadB rfl 25 _ rfl w.heap.size (progC (.slice x p.types.length kx) p (.slice (some ⟨bb, o, none⟩) p.code.length kx')) rfl 25 KP.out.blk _ Tryd.underlying25 rfl prog_info ?_)
            | (go_at_call 13; ((with_reducible refine (HS1.out _ KP.out.at').mono ?_); rintro e wz ⟨rfl, hb⟩; have HI := Lib.hid (blk_below HI.out hb); have KP := Lib.hid (KP.out.below hb); have HB := Lib.hid (HB.out.trans (hb.mono HB.out.size)); clear hb e0; have e0 := blk_cell HI.out 0 _ rfl))
            | (go_at_call 12; ((with_reducible refine (HFM.out _ KP.out.at').mono ?_); rintro e wq ⟨rfl, hb⟩; have KP := Lib.hid (KP.out.below hb); have HB := Lib.hid (HB.out.trans (hb.mono HB.out.size)); clear hb)))
          go_ret
          exact ⟨rfl, HB.out⟩
        · rcases hc with q8 | ⟨q8, q10⟩ | ⟨q8, q10, q12⟩ | ⟨q8, q10, q12, q13⟩ | ⟨q8, q10, q12, q13, q3⟩ | ⟨q8, q10, q12, q13, q3, q4⟩
          all_goals
            go_wp2_with (first
              | (refine wpList_loadB rfl 25 _ rfl w.heap.size (progC (.slice x p.types.length kx) p (.slice (some ⟨bb, o, none⟩) p.code.length kx')) rfl 25 KP.out.blk _ Tryd.underlying25 rfl prog_info ?_)
              | (go_at_call 13; ((with_reducible refine (HS1.out _ KP.out.at').mono ?_); rintro e wz ⟨rfl, hb⟩; have HI := Lib.hid (blk_below HI.out hb); have KP := Lib.hid (KP.out.below hb); have HB := Lib.hid (HB.out.trans (hb.mono HB.out.size)); clear hb e0; have e0 : wz.cell? ⟨I, 0, none⟩ = some (.int .u8 op) := blk_cell HI.out 0 _ rfl))
              | (go_at_call 12; ((with_reducible refine (HFM.out _ KP.out.at').mono ?_); rintro e wq ⟨rfl, hb⟩; have KP := Lib.hid (KP.out.below hb); have HB := Lib.hid (HB.out.trans (hb.mono HB.out.size)); clear hb)))
            go_ret
            exact ⟨rfl, HB.out⟩
      · clear HCA
        go_wp2_with (first
          | (refine wpList_loadB rfl 25 _ rfl w.heap.size (progC (.slice x p.types.length kx) p (.slice (some ⟨bb, o, none⟩) p.code.length kx')) rfl 25 KP.out.blk _ Tryd.underlying25 rfl prog_info ?_)
          | (go_at_call 13; ((with_reducible refine (HS1.out _ KP.out.at').mono ?_); rintro e wz ⟨rfl, hb⟩; have HI := Lib.hid (blk_below HI.out hb); have KP := Lib.hid (KP.out.below hb); have HB := Lib.hid (HB.out.trans (hb.mono HB.out.size)); clear hb e0; have e0 : wz.cell? ⟨I, 0, none⟩ = some (.int .u8 op) := blk_cell HI.out 0 _ rfl)))
        go_ret
        exact ⟨rfl, HB.out⟩
  · have hl := lastL_no hi h5
    have q5 : (i.op != 5) = true := by simpa using h5
    have q5' : (i.op == 5) = false := by simpa using h5
    rw [hl] at HLM
    clear hl h5 hi HFM HSA HCK
    by_cases hk1 : p.code.length ≤ m + 1
    · have hk2 : ¬ ((m : Int) + 1 < (p.code.length : Int)) := by omega
      have hk4 : decide ((m : Int) + 1 < (p.code.length : Int)) = false := decide_eq_false hk2
      go_wp2_with (first
        | (refine wpList_loadB rfl 25 _ rfl w.heap.size (progC (.slice x p.types.length kx) p (.slice (some ⟨bb, o, none⟩) p.code.length kx')) rfl 25 KP.out.blk _ Tryd.underlying25 rfl prog_info ?_)
        | (refine wpList_loadBw (by rfl) 25 _ rfl w.heap.size (progC (.slice x p.types.length kx) p (.slice (some ⟨bb, o, none⟩) p.code.length kx')) rfl 25 KP.out.blk _ Tryd.underlying25 rfl prog_info ?_)
        | (go_at_call 11; ((with_reducible refine (HLM.out _ KP.out.at').mono ?_); rintro e wq ⟨rfl, hb⟩; have KP := Lib.hid (KP.out.below hb); have HB := Lib.hid (HB.out.trans (hb.mono HB.out.size)); clear hb p3; have p3 := KP.out.cells.2.2.2)))
      go_ret
      exact ⟨rfl, HB.out⟩
    · have hk2 : (m : Int) + 1 < (p.code.length : Int) := by omega
      go_wp2_with (first
        | (refine wpList_loadB rfl 25 _ rfl w.heap.size (progC (.slice x p.types.length kx) p (.slice (some ⟨bb, o, none⟩) p.code.length kx')) rfl 25 KP.out.blk _ Tryd.underlying25 rfl prog_info ?_)
        | (refine wpList_loadBw (by rfl) 25 _ rfl w.heap.size (progC (.slice x p.types.length kx) p (.slice (some ⟨bb, o, none⟩) p.code.length kx')) rfl 25 KP.out.blk _ Tryd.underlying25 rfl prog_info ?_)
        | (go_at_call 11; ((with_reducible refine (HLM.out _ KP.out.at').mono ?_); rintro e wq ⟨rfl, hb⟩; have KP := Lib.hid (KP.out.below hb); have HB := Lib.hid (HB.out.trans (hb.mono HB.out.size)); clear hb p3; have p3 := KP.out.cells.2.2.2)))
      go_ret
      exact ⟨rfl, HB.out⟩
theorem unone_walk (v : Value) (p : PProg) (a : Int) (w : World) (h : ProgAt w v p) (hs : OkP p) (ha0 : 0 ≤ a) (ha : a ≤ 255) (ht' : HasT w) : Calls Tryd.prog 7 #[v, .int .u8 a] w fun e w' => e = .returned (.bool true) ∧ Below w.heap.size w w' := by
  obtain ⟨vt, vc, rfl, ht, hc⟩ := id h
  have hwb : Below w.heap.size w (w.alloc (.cells (progC vt p vc) 25)) := (Below.refl _ _).alloc (Nat.le_refl _) _
  have HK := keep_new h
  obtain ⟨x, c, rfl, -, -, -⟩ := id ht.elems
  obtain ⟨x', c', rfl, q1, q2, -⟩ := id hc
  unfold maxLen at q2
  obtain ⟨ka, rfl⟩ : ∃ ka : Nat, a = ka := ⟨a.toNat, by omega⟩
  exact unone_at w _ p ka x x' c c' rfl (Lib.hid HK) (Lib.hid hwb) (Lib.hid fun w1 => ualive_n w1) (Lib.hid fun w1 h1 hb1 => sound_n _ p w1 _ h1 hs (ht'.below hb1) rfl) (by omega) q1 (by omega) (Lib.hid fun hsd w1 k h1 => ulast_n _ p w1 k h1 hs (sound_parts hsd).2.2.1) (Lib.hid fun hsd w1 k h1 => ufull_n _ p w1 k h1 hs (sound_parts hsd).2.2.1) (Lib.hid fun w1 k h1 => rsafe_n _ p w1 k _ h1 rfl)
end Go.Proofs.YtbpijfncjboamaaDoor
