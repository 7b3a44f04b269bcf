/-
  The program's do: Set, Add, Jump, Zero and Nil.
-/
import Derived.Test.YtmnoohpkjgjphaaDoorPDo0
namespace Go.Proofs.YtmnoohpkjgjphaaDoor
set_option linter.unusedSimpArgs false
set_option linter.unusedVariables false
open Go.RowKit

set_option maxRecDepth 100000 in
set_option maxHeartbeats 4000000 in
theorem do_1 (w W0 : World) (p : PProg) (B b : Nat) (vt' : Value) (s : PSt) (vo vt : Value) (bb o k' : Nat) (a ib c : Nat) (n : Int) (nx : Nat)
    (hW0 : W0 = w.alloc (.cells (progC vt' p (.slice (some ⟨bb, o, none⟩) p.code.length k')) 25)) (HS : Hid (Below w.heap.size w W0)) (hBw : B ≤ w.heap.size) (p3 : W0.cell? ⟨w.heap.size, 3, none⟩ = some (.slice (some ⟨bb, o, none⟩) p.code.length k'))
    (HM : Hid (Mem W0 B b s vo vt)) (hpc : s.pc < p.code.length) (g1 : p.code.length ≤ k') (g2 : k' ≤ 9223372036854775807) (hr : Hid (W0.rangeAt bb (o + s.pc * 5) (insC ⟨1, a, ib, c, n⟩).toList)) (hst : s.steps ≤ 1000000)
    (HN : Hid (∀ w1, Below W0.heap.size W0 w1 → Calls Tryd.prog 38 #[ptr b, insV ⟨1, a, ib, c, n⟩] w1 (AggPost w1 (.int .i64 nx)))) (ha : a < 8) :
    Calls Tryd.prog 25 #[.agg (progC vt' p (.slice (some ⟨bb, o, none⟩) p.code.length k')), ptr b] w (DoPost w B b (setX { s with pc := nx, steps := s.steps + 1 } a n)) := by
  have HB := Lib.hid (Below.refl W0.heap.size W0)
  go_enter Tryd.func25, Tryd.ntmps25
  go_wp2_with (fail)
  rw [← hW0]
  clear hW0
  obtain ⟨d0, d1, d2, d3, d4⟩ : (W0.cell? ⟨bb, o + s.pc * 5, none⟩ = some (.int .u8 1)) ∧ W0.cell? ⟨bb, o + s.pc * 5 + 1, none⟩ = some (.int .u8 a) ∧ W0.cell? ⟨bb, o + s.pc * 5 + 2, none⟩ = some (.int .u8 ib) ∧ W0.cell? ⟨bb, o + s.pc * 5 + 3, none⟩ = some (.int .u8 c) ∧ W0.cell? ⟨bb, o + s.pc * 5 + 4, none⟩ = some (.int .i64 n) := ⟨hr.out 0 _ rfl, hr.out 1 _ rfl, hr.out 2 _ rfl, hr.out 3 _ rfl, hr.out 4 _ rfl⟩
  obtain ⟨-, -, c22, -⟩ := HM.out.rest
  go_region_held3 (fun w' => w'.cell? ⟨w.heap.size, 3, none⟩ = some (.slice (some ⟨bb, o, none⟩) p.code.length k') ∧ w'.cell? ⟨b, 22, none⟩ = some (.int .i64 s.pc) ∧ w'.cell? ⟨bb, o + s.pc * 5, none⟩ = some (.int .u8 1) ∧ w'.cell? ⟨bb, o + s.pc * 5 + 1, none⟩ = some (.int .u8 a) ∧ w'.cell? ⟨bb, o + s.pc * 5 + 2, none⟩ = some (.int .u8 ib) ∧ w'.cell? ⟨bb, o + s.pc * 5 + 3, none⟩ = some (.int .u8 c) ∧ w'.cell? ⟨bb, o + s.pc * 5 + 4, none⟩ = some (.int .i64 n)) (go_keep) (first | fail)
  all_goals
    clear p3 c22 d0 d1 d2 d3 d4 hr
    have HBA : Hid (Below W0.heap.size W0 (W0.alloc (.cells (insC ⟨1, a, ib, c, n⟩) 55)).drew) := Lib.hid ((HB.out.alloc (Nat.le_refl _) _).drew)
    have HMA : Hid (Mem (W0.alloc (.cells (insC ⟨1, a, ib, c, n⟩) 55)).drew B b s vo vt) := Lib.hid (HM.out.below HBA.out)
    have HIA : Hid (blk (W0.alloc (.cells (insC ⟨1, a, ib, c, n⟩) 55)).drew W0.heap.size (insC ⟨1, a, ib, c, n⟩) 55) := Lib.hid (blk_new W0 _ _)
    go_upto_region 4 with (first
      | (refine wpList_loadB rfl 55 _ rfl W0.heap.size (insC ⟨1, a, ib, c, n⟩) rfl 55 HIA.out _ Tryd.underlying55 rfl ins_info ?_)
      | (go_at_call 38; refine (HN.out _ HBA.out).mono ?_; rintro e w2 ⟨rfl, hb⟩; have HB2 := Lib.hid (HBA.out.trans (hb.mono HBA.out.size)); have HM2 := Lib.hid (HMA.out.below hb); have HI2 := Lib.hid (blk_below HIA.out hb); clear hb; obtain ⟨-, -, c22, c23⟩ := HM2.out.rest; have f22 := blk_frozen HM2.out.blk 22; have f23 := blk_frozen HM2.out.blk 23))
    clear HBA HMA HIA HN HM c22 c23 f22 f23
    have HM3 : Hid (Mem ((w2.setCell ⟨b, 22, none⟩ (.int .i64 nx)).setCell ⟨b, 23, none⟩ (.int .i64 ((s.steps : Int) + 1))) B b { s with pc := nx, steps := s.steps + 1 } vo vt) := Lib.hid ((HM2.out.setA nx).setS (s.steps + 1))
    have HI3 : Hid (blk ((w2.setCell ⟨b, 22, none⟩ (.int .i64 nx)).setCell ⟨b, 23, none⟩ (.int .i64 ((s.steps : Int) + 1))) W0.heap.size (insC ⟨1, a, ib, c, n⟩) 55) := Lib.hid (blk_setM (HM2.out.setA nx).blk (blk_setM HM2.out.blk HI2.out (by decide)) (by decide))
    have HB3 : Hid (Below B w ((w2.setCell ⟨b, 22, none⟩ (.int .i64 nx)).setCell ⟨b, 23, none⟩ (.int .i64 ((s.steps : Int) + 1)))) := Lib.hid ((((HS.out.trans (HB2.out.mono HS.out.size)).mono hBw).setCell (p := ⟨b, 22, none⟩) HM2.out.hb _).setCell (p := ⟨b, 23, none⟩) HM2.out.hb _)
    have HF3 : Hid (FarB w ((w2.setCell ⟨b, 22, none⟩ (.int .i64 nx)).setCell ⟨b, 23, none⟩ (.int .i64 ((s.steps : Int) + 1))) b) := Lib.hid (((FarB.of_below (HS.out.trans (HB2.out.mono HS.out.size)) b).setB HM2.out.blk).setB (HM2.out.setA nx).blk)
    clear HM2 HI2 HB2
    obtain ⟨w3, hw3⟩ : ∃ w3, w3 = ((w2.setCell ⟨b, 22, none⟩ (.int .i64 nx)).setCell ⟨b, 23, none⟩ (.int .i64 ((s.steps : Int) + 1))) := ⟨_, rfl⟩
    rw [← hw3] at HM3 HI3 HB3 HF3 ⊢
    clear hw3
    have e0 : w3.cell? ⟨W0.heap.size, 0, none⟩ = some (.int .u8 1) := blk_cell HI3.out 0 _ rfl
    have e1 : w3.cell? ⟨W0.heap.size, 1, none⟩ = some (.int .u8 a) := blk_cell HI3.out 1 _ rfl
    have e2 : w3.cell? ⟨W0.heap.size, 2, none⟩ = some (.int .u8 ib) := blk_cell HI3.out 2 _ rfl
    have e3 : w3.cell? ⟨W0.heap.size, 3, none⟩ = some (.int .u8 c) := blk_cell HI3.out 3 _ rfl
    have e4 : w3.cell? ⟨W0.heap.size, 4, none⟩ = some (.int .i64 n) := blk_cell HI3.out 4 _ rfl
    have hai : (((a : Nat) : Int)) < 8 := by omega
    have ha0 : (0 : Int) ≤ (a : Nat) := by omega
    have cxa : w3.cell? ⟨b, a, none⟩ = some (.int .i64 (xA s a)) := HM3.out.x a ha
    have fz := blk_frozen HM3.out.blk (a)
    go_wp2_with (fail)
    refine wp_region_still_tail 8 (by kernel_rfl) (by kernel_rfl) ?_
    simp only [List.take_succ_cons, List.take_zero, List.drop_succ_cons, List.drop_zero]
    change wpStill _ _ w3.drew (fun a' => wpList _ _ _ _ a' w3.drew) _ _
    repeat still_step
    refine wpStill_nil ?_
    go_wp2
    go_end0
    exact ⟨rfl, ⟨_, _, (HM3.out.setX a ha n).drew⟩, (HB3.out.setCell (p := ⟨b, a, none⟩) HM3.out.hb _).drew, (HF3.out.setB HM3.out.blk).drew⟩

set_option maxRecDepth 100000 in
set_option maxHeartbeats 4000000 in
theorem do_2 (w W0 : World) (p : PProg) (B b : Nat) (vt' : Value) (s : PSt) (vo vt : Value) (bb o k' : Nat) (a ib c : Nat) (n : Int) (nx : Nat)
    (hW0 : W0 = w.alloc (.cells (progC vt' p (.slice (some ⟨bb, o, none⟩) p.code.length k')) 25)) (HS : Hid (Below w.heap.size w W0)) (hBw : B ≤ w.heap.size) (p3 : W0.cell? ⟨w.heap.size, 3, none⟩ = some (.slice (some ⟨bb, o, none⟩) p.code.length k'))
    (HM : Hid (Mem W0 B b s vo vt)) (hpc : s.pc < p.code.length) (g1 : p.code.length ≤ k') (g2 : k' ≤ 9223372036854775807) (hr : Hid (W0.rangeAt bb (o + s.pc * 5) (insC ⟨2, a, ib, c, n⟩).toList)) (hst : s.steps ≤ 1000000)
    (HN : Hid (∀ w1, Below W0.heap.size W0 w1 → Calls Tryd.prog 38 #[ptr b, insV ⟨2, a, ib, c, n⟩] w1 (AggPost w1 (.int .i64 nx)))) (ha : a < 8) (hib : ib < 8) (hc : c < 8) (z : Int) (hz : Hid (wr64 (xA s ib + xA s c) = z)) :
    Calls Tryd.prog 25 #[.agg (progC vt' p (.slice (some ⟨bb, o, none⟩) p.code.length k')), ptr b] w (DoPost w B b (setX { s with pc := nx, steps := s.steps + 1 } a z)) := by
  have HB := Lib.hid (Below.refl W0.heap.size W0)
  go_enter Tryd.func25, Tryd.ntmps25
  go_wp2_with (fail)
  rw [← hW0]
  clear hW0
  obtain ⟨d0, d1, d2, d3, d4⟩ : (W0.cell? ⟨bb, o + s.pc * 5, none⟩ = some (.int .u8 2)) ∧ W0.cell? ⟨bb, o + s.pc * 5 + 1, none⟩ = some (.int .u8 a) ∧ W0.cell? ⟨bb, o + s.pc * 5 + 2, none⟩ = some (.int .u8 ib) ∧ W0.cell? ⟨bb, o + s.pc * 5 + 3, none⟩ = some (.int .u8 c) ∧ W0.cell? ⟨bb, o + s.pc * 5 + 4, none⟩ = some (.int .i64 n) := ⟨hr.out 0 _ rfl, hr.out 1 _ rfl, hr.out 2 _ rfl, hr.out 3 _ rfl, hr.out 4 _ rfl⟩
  obtain ⟨-, -, c22, -⟩ := HM.out.rest
  go_region_held3 (fun w' => w'.cell? ⟨w.heap.size, 3, none⟩ = some (.slice (some ⟨bb, o, none⟩) p.code.length k') ∧ w'.cell? ⟨b, 22, none⟩ = some (.int .i64 s.pc) ∧ w'.cell? ⟨bb, o + s.pc * 5, none⟩ = some (.int .u8 2) ∧ w'.cell? ⟨bb, o + s.pc * 5 + 1, none⟩ = some (.int .u8 a) ∧ w'.cell? ⟨bb, o + s.pc * 5 + 2, none⟩ = some (.int .u8 ib) ∧ w'.cell? ⟨bb, o + s.pc * 5 + 3, none⟩ = some (.int .u8 c) ∧ w'.cell? ⟨bb, o + s.pc * 5 + 4, none⟩ = some (.int .i64 n)) (go_keep) (first | fail)
  all_goals
    clear p3 c22 d0 d1 d2 d3 d4 hr
    have HBA : Hid (Below W0.heap.size W0 (W0.alloc (.cells (insC ⟨2, a, ib, c, n⟩) 55)).drew) := Lib.hid ((HB.out.alloc (Nat.le_refl _) _).drew)
    have HMA : Hid (Mem (W0.alloc (.cells (insC ⟨2, a, ib, c, n⟩) 55)).drew B b s vo vt) := Lib.hid (HM.out.below HBA.out)
    have HIA : Hid (blk (W0.alloc (.cells (insC ⟨2, a, ib, c, n⟩) 55)).drew W0.heap.size (insC ⟨2, a, ib, c, n⟩) 55) := Lib.hid (blk_new W0 _ _)
    go_upto_region 4 with (first
      | (refine wpList_loadB rfl 55 _ rfl W0.heap.size (insC ⟨2, a, ib, c, n⟩) rfl 55 HIA.out _ Tryd.underlying55 rfl ins_info ?_)
      | (go_at_call 38; refine (HN.out _ HBA.out).mono ?_; rintro e w2 ⟨rfl, hb⟩; have HB2 := Lib.hid (HBA.out.trans (hb.mono HBA.out.size)); have HM2 := Lib.hid (HMA.out.below hb); have HI2 := Lib.hid (blk_below HIA.out hb); clear hb; obtain ⟨-, -, c22, c23⟩ := HM2.out.rest; have f22 := blk_frozen HM2.out.blk 22; have f23 := blk_frozen HM2.out.blk 23))
    clear HBA HMA HIA HN HM c22 c23 f22 f23
    have HM3 : Hid (Mem ((w2.setCell ⟨b, 22, none⟩ (.int .i64 nx)).setCell ⟨b, 23, none⟩ (.int .i64 ((s.steps : Int) + 1))) B b { s with pc := nx, steps := s.steps + 1 } vo vt) := Lib.hid ((HM2.out.setA nx).setS (s.steps + 1))
    have HI3 : Hid (blk ((w2.setCell ⟨b, 22, none⟩ (.int .i64 nx)).setCell ⟨b, 23, none⟩ (.int .i64 ((s.steps : Int) + 1))) W0.heap.size (insC ⟨2, a, ib, c, n⟩) 55) := Lib.hid (blk_setM (HM2.out.setA nx).blk (blk_setM HM2.out.blk HI2.out (by decide)) (by decide))
    have HB3 : Hid (Below B w ((w2.setCell ⟨b, 22, none⟩ (.int .i64 nx)).setCell ⟨b, 23, none⟩ (.int .i64 ((s.steps : Int) + 1)))) := Lib.hid ((((HS.out.trans (HB2.out.mono HS.out.size)).mono hBw).setCell (p := ⟨b, 22, none⟩) HM2.out.hb _).setCell (p := ⟨b, 23, none⟩) HM2.out.hb _)
    have HF3 : Hid (FarB w ((w2.setCell ⟨b, 22, none⟩ (.int .i64 nx)).setCell ⟨b, 23, none⟩ (.int .i64 ((s.steps : Int) + 1))) b) := Lib.hid (((FarB.of_below (HS.out.trans (HB2.out.mono HS.out.size)) b).setB HM2.out.blk).setB (HM2.out.setA nx).blk)
    clear HM2 HI2 HB2
    obtain ⟨w3, hw3⟩ : ∃ w3, w3 = ((w2.setCell ⟨b, 22, none⟩ (.int .i64 nx)).setCell ⟨b, 23, none⟩ (.int .i64 ((s.steps : Int) + 1))) := ⟨_, rfl⟩
    rw [← hw3] at HM3 HI3 HB3 HF3 ⊢
    clear hw3
    have e0 : w3.cell? ⟨W0.heap.size, 0, none⟩ = some (.int .u8 2) := blk_cell HI3.out 0 _ rfl
    have e1 : w3.cell? ⟨W0.heap.size, 1, none⟩ = some (.int .u8 a) := blk_cell HI3.out 1 _ rfl
    have e2 : w3.cell? ⟨W0.heap.size, 2, none⟩ = some (.int .u8 ib) := blk_cell HI3.out 2 _ rfl
    have e3 : w3.cell? ⟨W0.heap.size, 3, none⟩ = some (.int .u8 c) := blk_cell HI3.out 3 _ rfl
    have e4 : w3.cell? ⟨W0.heap.size, 4, none⟩ = some (.int .i64 n) := blk_cell HI3.out 4 _ rfl
    have hai : (((a : Nat) : Int)) < 8 := by omega
    have ha0 : (0 : Int) ≤ (a : Nat) := by omega
    have hibi : (((ib : Nat) : Int)) < 8 := by omega
    have hib0 : (0 : Int) ≤ (ib : Nat) := by omega
    have hci : (((c : Nat) : Int)) < 8 := by omega
    have hc0 : (0 : Int) ≤ (c : Nat) := by omega
    have cxa : w3.cell? ⟨b, a, none⟩ = some (.int .i64 (xA s a)) := HM3.out.x a ha
    have cxib : w3.cell? ⟨b, ib, none⟩ = some (.int .i64 (xA s ib)) := HM3.out.x ib hib
    have cxc : w3.cell? ⟨b, c, none⟩ = some (.int .i64 (xA s c)) := HM3.out.x c hc
    have fz := blk_frozen HM3.out.blk (a)
    go_wp2_with (fail)
    refine wp_region_still_tail 21 (by kernel_rfl) (by kernel_rfl) ?_
    simp only [List.take_succ_cons, List.take_zero, List.drop_succ_cons, List.drop_zero]
    change wpStill _ _ w3.drew (fun a' => wpList _ _ _ _ a' w3.drew) _ _
    repeat still_step
    refine wpStill_nil ?_
    go_wp2
    go_end0
    exact ⟨rfl, ⟨_, _, by rw [show wrap64 (xA s ib + xA s c) = z by rw [← hz.out]; unfold wrap64 wr64; omega]; exact (HM3.out.setX a ha z).drew⟩, (HB3.out.setCell (p := ⟨b, a, none⟩) HM3.out.hb _).drew, (HF3.out.setB HM3.out.blk).drew⟩

set_option maxRecDepth 100000 in
set_option maxHeartbeats 4000000 in
theorem do_3 (w W0 : World) (p : PProg) (B b : Nat) (vt' : Value) (s : PSt) (vo vt : Value) (bb o k' : Nat) (a ib c : Nat) (n : Int) (nx : Nat)
    (hW0 : W0 = w.alloc (.cells (progC vt' p (.slice (some ⟨bb, o, none⟩) p.code.length k')) 25)) (HS : Hid (Below w.heap.size w W0)) (hBw : B ≤ w.heap.size) (p3 : W0.cell? ⟨w.heap.size, 3, none⟩ = some (.slice (some ⟨bb, o, none⟩) p.code.length k'))
    (HM : Hid (Mem W0 B b s vo vt)) (hpc : s.pc < p.code.length) (g1 : p.code.length ≤ k') (g2 : k' ≤ 9223372036854775807) (hr : Hid (W0.rangeAt bb (o + s.pc * 5) (insC ⟨3, a, ib, c, n⟩).toList)) (hst : s.steps ≤ 1000000)
    (HN : Hid (∀ w1, Below W0.heap.size W0 w1 → Calls Tryd.prog 38 #[ptr b, insV ⟨3, a, ib, c, n⟩] w1 (AggPost w1 (.int .i64 nx)))) :
    Calls Tryd.prog 25 #[.agg (progC vt' p (.slice (some ⟨bb, o, none⟩) p.code.length k')), ptr b] w (DoPost w B b ({ s with pc := nx, steps := s.steps + 1 })) := by
  have HB := Lib.hid (Below.refl W0.heap.size W0)
  go_enter Tryd.func25, Tryd.ntmps25
  go_wp2_with (fail)
  rw [← hW0]
  clear hW0
  obtain ⟨d0, d1, d2, d3, d4⟩ : (W0.cell? ⟨bb, o + s.pc * 5, none⟩ = some (.int .u8 3)) ∧ W0.cell? ⟨bb, o + s.pc * 5 + 1, none⟩ = some (.int .u8 a) ∧ W0.cell? ⟨bb, o + s.pc * 5 + 2, none⟩ = some (.int .u8 ib) ∧ W0.cell? ⟨bb, o + s.pc * 5 + 3, none⟩ = some (.int .u8 c) ∧ W0.cell? ⟨bb, o + s.pc * 5 + 4, none⟩ = some (.int .i64 n) := ⟨hr.out 0 _ rfl, hr.out 1 _ rfl, hr.out 2 _ rfl, hr.out 3 _ rfl, hr.out 4 _ rfl⟩
  obtain ⟨-, -, c22, -⟩ := HM.out.rest
  go_region_held3 (fun w' => w'.cell? ⟨w.heap.size, 3, none⟩ = some (.slice (some ⟨bb, o, none⟩) p.code.length k') ∧ w'.cell? ⟨b, 22, none⟩ = some (.int .i64 s.pc) ∧ w'.cell? ⟨bb, o + s.pc * 5, none⟩ = some (.int .u8 3) ∧ w'.cell? ⟨bb, o + s.pc * 5 + 1, none⟩ = some (.int .u8 a) ∧ w'.cell? ⟨bb, o + s.pc * 5 + 2, none⟩ = some (.int .u8 ib) ∧ w'.cell? ⟨bb, o + s.pc * 5 + 3, none⟩ = some (.int .u8 c) ∧ w'.cell? ⟨bb, o + s.pc * 5 + 4, none⟩ = some (.int .i64 n)) (go_keep) (first | fail)
  all_goals
    clear p3 c22 d0 d1 d2 d3 d4 hr
    have HBA : Hid (Below W0.heap.size W0 (W0.alloc (.cells (insC ⟨3, a, ib, c, n⟩) 55)).drew) := Lib.hid ((HB.out.alloc (Nat.le_refl _) _).drew)
    have HMA : Hid (Mem (W0.alloc (.cells (insC ⟨3, a, ib, c, n⟩) 55)).drew B b s vo vt) := Lib.hid (HM.out.below HBA.out)
    have HIA : Hid (blk (W0.alloc (.cells (insC ⟨3, a, ib, c, n⟩) 55)).drew W0.heap.size (insC ⟨3, a, ib, c, n⟩) 55) := Lib.hid (blk_new W0 _ _)
    go_upto_region 4 with (first
      | (refine wpList_loadB rfl 55 _ rfl W0.heap.size (insC ⟨3, a, ib, c, n⟩) rfl 55 HIA.out _ Tryd.underlying55 rfl ins_info ?_)
      | (go_at_call 38; refine (HN.out _ HBA.out).mono ?_; rintro e w2 ⟨rfl, hb⟩; have HB2 := Lib.hid (HBA.out.trans (hb.mono HBA.out.size)); have HM2 := Lib.hid (HMA.out.below hb); have HI2 := Lib.hid (blk_below HIA.out hb); clear hb; obtain ⟨-, -, c22, c23⟩ := HM2.out.rest; have f22 := blk_frozen HM2.out.blk 22; have f23 := blk_frozen HM2.out.blk 23))
    clear HBA HMA HIA HN HM c22 c23 f22 f23
    have HM3 : Hid (Mem ((w2.setCell ⟨b, 22, none⟩ (.int .i64 nx)).setCell ⟨b, 23, none⟩ (.int .i64 ((s.steps : Int) + 1))) B b { s with pc := nx, steps := s.steps + 1 } vo vt) := Lib.hid ((HM2.out.setA nx).setS (s.steps + 1))
    have HI3 : Hid (blk ((w2.setCell ⟨b, 22, none⟩ (.int .i64 nx)).setCell ⟨b, 23, none⟩ (.int .i64 ((s.steps : Int) + 1))) W0.heap.size (insC ⟨3, a, ib, c, n⟩) 55) := Lib.hid (blk_setM (HM2.out.setA nx).blk (blk_setM HM2.out.blk HI2.out (by decide)) (by decide))
    have HB3 : Hid (Below B w ((w2.setCell ⟨b, 22, none⟩ (.int .i64 nx)).setCell ⟨b, 23, none⟩ (.int .i64 ((s.steps : Int) + 1)))) := Lib.hid ((((HS.out.trans (HB2.out.mono HS.out.size)).mono hBw).setCell (p := ⟨b, 22, none⟩) HM2.out.hb _).setCell (p := ⟨b, 23, none⟩) HM2.out.hb _)
    have HF3 : Hid (FarB w ((w2.setCell ⟨b, 22, none⟩ (.int .i64 nx)).setCell ⟨b, 23, none⟩ (.int .i64 ((s.steps : Int) + 1))) b) := Lib.hid (((FarB.of_below (HS.out.trans (HB2.out.mono HS.out.size)) b).setB HM2.out.blk).setB (HM2.out.setA nx).blk)
    clear HM2 HI2 HB2
    obtain ⟨w3, hw3⟩ : ∃ w3, w3 = ((w2.setCell ⟨b, 22, none⟩ (.int .i64 nx)).setCell ⟨b, 23, none⟩ (.int .i64 ((s.steps : Int) + 1))) := ⟨_, rfl⟩
    rw [← hw3] at HM3 HI3 HB3 HF3 ⊢
    clear hw3
    have e0 : w3.cell? ⟨W0.heap.size, 0, none⟩ = some (.int .u8 3) := blk_cell HI3.out 0 _ rfl
    have e1 : w3.cell? ⟨W0.heap.size, 1, none⟩ = some (.int .u8 a) := blk_cell HI3.out 1 _ rfl
    have e2 : w3.cell? ⟨W0.heap.size, 2, none⟩ = some (.int .u8 ib) := blk_cell HI3.out 2 _ rfl
    have e3 : w3.cell? ⟨W0.heap.size, 3, none⟩ = some (.int .u8 c) := blk_cell HI3.out 3 _ rfl
    have e4 : w3.cell? ⟨W0.heap.size, 4, none⟩ = some (.int .i64 n) := blk_cell HI3.out 4 _ rfl
    go_wp2_with (fail)
    go_end0
    exact ⟨rfl, ⟨_, _, HM3.out⟩, HB3.out, HF3.out⟩

set_option maxRecDepth 100000 in
set_option maxHeartbeats 4000000 in
theorem do_4 (w W0 : World) (p : PProg) (B b : Nat) (vt' : Value) (s : PSt) (vo vt : Value) (bb o k' : Nat) (a ib c : Nat) (n : Int) (nx : Nat)
    (hW0 : W0 = w.alloc (.cells (progC vt' p (.slice (some ⟨bb, o, none⟩) p.code.length k')) 25)) (HS : Hid (Below w.heap.size w W0)) (hBw : B ≤ w.heap.size) (p3 : W0.cell? ⟨w.heap.size, 3, none⟩ = some (.slice (some ⟨bb, o, none⟩) p.code.length k'))
    (HM : Hid (Mem W0 B b s vo vt)) (hpc : s.pc < p.code.length) (g1 : p.code.length ≤ k') (g2 : k' ≤ 9223372036854775807) (hr : Hid (W0.rangeAt bb (o + s.pc * 5) (insC ⟨4, a, ib, c, n⟩).toList)) (hst : s.steps ≤ 1000000)
    (HN : Hid (∀ w1, Below W0.heap.size W0 w1 → Calls Tryd.prog 38 #[ptr b, insV ⟨4, a, ib, c, n⟩] w1 (AggPost w1 (.int .i64 nx)))) :
    Calls Tryd.prog 25 #[.agg (progC vt' p (.slice (some ⟨bb, o, none⟩) p.code.length k')), ptr b] w (DoPost w B b ({ s with pc := nx, steps := s.steps + 1 })) := by
  have HB := Lib.hid (Below.refl W0.heap.size W0)
  go_enter Tryd.func25, Tryd.ntmps25
  go_wp2_with (fail)
  rw [← hW0]
  clear hW0
  obtain ⟨d0, d1, d2, d3, d4⟩ : (W0.cell? ⟨bb, o + s.pc * 5, none⟩ = some (.int .u8 4)) ∧ W0.cell? ⟨bb, o + s.pc * 5 + 1, none⟩ = some (.int .u8 a) ∧ W0.cell? ⟨bb, o + s.pc * 5 + 2, none⟩ = some (.int .u8 ib) ∧ W0.cell? ⟨bb, o + s.pc * 5 + 3, none⟩ = some (.int .u8 c) ∧ W0.cell? ⟨bb, o + s.pc * 5 + 4, none⟩ = some (.int .i64 n) := ⟨hr.out 0 _ rfl, hr.out 1 _ rfl, hr.out 2 _ rfl, hr.out 3 _ rfl, hr.out 4 _ rfl⟩
  obtain ⟨-, -, c22, -⟩ := HM.out.rest
  go_region_held3 (fun w' => w'.cell? ⟨w.heap.size, 3, none⟩ = some (.slice (some ⟨bb, o, none⟩) p.code.length k') ∧ w'.cell? ⟨b, 22, none⟩ = some (.int .i64 s.pc) ∧ w'.cell? ⟨bb, o + s.pc * 5, none⟩ = some (.int .u8 4) ∧ w'.cell? ⟨bb, o + s.pc * 5 + 1, none⟩ = some (.int .u8 a) ∧ w'.cell? ⟨bb, o + s.pc * 5 + 2, none⟩ = some (.int .u8 ib) ∧ w'.cell? ⟨bb, o + s.pc * 5 + 3, none⟩ = some (.int .u8 c) ∧ w'.cell? ⟨bb, o + s.pc * 5 + 4, none⟩ = some (.int .i64 n)) (go_keep) (first | fail)
  all_goals
    clear p3 c22 d0 d1 d2 d3 d4 hr
    have HBA : Hid (Below W0.heap.size W0 (W0.alloc (.cells (insC ⟨4, a, ib, c, n⟩) 55)).drew) := Lib.hid ((HB.out.alloc (Nat.le_refl _) _).drew)
    have HMA : Hid (Mem (W0.alloc (.cells (insC ⟨4, a, ib, c, n⟩) 55)).drew B b s vo vt) := Lib.hid (HM.out.below HBA.out)
    have HIA : Hid (blk (W0.alloc (.cells (insC ⟨4, a, ib, c, n⟩) 55)).drew W0.heap.size (insC ⟨4, a, ib, c, n⟩) 55) := Lib.hid (blk_new W0 _ _)
    go_upto_region 4 with (first
      | (refine wpList_loadB rfl 55 _ rfl W0.heap.size (insC ⟨4, a, ib, c, n⟩) rfl 55 HIA.out _ Tryd.underlying55 rfl ins_info ?_)
      | (go_at_call 38; refine (HN.out _ HBA.out).mono ?_; rintro e w2 ⟨rfl, hb⟩; have HB2 := Lib.hid (HBA.out.trans (hb.mono HBA.out.size)); have HM2 := Lib.hid (HMA.out.below hb); have HI2 := Lib.hid (blk_below HIA.out hb); clear hb; obtain ⟨-, -, c22, c23⟩ := HM2.out.rest; have f22 := blk_frozen HM2.out.blk 22; have f23 := blk_frozen HM2.out.blk 23))
    clear HBA HMA HIA HN HM c22 c23 f22 f23
    have HM3 : Hid (Mem ((w2.setCell ⟨b, 22, none⟩ (.int .i64 nx)).setCell ⟨b, 23, none⟩ (.int .i64 ((s.steps : Int) + 1))) B b { s with pc := nx, steps := s.steps + 1 } vo vt) := Lib.hid ((HM2.out.setA nx).setS (s.steps + 1))
    have HI3 : Hid (blk ((w2.setCell ⟨b, 22, none⟩ (.int .i64 nx)).setCell ⟨b, 23, none⟩ (.int .i64 ((s.steps : Int) + 1))) W0.heap.size (insC ⟨4, a, ib, c, n⟩) 55) := Lib.hid (blk_setM (HM2.out.setA nx).blk (blk_setM HM2.out.blk HI2.out (by decide)) (by decide))
    have HB3 : Hid (Below B w ((w2.setCell ⟨b, 22, none⟩ (.int .i64 nx)).setCell ⟨b, 23, none⟩ (.int .i64 ((s.steps : Int) + 1)))) := Lib.hid ((((HS.out.trans (HB2.out.mono HS.out.size)).mono hBw).setCell (p := ⟨b, 22, none⟩) HM2.out.hb _).setCell (p := ⟨b, 23, none⟩) HM2.out.hb _)
    have HF3 : Hid (FarB w ((w2.setCell ⟨b, 22, none⟩ (.int .i64 nx)).setCell ⟨b, 23, none⟩ (.int .i64 ((s.steps : Int) + 1))) b) := Lib.hid (((FarB.of_below (HS.out.trans (HB2.out.mono HS.out.size)) b).setB HM2.out.blk).setB (HM2.out.setA nx).blk)
    clear HM2 HI2 HB2
    obtain ⟨w3, hw3⟩ : ∃ w3, w3 = ((w2.setCell ⟨b, 22, none⟩ (.int .i64 nx)).setCell ⟨b, 23, none⟩ (.int .i64 ((s.steps : Int) + 1))) := ⟨_, rfl⟩
    rw [← hw3] at HM3 HI3 HB3 HF3 ⊢
    clear hw3
    have e0 : w3.cell? ⟨W0.heap.size, 0, none⟩ = some (.int .u8 4) := blk_cell HI3.out 0 _ rfl
    have e1 : w3.cell? ⟨W0.heap.size, 1, none⟩ = some (.int .u8 a) := blk_cell HI3.out 1 _ rfl
    have e2 : w3.cell? ⟨W0.heap.size, 2, none⟩ = some (.int .u8 ib) := blk_cell HI3.out 2 _ rfl
    have e3 : w3.cell? ⟨W0.heap.size, 3, none⟩ = some (.int .u8 c) := blk_cell HI3.out 3 _ rfl
    have e4 : w3.cell? ⟨W0.heap.size, 4, none⟩ = some (.int .i64 n) := blk_cell HI3.out 4 _ rfl
    go_wp2_with (fail)
    go_end0
    exact ⟨rfl, ⟨_, _, HM3.out⟩, HB3.out, HF3.out⟩

set_option maxRecDepth 100000 in
set_option maxHeartbeats 4000000 in
theorem do_6 (w W0 : World) (p : PProg) (B b : Nat) (vt' : Value) (s : PSt) (vo vt : Value) (bb o k' : Nat) (a ib c : Nat) (n : Int) (nx : Nat)
    (hW0 : W0 = w.alloc (.cells (progC vt' p (.slice (some ⟨bb, o, none⟩) p.code.length k')) 25)) (HS : Hid (Below w.heap.size w W0)) (hBw : B ≤ w.heap.size) (p3 : W0.cell? ⟨w.heap.size, 3, none⟩ = some (.slice (some ⟨bb, o, none⟩) p.code.length k'))
    (HM : Hid (Mem W0 B b s vo vt)) (hpc : s.pc < p.code.length) (g1 : p.code.length ≤ k') (g2 : k' ≤ 9223372036854775807) (hr : Hid (W0.rangeAt bb (o + s.pc * 5) (insC ⟨6, a, ib, c, n⟩).toList)) (hst : s.steps ≤ 1000000)
    (HN : Hid (∀ w1, Below W0.heap.size W0 w1 → Calls Tryd.prog 38 #[ptr b, insV ⟨6, a, ib, c, n⟩] w1 (AggPost w1 (.int .i64 nx)))) (ha : a < 8) :
    Calls Tryd.prog 25 #[.agg (progC vt' p (.slice (some ⟨bb, o, none⟩) p.code.length k')), ptr b] w (DoPost w B b (setP { s with pc := nx, steps := s.steps + 1 } a 0)) := by
  have HB := Lib.hid (Below.refl W0.heap.size W0)
  go_enter Tryd.func25, Tryd.ntmps25
  go_wp2_with (fail)
  rw [← hW0]
  clear hW0
  obtain ⟨d0, d1, d2, d3, d4⟩ : (W0.cell? ⟨bb, o + s.pc * 5, none⟩ = some (.int .u8 6)) ∧ W0.cell? ⟨bb, o + s.pc * 5 + 1, none⟩ = some (.int .u8 a) ∧ W0.cell? ⟨bb, o + s.pc * 5 + 2, none⟩ = some (.int .u8 ib) ∧ W0.cell? ⟨bb, o + s.pc * 5 + 3, none⟩ = some (.int .u8 c) ∧ W0.cell? ⟨bb, o + s.pc * 5 + 4, none⟩ = some (.int .i64 n) := ⟨hr.out 0 _ rfl, hr.out 1 _ rfl, hr.out 2 _ rfl, hr.out 3 _ rfl, hr.out 4 _ rfl⟩
  obtain ⟨-, -, c22, -⟩ := HM.out.rest
  go_region_held3 (fun w' => w'.cell? ⟨w.heap.size, 3, none⟩ = some (.slice (some ⟨bb, o, none⟩) p.code.length k') ∧ w'.cell? ⟨b, 22, none⟩ = some (.int .i64 s.pc) ∧ w'.cell? ⟨bb, o + s.pc * 5, none⟩ = some (.int .u8 6) ∧ w'.cell? ⟨bb, o + s.pc * 5 + 1, none⟩ = some (.int .u8 a) ∧ w'.cell? ⟨bb, o + s.pc * 5 + 2, none⟩ = some (.int .u8 ib) ∧ w'.cell? ⟨bb, o + s.pc * 5 + 3, none⟩ = some (.int .u8 c) ∧ w'.cell? ⟨bb, o + s.pc * 5 + 4, none⟩ = some (.int .i64 n)) (go_keep) (first | fail)
  all_goals
    clear p3 c22 d0 d1 d2 d3 d4 hr
    have HBA : Hid (Below W0.heap.size W0 (W0.alloc (.cells (insC ⟨6, a, ib, c, n⟩) 55)).drew) := Lib.hid ((HB.out.alloc (Nat.le_refl _) _).drew)
    have HMA : Hid (Mem (W0.alloc (.cells (insC ⟨6, a, ib, c, n⟩) 55)).drew B b s vo vt) := Lib.hid (HM.out.below HBA.out)
    have HIA : Hid (blk (W0.alloc (.cells (insC ⟨6, a, ib, c, n⟩) 55)).drew W0.heap.size (insC ⟨6, a, ib, c, n⟩) 55) := Lib.hid (blk_new W0 _ _)
    go_upto_region 4 with (first
      | (refine wpList_loadB rfl 55 _ rfl W0.heap.size (insC ⟨6, a, ib, c, n⟩) rfl 55 HIA.out _ Tryd.underlying55 rfl ins_info ?_)
      | (go_at_call 38; refine (HN.out _ HBA.out).mono ?_; rintro e w2 ⟨rfl, hb⟩; have HB2 := Lib.hid (HBA.out.trans (hb.mono HBA.out.size)); have HM2 := Lib.hid (HMA.out.below hb); have HI2 := Lib.hid (blk_below HIA.out hb); clear hb; obtain ⟨-, -, c22, c23⟩ := HM2.out.rest; have f22 := blk_frozen HM2.out.blk 22; have f23 := blk_frozen HM2.out.blk 23))
    clear HBA HMA HIA HN HM c22 c23 f22 f23
    have HM3 : Hid (Mem ((w2.setCell ⟨b, 22, none⟩ (.int .i64 nx)).setCell ⟨b, 23, none⟩ (.int .i64 ((s.steps : Int) + 1))) B b { s with pc := nx, steps := s.steps + 1 } vo vt) := Lib.hid ((HM2.out.setA nx).setS (s.steps + 1))
    have HI3 : Hid (blk ((w2.setCell ⟨b, 22, none⟩ (.int .i64 nx)).setCell ⟨b, 23, none⟩ (.int .i64 ((s.steps : Int) + 1))) W0.heap.size (insC ⟨6, a, ib, c, n⟩) 55) := Lib.hid (blk_setM (HM2.out.setA nx).blk (blk_setM HM2.out.blk HI2.out (by decide)) (by decide))
    have HB3 : Hid (Below B w ((w2.setCell ⟨b, 22, none⟩ (.int .i64 nx)).setCell ⟨b, 23, none⟩ (.int .i64 ((s.steps : Int) + 1)))) := Lib.hid ((((HS.out.trans (HB2.out.mono HS.out.size)).mono hBw).setCell (p := ⟨b, 22, none⟩) HM2.out.hb _).setCell (p := ⟨b, 23, none⟩) HM2.out.hb _)
    have HF3 : Hid (FarB w ((w2.setCell ⟨b, 22, none⟩ (.int .i64 nx)).setCell ⟨b, 23, none⟩ (.int .i64 ((s.steps : Int) + 1))) b) := Lib.hid (((FarB.of_below (HS.out.trans (HB2.out.mono HS.out.size)) b).setB HM2.out.blk).setB (HM2.out.setA nx).blk)
    clear HM2 HI2 HB2
    obtain ⟨w3, hw3⟩ : ∃ w3, w3 = ((w2.setCell ⟨b, 22, none⟩ (.int .i64 nx)).setCell ⟨b, 23, none⟩ (.int .i64 ((s.steps : Int) + 1))) := ⟨_, rfl⟩
    rw [← hw3] at HM3 HI3 HB3 HF3 ⊢
    clear hw3
    have e0 : w3.cell? ⟨W0.heap.size, 0, none⟩ = some (.int .u8 6) := blk_cell HI3.out 0 _ rfl
    have e1 : w3.cell? ⟨W0.heap.size, 1, none⟩ = some (.int .u8 a) := blk_cell HI3.out 1 _ rfl
    have e2 : w3.cell? ⟨W0.heap.size, 2, none⟩ = some (.int .u8 ib) := blk_cell HI3.out 2 _ rfl
    have e3 : w3.cell? ⟨W0.heap.size, 3, none⟩ = some (.int .u8 c) := blk_cell HI3.out 3 _ rfl
    have e4 : w3.cell? ⟨W0.heap.size, 4, none⟩ = some (.int .i64 n) := blk_cell HI3.out 4 _ rfl
    have hai : (((a : Nat) : Int)) < 8 := by omega
    have ha0 : (0 : Int) ≤ (a : Nat) := by omega
    have cpa : w3.cell? ⟨b, 8 + a, none⟩ = some (.int .i64 (pA s a)) := HM3.out.p a ha
    have fz := blk_frozen HM3.out.blk (8 + a)
    go_wp2_with (fail)
    refine wp_region_still_tail 6 (by kernel_rfl) (by kernel_rfl) ?_
    simp only [List.take_succ_cons, List.take_zero, List.drop_succ_cons, List.drop_zero]
    change wpStill _ _ w3.drew (fun a' => wpList _ _ _ _ a' w3.drew) _ _
    repeat still_step
    refine wpStill_nil ?_
    go_wp2
    go_end0
    exact ⟨rfl, ⟨_, _, (HM3.out.setP a ha 0).drew⟩, (HB3.out.setCell (p := ⟨b, 8 + a, none⟩) HM3.out.hb _).drew, (HF3.out.setB HM3.out.blk).drew⟩
end Go.Proofs.YtmnoohpkjgjphaaDoor
