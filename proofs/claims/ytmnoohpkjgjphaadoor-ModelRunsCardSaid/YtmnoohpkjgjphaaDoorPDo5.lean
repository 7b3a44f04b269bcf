/-
  The program's do: New and Print.
-/
import Derived.Test.YtmnoohpkjgjphaaDoorPDo0
namespace Go.Proofs.YtmnoohpkjgjphaaDoor
set_option linter.unusedSimpArgs false
set_option linter.unusedVariables false
open Go.RowKit

set_option maxRecDepth 100000 in
set_option maxHeartbeats 4000000 in
theorem do_5 (w W0 : World) (p : PProg) (B b : Nat) (vt' : Value) (s : PSt) (vo vt : Value) (bb o k' : Nat) (a ib c : Nat) (n : Int) (nx : Nat)
    (hW0 : W0 = w.alloc (.cells (progC vt' p (.slice (some ⟨bb, o, none⟩) p.code.length k')) 25)) (HS : Hid (Below w.heap.size w W0)) (hBw : B ≤ w.heap.size) (p3 : W0.cell? ⟨w.heap.size, 3, none⟩ = some (.slice (some ⟨bb, o, none⟩) p.code.length k'))
    (HM : Hid (Mem W0 B b s vo vt)) (hpc : s.pc < p.code.length) (g1 : p.code.length ≤ k') (g2 : k' ≤ 9223372036854775807) (hr : Hid (W0.rangeAt bb (o + s.pc * 5) (insC ⟨5, a, ib, c, n⟩).toList)) (hst : s.steps ≤ 1000000)
    (HN : Hid (∀ w1, Below W0.heap.size W0 w1 → Calls Tryd.prog 38 #[ptr b, insV ⟨5, a, ib, c, n⟩] w1 (AggPost w1 (.int .i64 nx)))) (ha : a < 8) (z : Nat) (KP : Hid (blk W0 w.heap.size (progC vt' p (.slice (some ⟨bb, o, none⟩) p.code.length k')) 25)) (HNEW : Hid (∀ w1 s1 vo1 vt1, Mem w1 B b s1 vo1 vt1 → Below B w w1 → s1.objs.length = s.objs.length → Calls Tryd.prog 39 #[.agg (progC vt' p (.slice (some ⟨bb, o, none⟩) p.code.length k')), ptr b, .int .u8 a] w1 (NewPost w1 B b s1 vt1 z))) :
    Calls Tryd.prog 25 #[.agg (progC vt' p (.slice (some ⟨bb, o, none⟩) p.code.length k')), ptr b] w (DoPost w B b (setP { x := s.x, p := s.p, g := s.g, objs := s.objs ++ [List.replicate z 0], out := s.out, pc := nx, steps := s.steps + 1 } a ((s.objs.length : Int) + 1))) := by
  have HB := Lib.hid (Below.refl W0.heap.size W0)
  go_enter Tryd.func25, Tryd.ntmps25
  go_wp2_with (fail)
  rw [← hW0]
  clear hW0
  obtain ⟨d0, d1, d2, d3, d4⟩ : (W0.cell? ⟨bb, o + s.pc * 5, none⟩ = some (.int .u8 5)) ∧ W0.cell? ⟨bb, o + s.pc * 5 + 1, none⟩ = some (.int .u8 a) ∧ W0.cell? ⟨bb, o + s.pc * 5 + 2, none⟩ = some (.int .u8 ib) ∧ W0.cell? ⟨bb, o + s.pc * 5 + 3, none⟩ = some (.int .u8 c) ∧ W0.cell? ⟨bb, o + s.pc * 5 + 4, none⟩ = some (.int .i64 n) := ⟨hr.out 0 _ rfl, hr.out 1 _ rfl, hr.out 2 _ rfl, hr.out 3 _ rfl, hr.out 4 _ rfl⟩
  obtain ⟨-, -, c22, -⟩ := HM.out.rest
  go_region_held3 (fun w' => w'.cell? ⟨w.heap.size, 3, none⟩ = some (.slice (some ⟨bb, o, none⟩) p.code.length k') ∧ w'.cell? ⟨b, 22, none⟩ = some (.int .i64 s.pc) ∧ w'.cell? ⟨bb, o + s.pc * 5, none⟩ = some (.int .u8 5) ∧ w'.cell? ⟨bb, o + s.pc * 5 + 1, none⟩ = some (.int .u8 a) ∧ w'.cell? ⟨bb, o + s.pc * 5 + 2, none⟩ = some (.int .u8 ib) ∧ w'.cell? ⟨bb, o + s.pc * 5 + 3, none⟩ = some (.int .u8 c) ∧ w'.cell? ⟨bb, o + s.pc * 5 + 4, none⟩ = some (.int .i64 n)) (go_keep) (first | fail)
  all_goals
    clear p3 c22 d0 d1 d2 d3 d4 hr
    have HBA : Hid (Below W0.heap.size W0 (W0.alloc (.cells (insC ⟨5, a, ib, c, n⟩) 55)).drew) := Lib.hid ((HB.out.alloc (Nat.le_refl _) _).drew)
    have HMA : Hid (Mem (W0.alloc (.cells (insC ⟨5, a, ib, c, n⟩) 55)).drew B b s vo vt) := Lib.hid (HM.out.below HBA.out)
    have HIA : Hid (blk (W0.alloc (.cells (insC ⟨5, a, ib, c, n⟩) 55)).drew W0.heap.size (insC ⟨5, a, ib, c, n⟩) 55) := Lib.hid (blk_new W0 _ _)
    go_upto_region 4 with (first
      | (refine wpList_loadB rfl 55 _ rfl W0.heap.size (insC ⟨5, a, ib, c, n⟩) rfl 55 HIA.out _ Tryd.underlying55 rfl ins_info ?_)
      | (go_at_call 38; refine (HN.out _ HBA.out).mono ?_; rintro e w2 ⟨rfl, hb⟩; have HB2 := Lib.hid (HBA.out.trans (hb.mono HBA.out.size)); have HM2 := Lib.hid (HMA.out.below hb); have HI2 := Lib.hid (blk_below HIA.out hb); clear hb; obtain ⟨-, -, c22, c23⟩ := HM2.out.rest; have f22 := blk_frozen HM2.out.blk 22; have f23 := blk_frozen HM2.out.blk 23))
    have KP2 := Lib.hid (blk_below KP.out HB2.out)
    have KP3 : Hid (blk ((w2.setCell ⟨b, 22, none⟩ (.int .i64 nx)).setCell ⟨b, 23, none⟩ (.int .i64 ((s.steps : Int) + 1))) w.heap.size (progC vt' p (.slice (some ⟨bb, o, none⟩) p.code.length k')) 25) := Lib.hid (blk_setM (HM2.out.setA nx).blk (blk_setM HM2.out.blk KP2.out (by decide)) (by decide))
    clear HBA HMA HIA HN HM c22 c23 f22 f23
    have HM3 : Hid (Mem ((w2.setCell ⟨b, 22, none⟩ (.int .i64 nx)).setCell ⟨b, 23, none⟩ (.int .i64 ((s.steps : Int) + 1))) B b { s with pc := nx, steps := s.steps + 1 } vo vt) := Lib.hid ((HM2.out.setA nx).setS (s.steps + 1))
    have HI3 : Hid (blk ((w2.setCell ⟨b, 22, none⟩ (.int .i64 nx)).setCell ⟨b, 23, none⟩ (.int .i64 ((s.steps : Int) + 1))) W0.heap.size (insC ⟨5, a, ib, c, n⟩) 55) := Lib.hid (blk_setM (HM2.out.setA nx).blk (blk_setM HM2.out.blk HI2.out (by decide)) (by decide))
    have HB3 : Hid (Below B w ((w2.setCell ⟨b, 22, none⟩ (.int .i64 nx)).setCell ⟨b, 23, none⟩ (.int .i64 ((s.steps : Int) + 1)))) := Lib.hid ((((HS.out.trans (HB2.out.mono HS.out.size)).mono hBw).setCell (p := ⟨b, 22, none⟩) HM2.out.hb _).setCell (p := ⟨b, 23, none⟩) HM2.out.hb _)
    have HF3 : Hid (FarB w ((w2.setCell ⟨b, 22, none⟩ (.int .i64 nx)).setCell ⟨b, 23, none⟩ (.int .i64 ((s.steps : Int) + 1))) b) := Lib.hid (((FarB.of_below (HS.out.trans (HB2.out.mono HS.out.size)) b).setB HM2.out.blk).setB (HM2.out.setA nx).blk)
    clear HM2 HI2 HB2
    obtain ⟨w3, hw3⟩ : ∃ w3, w3 = ((w2.setCell ⟨b, 22, none⟩ (.int .i64 nx)).setCell ⟨b, 23, none⟩ (.int .i64 ((s.steps : Int) + 1))) := ⟨_, rfl⟩
    rw [← hw3] at HM3 HI3 HB3 HF3 KP3 ⊢
    clear hw3
    have e0 : w3.cell? ⟨W0.heap.size, 0, none⟩ = some (.int .u8 5) := blk_cell HI3.out 0 _ rfl
    have e1 : w3.cell? ⟨W0.heap.size, 1, none⟩ = some (.int .u8 a) := blk_cell HI3.out 1 _ rfl
    have e2 : w3.cell? ⟨W0.heap.size, 2, none⟩ = some (.int .u8 ib) := blk_cell HI3.out 2 _ rfl
    have e3 : w3.cell? ⟨W0.heap.size, 3, none⟩ = some (.int .u8 c) := blk_cell HI3.out 3 _ rfl
    have e4 : w3.cell? ⟨W0.heap.size, 4, none⟩ = some (.int .i64 n) := blk_cell HI3.out 4 _ rfl
    have hai : (((a : Nat) : Int)) < 8 := by omega
    have ha0 : (0 : Int) ≤ (a : Nat) := by omega
    obtain ⟨h0, h1, h2, h3⟩ : w3.cell? ⟨w.heap.size, 0, none⟩ = some vt' ∧ w3.cell? ⟨w.heap.size, 1, none⟩ = some (str p.locals) ∧ w3.cell? ⟨w.heap.size, 2, none⟩ = some (str p.globs) ∧ w3.cell? ⟨w.heap.size, 3, none⟩ = some (.slice (some ⟨bb, o, none⟩) p.code.length k') := ⟨blk_cell KP3.out 0 _ rfl, blk_cell KP3.out 1 _ rfl, blk_cell KP3.out 2 _ rfl, blk_cell KP3.out 3 _ rfl⟩
    have hne1 : b ≠ w.heap.size := (blk_ne KP3.out HM3.out.blk (by decide)).symm
    have hne2 : b ≠ W0.heap.size := (blk_ne HI3.out HM3.out.blk (by decide)).symm
    go_wp2_with (fail)
    go_region_held3 (fun w' => w'.cell? ⟨W0.heap.size, 1, none⟩ = some (.int .u8 a) ∧ w'.cell? ⟨w.heap.size, 0, none⟩ = some vt' ∧ w'.cell? ⟨w.heap.size, 1, none⟩ = some (str p.locals) ∧ w'.cell? ⟨w.heap.size, 2, none⟩ = some (str p.globs) ∧ w'.cell? ⟨w.heap.size, 3, none⟩ = some (.slice (some ⟨bb, o, none⟩) p.code.length k')) (first
      | exact ⟨far_cell (HM4.out.blk) KI4.out (by decide) e1', far_cell (HM4.out.blk) KP4.out (by decide) h0', far_cell (HM4.out.blk) KP4.out (by decide) h1', far_cell (HM4.out.blk) KP4.out (by decide) h2', far_cell (HM4.out.blk) KP4.out (by decide) h3'⟩
      | go_keep) (first
      | (go_at_call 39; refine (HNEW.out _ _ _ _ HM3.out.drew HB3.out.drew rfl).mono ?_; rintro e w4 ⟨rfl, ⟨vo', hm4⟩, hfar, hb4⟩
         have HM4 := Lib.hid hm4
         have HB4 := Lib.hid hb4
         have KI4 := Lib.hid (hfar _ _ _ (show blk w3.drew _ _ _ from HI3.out) (fun e => hne2 e.symm) (by decide) (by decide))
         have KP4 := Lib.hid (hfar _ _ _ (show blk w3.drew _ _ _ from KP3.out) (fun e => hne1 e.symm) (by decide) (by decide))
         have HFW := Lib.hid (HF3.out.drew.trans hfar)
         clear hm4 hfar hb4
         have e1' : w4.cell? ⟨W0.heap.size, 1, none⟩ = some (.int .u8 a) := blk_cell KI4.out 1 _ rfl
         obtain ⟨h0', h1', h2', h3'⟩ : w4.cell? ⟨w.heap.size, 0, none⟩ = some vt' ∧ w4.cell? ⟨w.heap.size, 1, none⟩ = some (str p.locals) ∧ w4.cell? ⟨w.heap.size, 2, none⟩ = some (str p.globs) ∧ w4.cell? ⟨w.heap.size, 3, none⟩ = some (.slice (some ⟨bb, o, none⟩) p.code.length k') := ⟨blk_cell KP4.out 0 _ rfl, blk_cell KP4.out 1 _ rfl, blk_cell KP4.out 2 _ rfl, blk_cell KP4.out 3 _ rfl⟩
         have cpa := HM4.out.p a ha
         have fz := blk_frozen HM4.out.blk (8 + a)))
    all_goals
      go_wp2
      go_end0
      exact ⟨rfl, ⟨_, _, HM4.out.setP a ha _⟩, ((HB3.out.drew).trans HB4.out).setCell (p := ⟨b, 8 + a, none⟩) HM3.out.hb _, HFW.out.setB HM4.out.blk⟩
end Go.Proofs.YtmnoohpkjgjphaaDoor
