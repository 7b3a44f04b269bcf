/-
  The program's do: Print.
-/
import Derived.Test.YtmnoohpkjgjphaaDoorPDo0
import Derived.Deep.RegionLaw
namespace Go.Proofs.YtmnoohpkjgjphaaDoor
set_option linter.unusedSimpArgs false
set_option linter.unusedVariables false
open Go.RowKit

set_option maxRecDepth 100000 in
set_option maxHeartbeats 4000000 in
theorem do_14 (w W0 : World) (p : PProg) (B b : Nat) (vt' : Value) (s : PSt) (vo vt : Value) (bb o k' : Nat) (a ib c : Nat) (n : Int) (nx : Nat)
    (hW0 : W0 = w.alloc (.cells (progC vt' p (.slice (some ⟨bb, o, none⟩) p.code.length k')) 25)) (HS : Hid (Below w.heap.size w W0)) (hBw : B ≤ w.heap.size) (p3 : W0.cell? ⟨w.heap.size, 3, none⟩ = some (.slice (some ⟨bb, o, none⟩) p.code.length k'))
    (HM : Hid (Mem W0 B b s vo vt)) (hpc : s.pc < p.code.length) (g1 : p.code.length ≤ k') (g2 : k' ≤ 9223372036854775807) (hr : Hid (W0.rangeAt bb (o + s.pc * 5) (insC ⟨14, a, ib, c, n⟩).toList)) (hst : s.steps ≤ 1000000)
    (HN : Hid (∀ w1, Below W0.heap.size W0 w1 → Calls Tryd.prog 38 #[ptr b, insV ⟨14, a, ib, c, n⟩] w1 (AggPost w1 (.int .i64 nx)))) (ha : a < 8) (hlo : s.out.length ≤ 1000000) :
    Calls Tryd.prog 25 #[.agg (progC vt' p (.slice (some ⟨bb, o, none⟩) p.code.length k')), ptr b] w (DoPost w B b ({ x := s.x, p := s.p, g := s.g, objs := s.objs, out := s.out ++ [xA s a], pc := nx, steps := s.steps + 1 })) := by
  have HB := Lib.hid (Below.refl W0.heap.size W0)
  go_enter Tryd.func25, Tryd.ntmps25
  go_wp2_with (fail)
  rw [← hW0]
  clear hW0
  obtain ⟨d0, d1, d2, d3, d4⟩ : (W0.cell? ⟨bb, o + s.pc * 5, none⟩ = some (.int .u8 14)) ∧ W0.cell? ⟨bb, o + s.pc * 5 + 1, none⟩ = some (.int .u8 a) ∧ W0.cell? ⟨bb, o + s.pc * 5 + 2, none⟩ = some (.int .u8 ib) ∧ W0.cell? ⟨bb, o + s.pc * 5 + 3, none⟩ = some (.int .u8 c) ∧ W0.cell? ⟨bb, o + s.pc * 5 + 4, none⟩ = some (.int .i64 n) := ⟨hr.out 0 _ rfl, hr.out 1 _ rfl, hr.out 2 _ rfl, hr.out 3 _ rfl, hr.out 4 _ rfl⟩
  obtain ⟨-, -, c22, -⟩ := HM.out.rest
  go_region_held3 (fun w' => w'.cell? ⟨w.heap.size, 3, none⟩ = some (.slice (some ⟨bb, o, none⟩) p.code.length k') ∧ w'.cell? ⟨b, 22, none⟩ = some (.int .i64 s.pc) ∧ w'.cell? ⟨bb, o + s.pc * 5, none⟩ = some (.int .u8 14) ∧ w'.cell? ⟨bb, o + s.pc * 5 + 1, none⟩ = some (.int .u8 a) ∧ w'.cell? ⟨bb, o + s.pc * 5 + 2, none⟩ = some (.int .u8 ib) ∧ w'.cell? ⟨bb, o + s.pc * 5 + 3, none⟩ = some (.int .u8 c) ∧ w'.cell? ⟨bb, o + s.pc * 5 + 4, none⟩ = some (.int .i64 n)) (go_keep) (first | fail)
  all_goals
    clear p3 c22 d0 d1 d2 d3 d4 hr
    have HBA : Hid (Below W0.heap.size W0 (W0.alloc (.cells (insC ⟨14, a, ib, c, n⟩) 55)).drew) := Lib.hid ((HB.out.alloc (Nat.le_refl _) _).drew)
    have HMA : Hid (Mem (W0.alloc (.cells (insC ⟨14, a, ib, c, n⟩) 55)).drew B b s vo vt) := Lib.hid (HM.out.below HBA.out)
    have HIA : Hid (blk (W0.alloc (.cells (insC ⟨14, a, ib, c, n⟩) 55)).drew W0.heap.size (insC ⟨14, a, ib, c, n⟩) 55) := Lib.hid (blk_new W0 _ _)
    go_upto_region 4 with (first
      | (refine wpList_loadB rfl 55 _ rfl W0.heap.size (insC ⟨14, a, ib, c, n⟩) rfl 55 HIA.out _ Tryd.underlying55 rfl ins_info ?_)
      | (go_at_call 38; refine (HN.out _ HBA.out).mono ?_; rintro e w2 ⟨rfl, hb⟩; have HB2 := Lib.hid (HBA.out.trans (hb.mono HBA.out.size)); have HM2 := Lib.hid (HMA.out.below hb); have HI2 := Lib.hid (blk_below HIA.out hb); clear hb; obtain ⟨-, -, c22, c23⟩ := HM2.out.rest; have f22 := blk_frozen HM2.out.blk 22; have f23 := blk_frozen HM2.out.blk 23))
    clear HBA HMA HIA HN HM c22 c23 f22 f23
    have HM3 : Hid (Mem ((w2.setCell ⟨b, 22, none⟩ (.int .i64 nx)).setCell ⟨b, 23, none⟩ (.int .i64 ((s.steps : Int) + 1))) B b { s with pc := nx, steps := s.steps + 1 } vo vt) := Lib.hid ((HM2.out.setA nx).setS (s.steps + 1))
    have HI3 : Hid (blk ((w2.setCell ⟨b, 22, none⟩ (.int .i64 nx)).setCell ⟨b, 23, none⟩ (.int .i64 ((s.steps : Int) + 1))) W0.heap.size (insC ⟨14, a, ib, c, n⟩) 55) := Lib.hid (blk_setM (HM2.out.setA nx).blk (blk_setM HM2.out.blk HI2.out (by decide)) (by decide))
    have HB3 : Hid (Below B w ((w2.setCell ⟨b, 22, none⟩ (.int .i64 nx)).setCell ⟨b, 23, none⟩ (.int .i64 ((s.steps : Int) + 1)))) := Lib.hid ((((HS.out.trans (HB2.out.mono HS.out.size)).mono hBw).setCell (p := ⟨b, 22, none⟩) HM2.out.hb _).setCell (p := ⟨b, 23, none⟩) HM2.out.hb _)
    have HF3 : Hid (FarB w ((w2.setCell ⟨b, 22, none⟩ (.int .i64 nx)).setCell ⟨b, 23, none⟩ (.int .i64 ((s.steps : Int) + 1))) b) := Lib.hid (((FarB.of_below (HS.out.trans (HB2.out.mono HS.out.size)) b).setB HM2.out.blk).setB (HM2.out.setA nx).blk)
    clear HM2 HI2 HB2
    obtain ⟨w3, hw3⟩ : ∃ w3, w3 = ((w2.setCell ⟨b, 22, none⟩ (.int .i64 nx)).setCell ⟨b, 23, none⟩ (.int .i64 ((s.steps : Int) + 1))) := ⟨_, rfl⟩
    rw [← hw3] at HM3 HI3 HB3 HF3 ⊢
    clear hw3
    have e0 : w3.cell? ⟨W0.heap.size, 0, none⟩ = some (.int .u8 14) := blk_cell HI3.out 0 _ rfl
    have e1 : w3.cell? ⟨W0.heap.size, 1, none⟩ = some (.int .u8 a) := blk_cell HI3.out 1 _ rfl
    have e2 : w3.cell? ⟨W0.heap.size, 2, none⟩ = some (.int .u8 ib) := blk_cell HI3.out 2 _ rfl
    have e3 : w3.cell? ⟨W0.heap.size, 3, none⟩ = some (.int .u8 c) := blk_cell HI3.out 3 _ rfl
    have e4 : w3.cell? ⟨W0.heap.size, 4, none⟩ = some (.int .i64 n) := blk_cell HI3.out 4 _ rfl
    have hai : (((a : Nat) : Int)) < 8 := by omega
    have ha0 : (0 : Int) ≤ (a : Nat) := by omega
    have cxa : w3.cell? ⟨b, a, none⟩ = some (.int .i64 (xA s a)) := HM3.out.x a ha
    obtain ⟨i0, hi0, hz0, hz1, hz2⟩ := info_parts info64
    obtain ⟨va, vc, hvt, hvl, hvc⟩ := own_form HM3.out.parts.out
    have hvt' : vt = .slice va s.out.length vc := hvt
    clear hvt
    subst hvt'
    obtain ⟨-, c21, -, -⟩ := HM3.out.rest
    have f21 := blk_frozen HM3.out.blk 21
    have HBL := Lib.hid HM3.out.blk
    generalize hxx : xA s (a : Int) = z at *
    have hvl' : s.out.length ≤ vc := hvl
    clear hvl
    have c21a := blk_cell (blk_alloc HBL.out (.cells #[.int .i64 z] 2)) 21 _ (stC_rest HM3.out.parts.len).2.1
    have HBZ := Lib.hid ((((Below.refl w3.heap.size w3).alloc (Nat.le_refl _) (.cells #[.int .i64 z] 2))).drew)
    have hBs : B ≤ w3.heap.size := by have := HM3.out.lt; omega
    go_wp2_with (fail)
    go_region_law (first
      | (refine step_append_lies _ (by rfl) _ _ _ (by rfl) B 2 i0 (.int .i64 0) 1 8 Tryd.underlying32 hi0 hz0 hz1 hz2 rfl (by omega) (.slice va s.out.length vc) s.out.length (i64s s.out) (by rfl) (own_below HM3.out.parts.out HBZ.out) ⟨w3.heap.size, 0, none⟩ 1 1 [.int .i64 z] (by rfl) (by rfl) (one_cellV (w := w3) _ 2) (by intro u hu; simp at hu; subst hu; rfl) (by omega) (by unfold maxLen; omega) (by omega) (by simp; omega) _ rfl ?_
         intro gg cp w4 hown4 hgr4 hat4 _
         have HB4 := Lib.hid (blk_grown (blk_below HBL.out HBZ.out) hgr4 (fun e => own_ne HM3.out.parts.out HBL.out (by decide) b e rfl))
         have HP4 := Lib.hid (parts_out (HM3.out.parts.below HBZ.out) hown4 hgr4 (hat4.imp (fun e => e.symm) (fun e => by rw [e]; rfl)))
         have HBW := Lib.hid ((HB3.out.trans (HBZ.out.mono hBs)).grown hgr4 (by simp; omega) (fun g hg => (own_lt HM3.out.parts.out g hg).1))
         have HFW : Hid (FarB w w4 b) := Lib.hid fun g cs t hg h1 h2 h3 => blk_grown (blk_below (HF3.out g cs t hg h1 h2 h3) HBZ.out) hgr4 (fun e => own_ne HM3.out.parts.out (HF3.out g cs t hg h1 h2 h3) h3 g e rfl)
         clear hown4 hgr4 hat4 c21 f21 c21a
         have c21 := blk_cell HB4.out _ _ (stC_rest (vo := vo) (vt := .slice va s.out.length vc) HM3.out.parts.len).2.1
         have f21 := blk_frozen HB4.out 21))
    all_goals
      have HN4 := Lib.hid (Mem.newOut HB4.out HM3.out.hb HP4.out)
      have HBL4 := Lib.hid HB4.out
      clear HB4 HP4 HBZ HBL
      go_wp2
      go_end0
      exact ⟨rfl, ⟨_, _, HN4.out⟩, HBW.out.setCell (p := ⟨b, 21, none⟩) HN4.out.hb _, HFW.out.setB HBL4.out⟩
end Go.Proofs.YtmnoohpkjgjphaaDoor
