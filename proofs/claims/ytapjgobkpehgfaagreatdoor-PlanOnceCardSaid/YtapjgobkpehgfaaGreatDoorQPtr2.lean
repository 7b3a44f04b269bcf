/-
  The document's pointers: Move, LoadG, StoreG, and what is none of them.
-/
import Derived.Test.YtapjgobkpehgfaaGreatDoorQPtr
import Derived.StillTailTactics
namespace Go.Proofs.YtapjgobkpehgfaaGreatDoor
set_option linter.unusedSimpArgs false
set_option linter.unusedVariables false
open Go.RowKit

set_option maxRecDepth 100000 in
set_option maxHeartbeats 4000000 in
theorem ptr_7 (w W0 : World) (C : Array Value) (s : PSt) (vo vt : Value) (a ib c : Nat) (n : Int) (h : StN w vo vt s)
    (hW0 : W0 = (((w.alloc (.cells C 25)).alloc (.cells (stC s vo vt) 44)).alloc (.cells (insC ⟨7, a, ib, c, n⟩) 46)).alloc (.cells zeroS 44)) (ha : a < 8) (hib : ib < 8) :
    Calls Tryz.prog 25 #[.agg C, .agg (stC s vo vt), insV ⟨7, a, ib, c, n⟩] w (PartPost w (setP s a (pA s ib)) (.bool true)) := by
  obtain ⟨hw, hpr, hsz⟩ := RpW.start0 hW0 h
  have HW := Lib.hid hw
  have HP := Lib.hid hpr
  have HL := Lib.hid h.len
  have HSZ := Lib.hid hsz
  clear hw h hsz hpr
  go_enter Tryz.func25, Tryz.ntmps25
  go_upto_region 1 with (fail)
  rw [← hW0]
  clear hW0
  go_cut [8, 9] from 12 (fun v8 v9 wx => ∃ Y Z, v8 = .pointer (some ⟨Y, 0, none⟩) ∧ v9 = .pointer (some ⟨Z, 0, none⟩) ∧ RpW w wx Y Z C s vo vt ⟨7, a, ib, c, n⟩ s.p s.g)
  case first =>
    have c0 : W0.cell? ⟨w.heap.size + 1, 8, none⟩ = some (.int .i64 (pA s 0)) := blk_cell HW.out.st _ _ (stC_p HL.out 0 (by omega))
    have c1 : W0.cell? ⟨w.heap.size + 1, 9, none⟩ = some (.int .i64 (pA s 1)) := blk_cell HW.out.st _ _ (stC_p HL.out 1 (by omega))
    have c2 : W0.cell? ⟨w.heap.size + 1, 10, none⟩ = some (.int .i64 (pA s 2)) := blk_cell HW.out.st _ _ (stC_p HL.out 2 (by omega))
    have c3 : W0.cell? ⟨w.heap.size + 1, 11, none⟩ = some (.int .i64 (pA s 3)) := blk_cell HW.out.st _ _ (stC_p HL.out 3 (by omega))
    have c4 : W0.cell? ⟨w.heap.size + 1, 12, none⟩ = some (.int .i64 (pA s 4)) := blk_cell HW.out.st _ _ (stC_p HL.out 4 (by omega))
    have c5 : W0.cell? ⟨w.heap.size + 1, 13, none⟩ = some (.int .i64 (pA s 5)) := blk_cell HW.out.st _ _ (stC_p HL.out 5 (by omega))
    have c6 : W0.cell? ⟨w.heap.size + 1, 14, none⟩ = some (.int .i64 (pA s 6)) := blk_cell HW.out.st _ _ (stC_p HL.out 6 (by omega))
    have c7 : W0.cell? ⟨w.heap.size + 1, 15, none⟩ = some (.int .i64 (pA s 7)) := blk_cell HW.out.st _ _ (stC_p HL.out 7 (by omega))
    have d0 : W0.cell? ⟨w.heap.size + 1, 16, none⟩ = some (.int .i64 (gA s 0)) := blk_cell HW.out.st _ _ (stC_g HL.out 0 (by omega))
    have d1 : W0.cell? ⟨w.heap.size + 1, 17, none⟩ = some (.int .i64 (gA s 1)) := blk_cell HW.out.st _ _ (stC_g HL.out 1 (by omega))
    have d2 : W0.cell? ⟨w.heap.size + 1, 18, none⟩ = some (.int .i64 (gA s 2)) := blk_cell HW.out.st _ _ (stC_g HL.out 2 (by omega))
    have d3 : W0.cell? ⟨w.heap.size + 1, 19, none⟩ = some (.int .i64 (gA s 3)) := blk_cell HW.out.st _ _ (stC_g HL.out 3 (by omega))
    have hz : w.heap.size + 1 < W0.heap.size := by have := HSZ.out; omega
    go_region_held3 (fun w' => w'.cell? ⟨w.heap.size + 1, 8, none⟩ = some (.int .i64 (pA s 0)) ∧ w'.cell? ⟨w.heap.size + 1, 9, none⟩ = some (.int .i64 (pA s 1)) ∧ w'.cell? ⟨w.heap.size + 1, 10, none⟩ = some (.int .i64 (pA s 2)) ∧ w'.cell? ⟨w.heap.size + 1, 11, none⟩ = some (.int .i64 (pA s 3)) ∧ w'.cell? ⟨w.heap.size + 1, 12, none⟩ = some (.int .i64 (pA s 4)) ∧ w'.cell? ⟨w.heap.size + 1, 13, none⟩ = some (.int .i64 (pA s 5)) ∧ w'.cell? ⟨w.heap.size + 1, 14, none⟩ = some (.int .i64 (pA s 6)) ∧ w'.cell? ⟨w.heap.size + 1, 15, none⟩ = some (.int .i64 (pA s 7)) ∧ w'.cell? ⟨w.heap.size + 1, 16, none⟩ = some (.int .i64 (gA s 0)) ∧ w'.cell? ⟨w.heap.size + 1, 17, none⟩ = some (.int .i64 (gA s 1)) ∧ w'.cell? ⟨w.heap.size + 1, 18, none⟩ = some (.int .i64 (gA s 2)) ∧ w'.cell? ⟨w.heap.size + 1, 19, none⟩ = some (.int .i64 (gA s 3))) (go_keep) (first | fail)
    all_goals
      clear c0 c1 c2 c3 c4 c5 c6 c7 d0 d1 d2 d3
      go_wp2_with fail
      go_meet
      first
        | exact ⟨_, _, rfl, rfl, RpW.mk1 HW.out HP.out HSZ.out⟩
        | exact ⟨_, _, rfl, rfl, RpW.mk2 HW.out HP.out HSZ.out⟩
  case rest =>
    obtain ⟨Y, Z, rfl, rfl, hq⟩ := hcut
    have HQ := Lib.hid hq
    clear hq HW HP HSZ
    obtain ⟨e0, e1, e2, e3, e4⟩ := ins_e HQ.out.rf.ins
    have hp8 := HL.out.p
    have hg4 := HL.out.g
    have hYB := HQ.out.hy
    have hZB := HQ.out.hz
    have ha8 : (a : Int) < 8 := by omega
    have ha0 : (0 : Int) ≤ (a : Int) := by omega
    have hib8 : (ib : Int) < 8 := by omega
    have hib0 : (0 : Int) ≤ (ib : Int) := by omega
    have ca : wc.cell? ⟨Y, a, none⟩ = some (.int .i64 (pA s a)) := xC_cell HQ.out.y (k := a) (by omega)
    have fa := blk_frozen HQ.out.y a
    have cb : wc.cell? ⟨Y, ib, none⟩ = some (.int .i64 (pA s ib)) := xC_cell HQ.out.y (k := ib) (by omega)
    go_upto_region 12 with (fail)
    refine wp_region_still_tail 7 (by kernel_rfl) (by kernel_rfl) ?_
    simp only [List.take_succ_cons, List.take_zero, List.drop_succ_cons, List.drop_zero]
    change wpStill _ _ wc.drew (fun a' => wpList _ _ _ _ a' wc.drew) _ _
    repeat still_step
    refine wpStill_nil ?_
    go_upto_region 17 with (fail)
    have HQ2 : Hid (RpW w (wc.setCell ⟨Y, a, none⟩ (.int .i64 (pA s ib))).drew Y Z C s vo vt ⟨7, a, ib, c, n⟩ (s.p.set a (pA s ib)) s.g) := Lib.hid ((HQ.out.setQ a (pA s ib)).next (Below.refl _ _).drew)
    have hlq : (s.p.set a (pA s ib)).length = 8 := by first | exact hp8 | (rw [List.length_set]; exact hp8)
    have hlg : s.g.length = 4 := by first | exact hg4 | (rw [List.length_set]; exact hg4)
    clear HQ ca cb fa e0 e1 e2 e3 e4
    obtain ⟨w2, hw2⟩ : ∃ w2, w2 = (wc.setCell ⟨Y, a, none⟩ (.int .i64 (pA s ib))).drew := ⟨_, rfl⟩
    rw [← hw2] at HQ2 ⊢
    clear hw2
    go_wp2_with (first
      | (refine wpList_loadB rfl 39 _ rfl Y (xC (s.p.set a (pA s ib))) rfl 39 HQ2.out.y _ Tryz.underlying39 rfl (p8_info hlq) ?_)
      | (refine wpList_putP rfl _ _ rfl rfl rfl HQ2.out.rf.st HQ2.out.rf.at'.len hlq ?_
         have HQ3 := Lib.hid (HQ2.out.put (t := { s with p := (s.p.set a (pA s ib)) }) ⟨⟨HQ2.out.rf.at'.len.x, hlq, HQ2.out.rf.at'.len.g⟩, HQ2.out.rf.at'.objs, HQ2.out.rf.at'.out⟩)
         clear HQ2)
      | (refine wpList_loadB rfl 40 _ rfl Z (xC s.g) rfl 40 HQ3.out.z _ Tryz.underlying40 rfl (g4_info hlg) ?_)
      | (refine wpList_putG rfl _ _ rfl rfl rfl HQ3.out.rf.st HQ3.out.rf.at'.len hlg ?_
         have HQ4 := Lib.hid (HQ3.out.put (t := { s with p := (s.p.set a (pA s ib)), g := s.g }) ⟨⟨HQ3.out.rf.at'.len.x, hlq, hlg⟩, HQ3.out.rf.at'.objs, HQ3.out.rf.at'.out⟩)
         clear HQ3)
      | (refine wpList_loadB rfl 44 _ rfl (w.heap.size + 1) _ rfl 44 HQ4.out.rf.st _ Tryz.underlying44 rfl (rstate_size HQ4.out.rf.at'.len) ?_)
      | (refine wpList_putB rfl 44 _ _ rfl (w.heap.size + 1 + 2) _ rfl rfl 44 _ HQ4.out.rf.res (rstate_size HQ4.out.rf.at'.len) (by rw [stC_size HQ4.out.rf.at'.len]; rfl) (stC_one' HQ4.out.rf.at') ?_))
    refine bodyPost_ret (v := .tuple #[.agg (stC { s with p := (s.p.set a (pA s ib)), g := s.g } vo vt), .bool true]) ?_ rfl HQ4.out.rf.post
    rw [res_cell1 (p := 6) (u := 7) rfl _ _ (w.heap.size + 1 + 2) (stC { s with p := (s.p.set a (pA s ib)), g := s.g } vo vt) 44 _ rfl (putB_at HQ4.out.rf.res _ _) Tryz.underlying44 rfl (rstate_size HQ4.out.rf.at'.len)]; rfl

set_option maxRecDepth 100000 in
set_option maxHeartbeats 4000000 in
theorem ptr_12 (w W0 : World) (C : Array Value) (s : PSt) (vo vt : Value) (a ib c : Nat) (n : Int) (h : StN w vo vt s)
    (hW0 : W0 = (((w.alloc (.cells C 25)).alloc (.cells (stC s vo vt) 44)).alloc (.cells (insC ⟨12, a, ib, c, n⟩) 46)).alloc (.cells zeroS 44)) (ha : a < 8) (hib : ib < 4) :
    Calls Tryz.prog 25 #[.agg C, .agg (stC s vo vt), insV ⟨12, a, ib, c, n⟩] w (PartPost w (setP s a (gA s ib)) (.bool true)) := by
  obtain ⟨hw, hpr, hsz⟩ := RpW.start0 hW0 h
  have HW := Lib.hid hw
  have HP := Lib.hid hpr
  have HL := Lib.hid h.len
  have HSZ := Lib.hid hsz
  clear hw h hsz hpr
  go_enter Tryz.func25, Tryz.ntmps25
  go_upto_region 1 with (fail)
  rw [← hW0]
  clear hW0
  go_cut [8, 9] from 12 (fun v8 v9 wx => ∃ Y Z, v8 = .pointer (some ⟨Y, 0, none⟩) ∧ v9 = .pointer (some ⟨Z, 0, none⟩) ∧ RpW w wx Y Z C s vo vt ⟨12, a, ib, c, n⟩ s.p s.g)
  case first =>
    have c0 : W0.cell? ⟨w.heap.size + 1, 8, none⟩ = some (.int .i64 (pA s 0)) := blk_cell HW.out.st _ _ (stC_p HL.out 0 (by omega))
    have c1 : W0.cell? ⟨w.heap.size + 1, 9, none⟩ = some (.int .i64 (pA s 1)) := blk_cell HW.out.st _ _ (stC_p HL.out 1 (by omega))
    have c2 : W0.cell? ⟨w.heap.size + 1, 10, none⟩ = some (.int .i64 (pA s 2)) := blk_cell HW.out.st _ _ (stC_p HL.out 2 (by omega))
    have c3 : W0.cell? ⟨w.heap.size + 1, 11, none⟩ = some (.int .i64 (pA s 3)) := blk_cell HW.out.st _ _ (stC_p HL.out 3 (by omega))
    have c4 : W0.cell? ⟨w.heap.size + 1, 12, none⟩ = some (.int .i64 (pA s 4)) := blk_cell HW.out.st _ _ (stC_p HL.out 4 (by omega))
    have c5 : W0.cell? ⟨w.heap.size + 1, 13, none⟩ = some (.int .i64 (pA s 5)) := blk_cell HW.out.st _ _ (stC_p HL.out 5 (by omega))
    have c6 : W0.cell? ⟨w.heap.size + 1, 14, none⟩ = some (.int .i64 (pA s 6)) := blk_cell HW.out.st _ _ (stC_p HL.out 6 (by omega))
    have c7 : W0.cell? ⟨w.heap.size + 1, 15, none⟩ = some (.int .i64 (pA s 7)) := blk_cell HW.out.st _ _ (stC_p HL.out 7 (by omega))
    have d0 : W0.cell? ⟨w.heap.size + 1, 16, none⟩ = some (.int .i64 (gA s 0)) := blk_cell HW.out.st _ _ (stC_g HL.out 0 (by omega))
    have d1 : W0.cell? ⟨w.heap.size + 1, 17, none⟩ = some (.int .i64 (gA s 1)) := blk_cell HW.out.st _ _ (stC_g HL.out 1 (by omega))
    have d2 : W0.cell? ⟨w.heap.size + 1, 18, none⟩ = some (.int .i64 (gA s 2)) := blk_cell HW.out.st _ _ (stC_g HL.out 2 (by omega))
    have d3 : W0.cell? ⟨w.heap.size + 1, 19, none⟩ = some (.int .i64 (gA s 3)) := blk_cell HW.out.st _ _ (stC_g HL.out 3 (by omega))
    have hz : w.heap.size + 1 < W0.heap.size := by have := HSZ.out; omega
    go_region_held3 (fun w' => w'.cell? ⟨w.heap.size + 1, 8, none⟩ = some (.int .i64 (pA s 0)) ∧ w'.cell? ⟨w.heap.size + 1, 9, none⟩ = some (.int .i64 (pA s 1)) ∧ w'.cell? ⟨w.heap.size + 1, 10, none⟩ = some (.int .i64 (pA s 2)) ∧ w'.cell? ⟨w.heap.size + 1, 11, none⟩ = some (.int .i64 (pA s 3)) ∧ w'.cell? ⟨w.heap.size + 1, 12, none⟩ = some (.int .i64 (pA s 4)) ∧ w'.cell? ⟨w.heap.size + 1, 13, none⟩ = some (.int .i64 (pA s 5)) ∧ w'.cell? ⟨w.heap.size + 1, 14, none⟩ = some (.int .i64 (pA s 6)) ∧ w'.cell? ⟨w.heap.size + 1, 15, none⟩ = some (.int .i64 (pA s 7)) ∧ w'.cell? ⟨w.heap.size + 1, 16, none⟩ = some (.int .i64 (gA s 0)) ∧ w'.cell? ⟨w.heap.size + 1, 17, none⟩ = some (.int .i64 (gA s 1)) ∧ w'.cell? ⟨w.heap.size + 1, 18, none⟩ = some (.int .i64 (gA s 2)) ∧ w'.cell? ⟨w.heap.size + 1, 19, none⟩ = some (.int .i64 (gA s 3))) (go_keep) (first | fail)
    all_goals
      clear c0 c1 c2 c3 c4 c5 c6 c7 d0 d1 d2 d3
      go_wp2_with fail
      go_meet
      first
        | exact ⟨_, _, rfl, rfl, RpW.mk1 HW.out HP.out HSZ.out⟩
        | exact ⟨_, _, rfl, rfl, RpW.mk2 HW.out HP.out HSZ.out⟩
  case rest =>
    obtain ⟨Y, Z, rfl, rfl, hq⟩ := hcut
    have HQ := Lib.hid hq
    clear hq HW HP HSZ
    obtain ⟨e0, e1, e2, e3, e4⟩ := ins_e HQ.out.rf.ins
    have hp8 := HL.out.p
    have hg4 := HL.out.g
    have hYB := HQ.out.hy
    have hZB := HQ.out.hz
    have ha8 : (a : Int) < 8 := by omega
    have ha0 : (0 : Int) ≤ (a : Int) := by omega
    have hib8 : (ib : Int) < 4 := by omega
    have hib0 : (0 : Int) ≤ (ib : Int) := by omega
    have ca : wc.cell? ⟨Y, a, none⟩ = some (.int .i64 (pA s a)) := xC_cell HQ.out.y (k := a) (by omega)
    have fa := blk_frozen HQ.out.y a
    have cb : wc.cell? ⟨Z, ib, none⟩ = some (.int .i64 (gA s ib)) := xC_cell HQ.out.z (k := ib) (by omega)
    go_upto_region 14 with (fail)
    refine wp_region_still_tail 7 (by kernel_rfl) (by kernel_rfl) ?_
    simp only [List.take_succ_cons, List.take_zero, List.drop_succ_cons, List.drop_zero]
    change wpStill _ _ wc.drew (fun a' => wpList _ _ _ _ a' wc.drew) _ _
    repeat still_step
    refine wpStill_nil ?_
    go_upto_region 17 with (fail)
    have HQ2 : Hid (RpW w (wc.setCell ⟨Y, a, none⟩ (.int .i64 (gA s ib))).drew Y Z C s vo vt ⟨12, a, ib, c, n⟩ (s.p.set a (gA s ib)) s.g) := Lib.hid ((HQ.out.setQ a (gA s ib)).next (Below.refl _ _).drew)
    have hlq : (s.p.set a (gA s ib)).length = 8 := by first | exact hp8 | (rw [List.length_set]; exact hp8)
    have hlg : s.g.length = 4 := by first | exact hg4 | (rw [List.length_set]; exact hg4)
    clear HQ ca cb fa e0 e1 e2 e3 e4
    obtain ⟨w2, hw2⟩ : ∃ w2, w2 = (wc.setCell ⟨Y, a, none⟩ (.int .i64 (gA s ib))).drew := ⟨_, rfl⟩
    rw [← hw2] at HQ2 ⊢
    clear hw2
    go_wp2_with (first
      | (refine wpList_loadB rfl 39 _ rfl Y (xC (s.p.set a (gA s ib))) rfl 39 HQ2.out.y _ Tryz.underlying39 rfl (p8_info hlq) ?_)
      | (refine wpList_putP rfl _ _ rfl rfl rfl HQ2.out.rf.st HQ2.out.rf.at'.len hlq ?_
         have HQ3 := Lib.hid (HQ2.out.put (t := { s with p := (s.p.set a (gA s ib)) }) ⟨⟨HQ2.out.rf.at'.len.x, hlq, HQ2.out.rf.at'.len.g⟩, HQ2.out.rf.at'.objs, HQ2.out.rf.at'.out⟩)
         clear HQ2)
      | (refine wpList_loadB rfl 40 _ rfl Z (xC s.g) rfl 40 HQ3.out.z _ Tryz.underlying40 rfl (g4_info hlg) ?_)
      | (refine wpList_putG rfl _ _ rfl rfl rfl HQ3.out.rf.st HQ3.out.rf.at'.len hlg ?_
         have HQ4 := Lib.hid (HQ3.out.put (t := { s with p := (s.p.set a (gA s ib)), g := s.g }) ⟨⟨HQ3.out.rf.at'.len.x, hlq, hlg⟩, HQ3.out.rf.at'.objs, HQ3.out.rf.at'.out⟩)
         clear HQ3)
      | (refine wpList_loadB rfl 44 _ rfl (w.heap.size + 1) _ rfl 44 HQ4.out.rf.st _ Tryz.underlying44 rfl (rstate_size HQ4.out.rf.at'.len) ?_)
      | (refine wpList_putB rfl 44 _ _ rfl (w.heap.size + 1 + 2) _ rfl rfl 44 _ HQ4.out.rf.res (rstate_size HQ4.out.rf.at'.len) (by rw [stC_size HQ4.out.rf.at'.len]; rfl) (stC_one' HQ4.out.rf.at') ?_))
    refine bodyPost_ret (v := .tuple #[.agg (stC { s with p := (s.p.set a (gA s ib)), g := s.g } vo vt), .bool true]) ?_ rfl HQ4.out.rf.post
    rw [res_cell1 (p := 6) (u := 7) rfl _ _ (w.heap.size + 1 + 2) (stC { s with p := (s.p.set a (gA s ib)), g := s.g } vo vt) 44 _ rfl (putB_at HQ4.out.rf.res _ _) Tryz.underlying44 rfl (rstate_size HQ4.out.rf.at'.len)]; rfl

set_option maxRecDepth 100000 in
set_option maxHeartbeats 4000000 in
theorem ptr_13 (w W0 : World) (C : Array Value) (s : PSt) (vo vt : Value) (a ib c : Nat) (n : Int) (h : StN w vo vt s)
    (hW0 : W0 = (((w.alloc (.cells C 25)).alloc (.cells (stC s vo vt) 44)).alloc (.cells (insC ⟨13, a, ib, c, n⟩) 46)).alloc (.cells zeroS 44)) (ha : a < 4) (hib : ib < 8) :
    Calls Tryz.prog 25 #[.agg C, .agg (stC s vo vt), insV ⟨13, a, ib, c, n⟩] w (PartPost w (setG s a (pA s ib)) (.bool true)) := by
  obtain ⟨hw, hpr, hsz⟩ := RpW.start0 hW0 h
  have HW := Lib.hid hw
  have HP := Lib.hid hpr
  have HL := Lib.hid h.len
  have HSZ := Lib.hid hsz
  clear hw h hsz hpr
  go_enter Tryz.func25, Tryz.ntmps25
  go_upto_region 1 with (fail)
  rw [← hW0]
  clear hW0
  go_cut [8, 9] from 12 (fun v8 v9 wx => ∃ Y Z, v8 = .pointer (some ⟨Y, 0, none⟩) ∧ v9 = .pointer (some ⟨Z, 0, none⟩) ∧ RpW w wx Y Z C s vo vt ⟨13, a, ib, c, n⟩ s.p s.g)
  case first =>
    have c0 : W0.cell? ⟨w.heap.size + 1, 8, none⟩ = some (.int .i64 (pA s 0)) := blk_cell HW.out.st _ _ (stC_p HL.out 0 (by omega))
    have c1 : W0.cell? ⟨w.heap.size + 1, 9, none⟩ = some (.int .i64 (pA s 1)) := blk_cell HW.out.st _ _ (stC_p HL.out 1 (by omega))
    have c2 : W0.cell? ⟨w.heap.size + 1, 10, none⟩ = some (.int .i64 (pA s 2)) := blk_cell HW.out.st _ _ (stC_p HL.out 2 (by omega))
    have c3 : W0.cell? ⟨w.heap.size + 1, 11, none⟩ = some (.int .i64 (pA s 3)) := blk_cell HW.out.st _ _ (stC_p HL.out 3 (by omega))
    have c4 : W0.cell? ⟨w.heap.size + 1, 12, none⟩ = some (.int .i64 (pA s 4)) := blk_cell HW.out.st _ _ (stC_p HL.out 4 (by omega))
    have c5 : W0.cell? ⟨w.heap.size + 1, 13, none⟩ = some (.int .i64 (pA s 5)) := blk_cell HW.out.st _ _ (stC_p HL.out 5 (by omega))
    have c6 : W0.cell? ⟨w.heap.size + 1, 14, none⟩ = some (.int .i64 (pA s 6)) := blk_cell HW.out.st _ _ (stC_p HL.out 6 (by omega))
    have c7 : W0.cell? ⟨w.heap.size + 1, 15, none⟩ = some (.int .i64 (pA s 7)) := blk_cell HW.out.st _ _ (stC_p HL.out 7 (by omega))
    have d0 : W0.cell? ⟨w.heap.size + 1, 16, none⟩ = some (.int .i64 (gA s 0)) := blk_cell HW.out.st _ _ (stC_g HL.out 0 (by omega))
    have d1 : W0.cell? ⟨w.heap.size + 1, 17, none⟩ = some (.int .i64 (gA s 1)) := blk_cell HW.out.st _ _ (stC_g HL.out 1 (by omega))
    have d2 : W0.cell? ⟨w.heap.size + 1, 18, none⟩ = some (.int .i64 (gA s 2)) := blk_cell HW.out.st _ _ (stC_g HL.out 2 (by omega))
    have d3 : W0.cell? ⟨w.heap.size + 1, 19, none⟩ = some (.int .i64 (gA s 3)) := blk_cell HW.out.st _ _ (stC_g HL.out 3 (by omega))
    have hz : w.heap.size + 1 < W0.heap.size := by have := HSZ.out; omega
    go_region_held3 (fun w' => w'.cell? ⟨w.heap.size + 1, 8, none⟩ = some (.int .i64 (pA s 0)) ∧ w'.cell? ⟨w.heap.size + 1, 9, none⟩ = some (.int .i64 (pA s 1)) ∧ w'.cell? ⟨w.heap.size + 1, 10, none⟩ = some (.int .i64 (pA s 2)) ∧ w'.cell? ⟨w.heap.size + 1, 11, none⟩ = some (.int .i64 (pA s 3)) ∧ w'.cell? ⟨w.heap.size + 1, 12, none⟩ = some (.int .i64 (pA s 4)) ∧ w'.cell? ⟨w.heap.size + 1, 13, none⟩ = some (.int .i64 (pA s 5)) ∧ w'.cell? ⟨w.heap.size + 1, 14, none⟩ = some (.int .i64 (pA s 6)) ∧ w'.cell? ⟨w.heap.size + 1, 15, none⟩ = some (.int .i64 (pA s 7)) ∧ w'.cell? ⟨w.heap.size + 1, 16, none⟩ = some (.int .i64 (gA s 0)) ∧ w'.cell? ⟨w.heap.size + 1, 17, none⟩ = some (.int .i64 (gA s 1)) ∧ w'.cell? ⟨w.heap.size + 1, 18, none⟩ = some (.int .i64 (gA s 2)) ∧ w'.cell? ⟨w.heap.size + 1, 19, none⟩ = some (.int .i64 (gA s 3))) (go_keep) (first | fail)
    all_goals
      clear c0 c1 c2 c3 c4 c5 c6 c7 d0 d1 d2 d3
      go_wp2_with fail
      go_meet
      first
        | exact ⟨_, _, rfl, rfl, RpW.mk1 HW.out HP.out HSZ.out⟩
        | exact ⟨_, _, rfl, rfl, RpW.mk2 HW.out HP.out HSZ.out⟩
  case rest =>
    obtain ⟨Y, Z, rfl, rfl, hq⟩ := hcut
    have HQ := Lib.hid hq
    clear hq HW HP HSZ
    obtain ⟨e0, e1, e2, e3, e4⟩ := ins_e HQ.out.rf.ins
    have hp8 := HL.out.p
    have hg4 := HL.out.g
    have hYB := HQ.out.hy
    have hZB := HQ.out.hz
    have ha8 : (a : Int) < 4 := by omega
    have ha0 : (0 : Int) ≤ (a : Int) := by omega
    have hib8 : (ib : Int) < 8 := by omega
    have hib0 : (0 : Int) ≤ (ib : Int) := by omega
    have ca : wc.cell? ⟨Z, a, none⟩ = some (.int .i64 (gA s a)) := xC_cell HQ.out.z (k := a) (by omega)
    have fa := blk_frozen HQ.out.z a
    have cb : wc.cell? ⟨Y, ib, none⟩ = some (.int .i64 (pA s ib)) := xC_cell HQ.out.y (k := ib) (by omega)
    go_upto_region 16 with (fail)
    refine wp_region_still_tail 7 (by kernel_rfl) (by kernel_rfl) ?_
    simp only [List.take_succ_cons, List.take_zero, List.drop_succ_cons, List.drop_zero]
    change wpStill _ _ wc.drew (fun a' => wpList _ _ _ _ a' wc.drew) _ _
    repeat still_step
    refine wpStill_nil ?_
    go_upto_region 17 with (fail)
    have HQ2 : Hid (RpW w (wc.setCell ⟨Z, a, none⟩ (.int .i64 (pA s ib))).drew Y Z C s vo vt ⟨13, a, ib, c, n⟩ s.p (s.g.set a (pA s ib))) := Lib.hid ((HQ.out.setG a (pA s ib)).next (Below.refl _ _).drew)
    have hlq : s.p.length = 8 := by first | exact hp8 | (rw [List.length_set]; exact hp8)
    have hlg : (s.g.set a (pA s ib)).length = 4 := by first | exact hg4 | (rw [List.length_set]; exact hg4)
    clear HQ ca cb fa e0 e1 e2 e3 e4
    obtain ⟨w2, hw2⟩ : ∃ w2, w2 = (wc.setCell ⟨Z, a, none⟩ (.int .i64 (pA s ib))).drew := ⟨_, rfl⟩
    rw [← hw2] at HQ2 ⊢
    clear hw2
    go_wp2_with (first
      | (refine wpList_loadB rfl 39 _ rfl Y (xC s.p) rfl 39 HQ2.out.y _ Tryz.underlying39 rfl (p8_info hlq) ?_)
      | (refine wpList_putP rfl _ _ rfl rfl rfl HQ2.out.rf.st HQ2.out.rf.at'.len hlq ?_
         have HQ3 := Lib.hid (HQ2.out.put (t := { s with p := s.p }) ⟨⟨HQ2.out.rf.at'.len.x, hlq, HQ2.out.rf.at'.len.g⟩, HQ2.out.rf.at'.objs, HQ2.out.rf.at'.out⟩)
         clear HQ2)
      | (refine wpList_loadB rfl 40 _ rfl Z (xC (s.g.set a (pA s ib))) rfl 40 HQ3.out.z _ Tryz.underlying40 rfl (g4_info hlg) ?_)
      | (refine wpList_putG rfl _ _ rfl rfl rfl HQ3.out.rf.st HQ3.out.rf.at'.len hlg ?_
         have HQ4 := Lib.hid (HQ3.out.put (t := { s with p := s.p, g := (s.g.set a (pA s ib)) }) ⟨⟨HQ3.out.rf.at'.len.x, hlq, hlg⟩, HQ3.out.rf.at'.objs, HQ3.out.rf.at'.out⟩)
         clear HQ3)
      | (refine wpList_loadB rfl 44 _ rfl (w.heap.size + 1) _ rfl 44 HQ4.out.rf.st _ Tryz.underlying44 rfl (rstate_size HQ4.out.rf.at'.len) ?_)
      | (refine wpList_putB rfl 44 _ _ rfl (w.heap.size + 1 + 2) _ rfl rfl 44 _ HQ4.out.rf.res (rstate_size HQ4.out.rf.at'.len) (by rw [stC_size HQ4.out.rf.at'.len]; rfl) (stC_one' HQ4.out.rf.at') ?_))
    refine bodyPost_ret (v := .tuple #[.agg (stC { s with p := s.p, g := (s.g.set a (pA s ib)) } vo vt), .bool true]) ?_ rfl HQ4.out.rf.post
    rw [res_cell1 (p := 6) (u := 7) rfl _ _ (w.heap.size + 1 + 2) (stC { s with p := s.p, g := (s.g.set a (pA s ib)) } vo vt) 44 _ rfl (putB_at HQ4.out.rf.res _ _) Tryz.underlying44 rfl (rstate_size HQ4.out.rf.at'.len)]; rfl

set_option maxRecDepth 100000 in
set_option maxHeartbeats 4000000 in
theorem ptr_no (w W0 : World) (C : Array Value) (s : PSt) (vo vt : Value) (z a ib c n : Int) (h : StN w vo vt s)
    (hW0 : W0 = (((w.alloc (.cells C 25)).alloc (.cells (stC s vo vt) 44)).alloc (.cells (insC ⟨z, a, ib, c, n⟩) 46)).alloc (.cells zeroS 44)) (q5 : (z == 5) = false) (q6 : (z == 6) = false) (q7 : (z == 7) = false) (q12 : (z == 12) = false) (q13 : (z == 13) = false) :
    Calls Tryz.prog 25 #[.agg C, .agg (stC s vo vt), insV ⟨z, a, ib, c, n⟩] w (PartPost w (s) (.bool false)) := by
  obtain ⟨hw, hpr, hsz⟩ := RpW.start0 hW0 h
  have HW := Lib.hid hw
  have HP := Lib.hid hpr
  have HL := Lib.hid h.len
  have HSZ := Lib.hid hsz
  clear hw h hsz hpr
  go_enter Tryz.func25, Tryz.ntmps25
  go_upto_region 1 with (fail)
  rw [← hW0]
  clear hW0
  go_cut [8, 9] from 12 (fun v8 v9 wx => ∃ Y Z, v8 = .pointer (some ⟨Y, 0, none⟩) ∧ v9 = .pointer (some ⟨Z, 0, none⟩) ∧ RpW w wx Y Z C s vo vt ⟨z, a, ib, c, n⟩ s.p s.g)
  case first =>
    have c0 : W0.cell? ⟨w.heap.size + 1, 8, none⟩ = some (.int .i64 (pA s 0)) := blk_cell HW.out.st _ _ (stC_p HL.out 0 (by omega))
    have c1 : W0.cell? ⟨w.heap.size + 1, 9, none⟩ = some (.int .i64 (pA s 1)) := blk_cell HW.out.st _ _ (stC_p HL.out 1 (by omega))
    have c2 : W0.cell? ⟨w.heap.size + 1, 10, none⟩ = some (.int .i64 (pA s 2)) := blk_cell HW.out.st _ _ (stC_p HL.out 2 (by omega))
    have c3 : W0.cell? ⟨w.heap.size + 1, 11, none⟩ = some (.int .i64 (pA s 3)) := blk_cell HW.out.st _ _ (stC_p HL.out 3 (by omega))
    have c4 : W0.cell? ⟨w.heap.size + 1, 12, none⟩ = some (.int .i64 (pA s 4)) := blk_cell HW.out.st _ _ (stC_p HL.out 4 (by omega))
    have c5 : W0.cell? ⟨w.heap.size + 1, 13, none⟩ = some (.int .i64 (pA s 5)) := blk_cell HW.out.st _ _ (stC_p HL.out 5 (by omega))
    have c6 : W0.cell? ⟨w.heap.size + 1, 14, none⟩ = some (.int .i64 (pA s 6)) := blk_cell HW.out.st _ _ (stC_p HL.out 6 (by omega))
    have c7 : W0.cell? ⟨w.heap.size + 1, 15, none⟩ = some (.int .i64 (pA s 7)) := blk_cell HW.out.st _ _ (stC_p HL.out 7 (by omega))
    have d0 : W0.cell? ⟨w.heap.size + 1, 16, none⟩ = some (.int .i64 (gA s 0)) := blk_cell HW.out.st _ _ (stC_g HL.out 0 (by omega))
    have d1 : W0.cell? ⟨w.heap.size + 1, 17, none⟩ = some (.int .i64 (gA s 1)) := blk_cell HW.out.st _ _ (stC_g HL.out 1 (by omega))
    have d2 : W0.cell? ⟨w.heap.size + 1, 18, none⟩ = some (.int .i64 (gA s 2)) := blk_cell HW.out.st _ _ (stC_g HL.out 2 (by omega))
    have d3 : W0.cell? ⟨w.heap.size + 1, 19, none⟩ = some (.int .i64 (gA s 3)) := blk_cell HW.out.st _ _ (stC_g HL.out 3 (by omega))
    have hz : w.heap.size + 1 < W0.heap.size := by have := HSZ.out; omega
    go_region_held3 (fun w' => w'.cell? ⟨w.heap.size + 1, 8, none⟩ = some (.int .i64 (pA s 0)) ∧ w'.cell? ⟨w.heap.size + 1, 9, none⟩ = some (.int .i64 (pA s 1)) ∧ w'.cell? ⟨w.heap.size + 1, 10, none⟩ = some (.int .i64 (pA s 2)) ∧ w'.cell? ⟨w.heap.size + 1, 11, none⟩ = some (.int .i64 (pA s 3)) ∧ w'.cell? ⟨w.heap.size + 1, 12, none⟩ = some (.int .i64 (pA s 4)) ∧ w'.cell? ⟨w.heap.size + 1, 13, none⟩ = some (.int .i64 (pA s 5)) ∧ w'.cell? ⟨w.heap.size + 1, 14, none⟩ = some (.int .i64 (pA s 6)) ∧ w'.cell? ⟨w.heap.size + 1, 15, none⟩ = some (.int .i64 (pA s 7)) ∧ w'.cell? ⟨w.heap.size + 1, 16, none⟩ = some (.int .i64 (gA s 0)) ∧ w'.cell? ⟨w.heap.size + 1, 17, none⟩ = some (.int .i64 (gA s 1)) ∧ w'.cell? ⟨w.heap.size + 1, 18, none⟩ = some (.int .i64 (gA s 2)) ∧ w'.cell? ⟨w.heap.size + 1, 19, none⟩ = some (.int .i64 (gA s 3))) (go_keep) (first | fail)
    all_goals
      clear c0 c1 c2 c3 c4 c5 c6 c7 d0 d1 d2 d3
      go_wp2_with fail
      go_meet
      first
        | exact ⟨_, _, rfl, rfl, RpW.mk1 HW.out HP.out HSZ.out⟩
        | exact ⟨_, _, rfl, rfl, RpW.mk2 HW.out HP.out HSZ.out⟩
  case rest =>
    obtain ⟨Y, Z, rfl, rfl, hq⟩ := hcut
    have HQ := Lib.hid hq
    clear hq HW HP HSZ
    obtain ⟨e0, e1, e2, e3, e4⟩ := ins_e HQ.out.rf.ins
    have hp8 := HL.out.p
    have hg4 := HL.out.g
    have hYB := HQ.out.hy
    have hZB := HQ.out.hz
    go_wp2_with (first
      | (refine wpList_loadB rfl 44 _ rfl (w.heap.size + 1) _ rfl 44 HQ.out.rf.st _ Tryz.underlying44 rfl (rstate_size HQ.out.rf.at'.len) ?_)
      | (refine wpList_putB rfl 44 _ _ rfl (w.heap.size + 1 + 2) _ rfl rfl 44 _ HQ.out.rf.res (rstate_size HQ.out.rf.at'.len) (by rw [stC_size HQ.out.rf.at'.len]; rfl) (stC_one' HQ.out.rf.at') ?_))
    refine bodyPost_ret (v := .tuple #[.agg (stC s vo vt), .bool false]) ?_ rfl HQ.out.rf.post
    rw [res_cell1 (p := 6) (u := 7) rfl _ _ (w.heap.size + 1 + 2) (stC s vo vt) 44 _ rfl (putB_at HQ.out.rf.res _ _) Tryz.underlying44 rfl (rstate_size HQ.out.rf.at'.len)]; rfl
end Go.Proofs.YtapjgobkpehgfaaGreatDoor
