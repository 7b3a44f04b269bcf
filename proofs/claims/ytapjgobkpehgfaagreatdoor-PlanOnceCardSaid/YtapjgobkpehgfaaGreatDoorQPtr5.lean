/-
  The document's pointers: New.
-/
import Derived.Test.YtapjgobkpehgfaaGreatDoorQPtr
import Derived.Deep.RegionHeld3
namespace Go.Proofs.YtapjgobkpehgfaaGreatDoor
set_option linter.unusedSimpArgs false
set_option linter.unusedVariables false
open Go.RowKit

theorem RpW.newO {w w1 w4 : World} {Y Z : Nat} {C : Array Value} {s : PSt} {vo vt v' : Value} {i : PIns} {q g : List Int} {rows : List Value} {r : Value} {z : Nat} (h : RpW w w1 Y Z C s vo vt i q g) (hz : 1 ≤ z)
    (hr1 : rows.length = s.objs.length) (hr3 : ∀ xs ∈ s.objs, xs ≠ []) (hr4 : ∀ (j : Nat) (r : Value) (xs : List Int), rows[j]? = some r → s.objs[j]? = some xs → RowN w1 r (i64s xs))
    (hb : Below w1.heap.size w1 w4) (ho : w4.ownsRow w1.heap.size 42 1 v' (rows.length + 1) (rows ++ [r])) (hn : RowN w4 r (i64s (List.replicate z 0))) :
    RpW w (w4.setCell ⟨w.heap.size + 1, 20, none⟩ v') Y Z C { s with objs := s.objs ++ [List.replicate z 0] } v' vt i q g := by
  have h4 := h.next hb
  have hl := h4.rf.at'.len
  rw [setCell_putB h4.rf.st, stC_setO hl (s.objs ++ [List.replicate z 0]) v']
  refine h4.put ⟨⟨hl.x, hl.p, hl.g⟩, ⟨rows ++ [r], by simp [hr1], own_rowN ho (by decide) (by simp), fun xs hxs => ?_, fun j r' xs' a b => ?_⟩, h4.rf.at'.out⟩
  · rcases List.mem_append.1 hxs with hm | hm
    · exact hr3 xs hm
    · rw [List.mem_singleton.1 hm]; intro e; have := congrArg List.length e; simp at this; omega
  · have b' : (s.objs ++ [List.replicate z 0])[j]? = some xs' := b
    by_cases hj : j < rows.length
    · rw [List.getElem?_append_left hj] at a
      rw [List.getElem?_append_left (by omega)] at b'
      exact (hr4 j r' xs' a b').below hb
    · rw [List.getElem?_append_right (by omega)] at a
      rw [List.getElem?_append_right (by omega)] at b'
      have hk : j - rows.length = 0 := by
        have := (List.getElem?_eq_some_iff.1 a).1
        simp at this; omega
      rw [hk] at a
      rw [show j - s.objs.length = 0 by omega] at b'
      simp at a b'
      subst a b'
      exact hn
theorem rows_one {w : World} {rows : List Value} {objs : List (List Int)} (h : rows.length = objs.length) (h4 : ∀ (j : Nat) (r : Value) (xs : List Int), rows[j]? = some r → objs[j]? = some xs → RowN w r (i64s xs)) : ∀ u ∈ rows, u.oneCell' = true := by
  intro u hu
  obtain ⟨j, hj⟩ := List.getElem?_of_mem hu
  have hlt := (List.getElem?_eq_some_iff.1 hj).1
  exact rowN_one (h4 j u _ hj (List.getElem?_eq_getElem (show j < objs.length by omega)))

set_option maxRecDepth 100000 in
set_option maxHeartbeats 4000000 in
theorem ptr_5 (w W0 : World) (p : PProg) (x x' : Option Addr) (k k' m : Nat) (t : Int) (s : PSt) (vo vt : Value) (a ib c : Nat) (n : Int) (h : StN w vo vt s)
    (hW0 : W0 = (((w.alloc (.cells (progC (.slice x p.types.length k) p (.slice x' p.code.length k')) 25)).alloc (.cells (stC s vo vt) 44)).alloc (.cells (insC ⟨5, a, ib, c, n⟩) 46)).alloc (.cells zeroS 44)) (ha : a < 8) (hm1 : 1 ≤ m) (hm6 : m ≤ 6) (ho : s.objs.length ≤ 1000000) (HLA : Hid (∀ w1, Below w.heap.size w w1 → Calls Tryz.prog 45 #[.agg (progC (.slice x p.types.length k) p (.slice x' p.code.length k')), .int .u8 a] w1 (AggPost w1 (.int .i64 t))))
    (HSZ : Hid (∀ w1, Below w.heap.size w w1 → Calls Tryz.prog 44 #[.slice x p.types.length k, .int .i64 t] w1 fun e w' => e = .returned (.int .i64 m) ∧ w1 = w')) :
    Calls Tryz.prog 25 #[.agg (progC (.slice x p.types.length k) p (.slice x' p.code.length k')), .agg (stC s vo vt), insV ⟨5, a, ib, c, n⟩] w (PartPost w (setP { s with objs := s.objs ++ [List.replicate m 0] } a (s.objs.length + 1)) (.bool true)) := by
  obtain ⟨i1, ii1, ii2, ii3, ii4⟩ := info_parts infoO
  have hmk : ∀ w, (Instr.makeSlice 42 (.int .i64 (m : Int)) (.int .i64 (m : Int))).run Tryz.prog w = .ok (.slice (some ⟨w.heap.size, 0, none⟩) m m) (w.alloc (.cells (madeCells #[.int .i64 0] m) 2)) := fun w => run_make_row' _ _ _ _ Tryz.underlying42 info64 rfl _ _ m (by omega) (by omega) w
  obtain ⟨rows, hr1, hr2, hr3, hr4⟩ := id h.objs
  have HR3 := Lib.hid hr3
  have HR4 := Lib.hid hr4
  have HR2 := Lib.hid hr2
  have HR1 := Lib.hid hr1
  obtain ⟨⟨av, cv, hvo, gv1, gv2, -⟩, -⟩ := id hr2
  rw [hr1] at hvo gv1
  subst hvo
  unfold maxLen at gv2
  clear hr1 hr2 hr3 hr4
  obtain ⟨hw, hpr, hsz⟩ := RpW.start0 hW0 h
  have HW := Lib.hid hw
  have HP := Lib.hid hpr
  have HL := Lib.hid h.len
  have HSIZE := Lib.hid hsz
  clear hw h hsz hpr
  go_enter Tryz.func25, Tryz.ntmps25
  go_upto_region 1 with (fail)
  rw [← hW0]
  clear hW0
  go_cut [8, 9] from 12 (fun v8 v9 wx => ∃ Y Z, v8 = .pointer (some ⟨Y, 0, none⟩) ∧ v9 = .pointer (some ⟨Z, 0, none⟩) ∧ RpW w wx Y Z (progC (.slice x p.types.length k) p (.slice x' p.code.length k')) s (.slice av s.objs.length cv) vt ⟨5, a, ib, c, n⟩ s.p s.g)
  case first =>
    have c0 : W0.cell? ⟨w.heap.size + 1, 8, none⟩ = some (.int .i64 (pA s 0)) := blk_cell HW.out.st _ _ (stC_p HL.out 0 (by omega))
    have c1 : W0.cell? ⟨w.heap.size + 1, 9, none⟩ = some (.int .i64 (pA s 1)) := blk_cell HW.out.st _ _ (stC_p HL.out 1 (by omega))
    have c2 : W0.cell? ⟨w.heap.size + 1, 10, none⟩ = some (.int .i64 (pA s 2)) := blk_cell HW.out.st _ _ (stC_p HL.out 2 (by omega))
    have c3 : W0.cell? ⟨w.heap.size + 1, 11, none⟩ = some (.int .i64 (pA s 3)) := blk_cell HW.out.st _ _ (stC_p HL.out 3 (by omega))
    have c4 : W0.cell? ⟨w.heap.size + 1, 12, none⟩ = some (.int .i64 (pA s 4)) := blk_cell HW.out.st _ _ (stC_p HL.out 4 (by omega))
    have c5 : W0.cell? ⟨w.heap.size + 1, 13, none⟩ = some (.int .i64 (pA s 5)) := blk_cell HW.out.st _ _ (stC_p HL.out 5 (by omega))
    have c6 : W0.cell? ⟨w.heap.size + 1, 14, none⟩ = some (.int .i64 (pA s 6)) := blk_cell HW.out.st _ _ (stC_p HL.out 6 (by omega))
    have c7 : W0.cell? ⟨w.heap.size + 1, 15, none⟩ = some (.int .i64 (pA s 7)) := blk_cell HW.out.st _ _ (stC_p HL.out 7 (by omega))
    have d0 : W0.cell? ⟨w.heap.size + 1, 16, none⟩ = some (.int .i64 (gA s 0)) := blk_cell HW.out.st _ _ (stC_g HL.out 0 (by omega))
    have d1 : W0.cell? ⟨w.heap.size + 1, 17, none⟩ = some (.int .i64 (gA s 1)) := blk_cell HW.out.st _ _ (stC_g HL.out 1 (by omega))
    have d2 : W0.cell? ⟨w.heap.size + 1, 18, none⟩ = some (.int .i64 (gA s 2)) := blk_cell HW.out.st _ _ (stC_g HL.out 2 (by omega))
    have d3 : W0.cell? ⟨w.heap.size + 1, 19, none⟩ = some (.int .i64 (gA s 3)) := blk_cell HW.out.st _ _ (stC_g HL.out 3 (by omega))
    have hz : w.heap.size + 1 < W0.heap.size := by have := HSIZE.out; omega
    go_region_held3 (fun w' => w'.cell? ⟨w.heap.size + 1, 8, none⟩ = some (.int .i64 (pA s 0)) ∧ w'.cell? ⟨w.heap.size + 1, 9, none⟩ = some (.int .i64 (pA s 1)) ∧ w'.cell? ⟨w.heap.size + 1, 10, none⟩ = some (.int .i64 (pA s 2)) ∧ w'.cell? ⟨w.heap.size + 1, 11, none⟩ = some (.int .i64 (pA s 3)) ∧ w'.cell? ⟨w.heap.size + 1, 12, none⟩ = some (.int .i64 (pA s 4)) ∧ w'.cell? ⟨w.heap.size + 1, 13, none⟩ = some (.int .i64 (pA s 5)) ∧ w'.cell? ⟨w.heap.size + 1, 14, none⟩ = some (.int .i64 (pA s 6)) ∧ w'.cell? ⟨w.heap.size + 1, 15, none⟩ = some (.int .i64 (pA s 7)) ∧ w'.cell? ⟨w.heap.size + 1, 16, none⟩ = some (.int .i64 (gA s 0)) ∧ w'.cell? ⟨w.heap.size + 1, 17, none⟩ = some (.int .i64 (gA s 1)) ∧ w'.cell? ⟨w.heap.size + 1, 18, none⟩ = some (.int .i64 (gA s 2)) ∧ w'.cell? ⟨w.heap.size + 1, 19, none⟩ = some (.int .i64 (gA s 3))) (go_keep) (first | fail)
    all_goals
      clear c0 c1 c2 c3 c4 c5 c6 c7 d0 d1 d2 d3
      go_wp2_with fail
      go_meet
      first
        | exact ⟨_, _, rfl, rfl, RpW.mk1 HW.out HP.out HSIZE.out⟩
        | exact ⟨_, _, rfl, rfl, RpW.mk2 HW.out HP.out HSIZE.out⟩
  case rest =>
    obtain ⟨Y, Z, rfl, rfl, hq⟩ := hcut
    have HQ := Lib.hid hq
    clear hq HW HP HSIZE
    obtain ⟨e0, e1, e2, e3, e4⟩ := ins_e HQ.out.rf.ins
    have hp8 := HL.out.p
    have hg4 := HL.out.g
    have hYB := HQ.out.hy
    have hZB := HQ.out.hz
    go_upto_region 5 with (fail)
    go_cut [10] from 12 (fun v10 wx => v10 = .int .i64 (m : Int) ∧ RpW w wx Y Z (progC (.slice x p.types.length k) p (.slice x' p.code.length k')) s (.slice av s.objs.length cv) vt ⟨5, a, ib, c, n⟩ s.p s.g)
    case first =>
      have p0 := blk_cell HQ.out.pr 0 _ rfl
      have p1 := blk_cell HQ.out.pr 1 _ rfl
      have p2 := blk_cell HQ.out.pr 2 _ rfl
      have p3 := blk_cell HQ.out.pr 3 _ rfl
      go_region_held3 (fun w' => w'.cell? ⟨w.heap.size, 0, none⟩ = some (.slice x p.types.length k) ∧ w'.cell? ⟨w.heap.size, 1, none⟩ = some (str p.locals) ∧ w'.cell? ⟨w.heap.size, 2, none⟩ = some (str p.globs) ∧ w'.cell? ⟨w.heap.size, 3, none⟩ = some (.slice x' p.code.length k') ∧ w'.cell? ⟨w.heap.size + 1 + 1, 1, none⟩ = some (.int .u8 a)) (go_keep) (first
        | (go_at_call 45; ((with_reducible refine (HLA.out _ ?_).mono ?_); (first | exact HQ.out.rf.below.drew | exact HQ.out.rf.below); rintro e w5 ⟨rfl, hb⟩; have HQ5 := Lib.hid (HQ.out.next (show Below wc.heap.size wc w5 from (Below.refl wc.heap.size wc).drew.trans hb)); clear hb p0 p1 p2 p3 e1; have p0 := blk_cell HQ5.out.pr 0 _ rfl; have p1 := blk_cell HQ5.out.pr 1 _ rfl; have p2 := blk_cell HQ5.out.pr 2 _ rfl; have p3 := blk_cell HQ5.out.pr 3 _ rfl; obtain ⟨-, e1, -, -, -⟩ := ins_e HQ5.out.rf.ins))
        | (go_at_call 44; ((with_reducible refine (HSZ.out _ HQ5.out.rf.below).mono ?_); rintro e w6 ⟨rfl, rfl⟩)))
      all_goals
        clear p0 p1 p2 p3
        go_wp2_with fail
        go_meet
        exact ⟨rfl, HQ5.out⟩
    case rest =>
      obtain ⟨rfl, hq⟩ := hcut
      clear HQ e0 e1 e2 e3 e4
      have HQ := Lib.hid hq
      clear hq HLA HSZ
      have c20 := blk_cell HQ.out.rf.st 20 _ (stC_rest HL.out).1
      have hB1 : w.heap.size + 1 < wc.heap.size := blk_lt HQ.out.rf.st
      have hBw := HQ.out.rf.below.size
      go_upto_region 7 with (
        refine wpList_copy Tryz.underlying41 ii1 ii2 ii3 ii4 rfl (by omega) rfl (.tmp 28) (.tmp 30) rfl wc.heap.size _ rfl (own_empty wc _) (by simp) _ rows rfl ((HR2.out.below HQ.out.rf.below).below ((Below.refl _ _).alloc (Nat.le_refl _) _)) (rows_one HR1.out HR4.out) (by rw [HR1.out]; exact ho) ?_
        intro v1 w2 ho1 hb1
        rw [HR1.out] at ho1
        have HO1 := Lib.hid ho1
        have HB1 := Lib.hid (((Below.refl _ _).alloc (Nat.le_refl _) _).trans hb1)
        clear ho1 hb1 c20)
      have hB2 := HB1.out.size
      have HOA := Lib.hid (own_below HO1.out (((Below.refl w2.heap.size w2).alloc (Nat.le_refl _) (.cells (madeCells #[.int .i64 0] m) 2)).alloc (by simp) (.cells #[.slice (some ⟨w2.heap.size, 0, none⟩) m m] 42)))
      go_upto_region 8 with (
        refine wpList_append_own _ rfl (.tmp 32) (.tmp 35) 41 rfl wc.heap.size 42 i1 (.slice none 0 0) 1 24 Tryz.underlying41 ii1 ii2 ii3 ii4 rfl (by omega) v1 s.objs.length rows rfl HOA.out ⟨w2.heap.size + 1, 0, none⟩ 1 1 [.slice (some ⟨w2.heap.size, 0, none⟩) m m] rfl rfl (by intro j u hu; have := one_cellV (w := w2.alloc (.cells (madeCells #[.int .i64 0] m) 2)) _ 42 j u hu; rw [World.size_alloc] at this; exact this) (by intro u hu; simp at hu; subst hu; rfl) (by unfold maxLen; omega) (by omega) (by simp; omega) ?_
        intro v2 w4 ho2 hg2 _
        obtain ⟨va2, vc2, hv2, gw1, gw2⟩ := own_form ho2
        subst hv2
        have HO2 := Lib.hid ho2
        have HB2 : Hid (Below wc.heap.size wc w4) := Lib.hid (((HB1.out.alloc hB2 (.cells (madeCells #[.int .i64 0] m) 2)).alloc (by simp; omega) (.cells #[.slice (some ⟨w2.heap.size, 0, none⟩) m m] 42)).grown hg2 (by simp; omega) (fun g hg => (own_lt HO1.out g hg).1))
        have HZ2 : Hid (RowN w4 (.slice (some ⟨w2.heap.size, 0, none⟩) m m) (i64s (List.replicate m 0))) := Lib.hid (own_rowN (own_same (own_below (zeros_own w2 (B := 0) (Nat.zero_le _) (by unfold maxLen; omega)) ((Below.refl _ _).alloc (Nat.le_refl _) (.cells #[.slice (some ⟨w2.heap.size, 0, none⟩) m m] 42))) (fun g hg hlt => hg2.block g hlt (fun e => by have := (own_lt HO1.out g e.symm).2; simp [Value.ownBlock] at hg; omega))) (by decide) (fun e => by have := congrArg List.length e; simp at this; omega))
        have HQ4 := Lib.hid (HQ.out.next HB2.out)
        clear ho2 hg2
        have c20 := blk_cell HQ4.out.rf.st 20 _ (stC_rest HL.out).1
        have f20 := blk_frozen HQ4.out.rf.st 20)
      have HQ1 : Hid (RpW w (w4.setCell ⟨w.heap.size + 1, 20, none⟩ (.slice va2 (s.objs.length + 1) vc2)) Y Z (progC (.slice x p.types.length k) p (.slice x' p.code.length k')) { s with objs := s.objs ++ [List.replicate m 0] } (.slice va2 (s.objs.length + 1) vc2) vt ⟨5, a, ib, c, n⟩ s.p s.g) := Lib.hid (HQ.out.newO hm1 HR1.out HR3.out (fun j r xs e1 e2 => (HR4.out j r xs e1 e2).below HQ.out.rf.below) HB2.out (by rw [HR1.out]; exact HO2.out) HZ2.out)
      clear HQ HQ4 HB1 HB2 HO1 HO2 HOA HZ2 c20 f20 HR1 HR2 HR3 HR4 hmk
      obtain ⟨w5, hw5⟩ : ∃ w5, w5 = w4.setCell ⟨w.heap.size + 1, 20, none⟩ (.slice va2 (s.objs.length + 1) vc2) := ⟨_, rfl⟩
      rw [← hw5] at HQ1 ⊢
      clear hw5
      have c20 := blk_cell HQ1.out.rf.st 20 _ (stC_rest HQ1.out.rf.at'.len).1
      obtain ⟨-, e1, -, -, -⟩ := ins_e HQ1.out.rf.ins
      have ha8 : (a : Int) < 8 := by omega
      have ha0 : (0 : Int) ≤ (a : Int) := by omega
      have ca : w5.cell? ⟨Y, a, none⟩ = some (.int .i64 (pA s a)) := xC_cell HQ1.out.y (k := a) (by omega)
      have fa := blk_frozen HQ1.out.y a
      go_upto_region 17 with (fail)
      have HQ2 := Lib.hid (HQ1.out.setQ a ((s.objs.length : Int) + 1))
      have hlq : (s.p.set a ((s.objs.length : Int) + 1)).length = 8 := by rw [List.length_set]; exact hp8
      have hlg := hg4
      clear HQ1 ca fa c20 e1
      obtain ⟨w6, hw6⟩ : ∃ w6, w6 = w5.setCell ⟨Y, a, none⟩ (.int .i64 ((s.objs.length : Int) + 1)) := ⟨_, rfl⟩
      rw [← hw6] at HQ2 ⊢
      clear hw6
      go_wp2_with (first
        | (refine wpList_loadB rfl 39 _ rfl Y (xC (s.p.set a ((s.objs.length : Int) + 1))) rfl 39 HQ2.out.y _ Tryz.underlying39 rfl (p8_info hlq) ?_)
        | (refine wpList_putP rfl _ _ rfl rfl rfl HQ2.out.rf.st HQ2.out.rf.at'.len hlq ?_
           have HQ3 := Lib.hid (HQ2.out.put (t := { s with objs := s.objs ++ [List.replicate m 0], p := (s.p.set a ((s.objs.length : Int) + 1)) }) ⟨⟨HQ2.out.rf.at'.len.x, hlq, HQ2.out.rf.at'.len.g⟩, HQ2.out.rf.at'.objs, HQ2.out.rf.at'.out⟩)
           clear HQ2)
        | (refine wpList_loadB rfl 40 _ rfl Z (xC s.g) rfl 40 HQ3.out.z _ Tryz.underlying40 rfl (g4_info hlg) ?_)
        | (refine wpList_putG rfl _ _ rfl rfl rfl HQ3.out.rf.st HQ3.out.rf.at'.len hlg ?_
           have HQ4 := Lib.hid (HQ3.out.put (t := { s with objs := s.objs ++ [List.replicate m 0], p := (s.p.set a ((s.objs.length : Int) + 1)), g := s.g }) ⟨⟨HQ3.out.rf.at'.len.x, hlq, hlg⟩, HQ3.out.rf.at'.objs, HQ3.out.rf.at'.out⟩)
           clear HQ3)
        | (refine wpList_loadB rfl 44 _ rfl (w.heap.size + 1) _ rfl 44 HQ4.out.rf.st _ Tryz.underlying44 rfl (rstate_size HQ4.out.rf.at'.len) ?_)
        | (refine wpList_putB rfl 44 _ _ rfl (w.heap.size + 1 + 2) _ rfl rfl 44 _ HQ4.out.rf.res (rstate_size HQ4.out.rf.at'.len) (by rw [stC_size HQ4.out.rf.at'.len]; rfl) (stC_one' HQ4.out.rf.at') ?_))
      refine bodyPost_ret (v := .tuple #[.agg (stC { s with objs := s.objs ++ [List.replicate m 0], p := (s.p.set a ((s.objs.length : Int) + 1)), g := s.g } (.slice va2 (s.objs.length + 1) vc2) vt), .bool true]) ?_ rfl HQ4.out.rf.post
      rw [res_cell1 (p := 6) (u := 7) rfl _ _ (w.heap.size + 1 + 2) (stC { s with objs := s.objs ++ [List.replicate m 0], p := (s.p.set a ((s.objs.length : Int) + 1)), g := s.g } (.slice va2 (s.objs.length + 1) vc2) vt) 44 _ rfl (putB_at HQ4.out.rf.res _ _) Tryz.underlying44 rfl (rstate_size HQ4.out.rf.at'.len)]; rfl
end Go.Proofs.YtapjgobkpehgfaaGreatDoor
