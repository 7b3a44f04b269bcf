/-
  The document's pointers: the world in it.
-/
import Derived.Test.YtapjgobkpehgfaaGreatDoorUBM
import Derived.Test.YtapjgobkpehgfaaGreatDoorUAQ
import Derived.Deep.CutRange
import Derived.BigRegion
namespace Go.Proofs.YtapjgobkpehgfaaGreatDoor
set_option linter.unusedSimpArgs false
set_option linter.unusedVariables false
open Go.RowKit

theorem p8_info {l : List Int} (h : l.length = 8) : (Tryz.prog.info? 39).map (·.size) = some (xC l).size := by rw [xC_size, h]; exact infoP
theorem g4_info {l : List Int} (h : l.length = 4) : (Tryz.prog.info? 40).map (·.size) = some (xC l).size := by rw [xC_size, h]; exact infoG
/-- The world in pointers: two arrays of its own beside. -/
structure RpW (w wr : World) (Y Z : Nat) (C : Array Value) (s : PSt) (vo vt : Value) (i : PIns) (q g : List Int) : Prop where
  rf : RfW w wr (w.heap.size + 1) s vo vt i
  pr : blk wr w.heap.size C 25
  y : blk wr Y (xC q) 39
  z : blk wr Z (xC g) 40
  hy : w.heap.size + 3 < Y
  hz : w.heap.size + 3 < Z
theorem RpW.next {w wr w' : World} {Y Z : Nat} {C : Array Value} {s : PSt} {vo vt : Value} {i : PIns} {q g : List Int} (h : RpW w wr Y Z C s vo vt i q g) (hb : Below wr.heap.size wr w') : RpW w w' Y Z C s vo vt i q g :=
  ⟨h.rf.next hb, blk_below h.pr hb, blk_below h.y hb, blk_below h.z hb, h.hy, h.hz⟩
theorem RpW.setQ {w wr : World} {Y Z : Nat} {C : Array Value} {s : PSt} {vo vt : Value} {i : PIns} {q g : List Int} (h : RpW w wr Y Z C s vo vt i q g) (k : Nat) (v : Int) : RpW w (wr.setCell ⟨Y, k, none⟩ (.int .i64 v)) Y Z C s vo vt i (q.set k v) g := by
  have hYZ := blk_ne h.z h.y (by decide)
  have hy := h.hy
  refine ⟨h.rf.otherC (by omega) h.y (by decide), ?_, xC_put h.y k v, ?_, h.hy, h.hz⟩
  · rw [setCell_putB h.y]; unfold blk; rw [putB_ne _ (by omega)]; exact h.pr
  · rw [setCell_putB h.y]; unfold blk; rw [putB_ne _ hYZ]; exact h.z
theorem RpW.setG {w wr : World} {Y Z : Nat} {C : Array Value} {s : PSt} {vo vt : Value} {i : PIns} {q g : List Int} (h : RpW w wr Y Z C s vo vt i q g) (k : Nat) (v : Int) : RpW w (wr.setCell ⟨Z, k, none⟩ (.int .i64 v)) Y Z C s vo vt i q (g.set k v) := by
  have hYZ := blk_ne h.y h.z (by decide)
  have hz := h.hz
  refine ⟨h.rf.otherC (by omega) h.z (by decide), ?_, ?_, xC_put h.z k v, h.hy, h.hz⟩
  · rw [setCell_putB h.z]; unfold blk; rw [putB_ne _ (by omega)]; exact h.pr
  · rw [setCell_putB h.z]; unfold blk; rw [putB_ne _ hYZ]; exact h.y
/-- The state's own block changes. -/
theorem RpW.put {w wr : World} {Y Z : Nat} {C : Array Value} {s t : PSt} {vo vt vo' vt' : Value} {i : PIns} {q g : List Int} (h : RpW w wr Y Z C s vo vt i q g) (ht : StN wr vo' vt' t) : RpW w (putB wr (w.heap.size + 1) (stC t vo' vt') 44) Y Z C t vo' vt' i q g := by
  have hy := h.hy
  have hz := h.hz
  refine ⟨h.rf.put ht, ?_, ?_, ?_, h.hy, h.hz⟩
  · unfold blk; rw [putB_ne _ (by omega)]; exact h.pr
  · unfold blk; rw [putB_ne _ (by omega)]; exact h.y
  · unfold blk; rw [putB_ne _ (by omega)]; exact h.z
theorem RpW.start0 {w W0 : World} {s : PSt} {vo vt : Value} {i : PIns} {C : Array Value} (hW0 : W0 = (((w.alloc (.cells C 25)).alloc (.cells (stC s vo vt) 44)).alloc (.cells (insC i) 46)).alloc (.cells zeroS 44)) (h : StN w vo vt s) : RfW w W0 (w.heap.size + 1) s vo vt i ∧ blk W0 w.heap.size C 25 ∧ W0.heap.size = w.heap.size + 4 := by
  have hb1 : Below w.heap.size w (w.alloc (.cells C 25)) := (Below.refl _ _).alloc (Nat.le_refl _) _
  have s1 : (w.alloc (.cells C 25)).heap.size = w.heap.size + 1 := World.size_alloc _ _
  obtain ⟨h1, h2⟩ := RfW.start (w := w.alloc (.cells C 25)) hW0 (h.below hb1)
  rw [s1] at h1 h2
  refine ⟨⟨hb1.trans (h1.below.mono (by omega)), by omega, h1.st, h1.ins, h1.res, h1.at'⟩, ?_, h2⟩
  exact blk_below (blk_new w C 25) h1.below
theorem xC8 {l : List Int} (h : l.length = 8) : xC l = #[.int .i64 (l.getD 0 0), .int .i64 (l.getD 1 0), .int .i64 (l.getD 2 0), .int .i64 (l.getD 3 0), .int .i64 (l.getD 4 0), .int .i64 (l.getD 5 0), .int .i64 (l.getD 6 0), .int .i64 (l.getD 7 0)] := by
  match l, h with
  | [_, _, _, _, _, _, _, _], _ => rfl
theorem xC4 {l : List Int} (h : l.length = 4) : xC l = #[.int .i64 (l.getD 0 0), .int .i64 (l.getD 1 0), .int .i64 (l.getD 2 0), .int .i64 (l.getD 3 0)] := by
  match l, h with
  | [_, _, _, _], _ => rfl
theorem RpW.mk1 {w W0 : World} {C : Array Value} {s : PSt} {vo vt : Value} {i : PIns} (h : RfW w W0 (w.heap.size + 1) s vo vt i) (hp : blk W0 w.heap.size C 25) (hz : W0.heap.size = w.heap.size + 4) :
    RpW w ((W0.alloc (.cells #[.int .i64 (pA s 0), .int .i64 (pA s 1), .int .i64 (pA s 2), .int .i64 (pA s 3), .int .i64 (pA s 4), .int .i64 (pA s 5), .int .i64 (pA s 6), .int .i64 (pA s 7)] 39)).alloc (.cells #[.int .i64 (gA s 0), .int .i64 (gA s 1), .int .i64 (gA s 2), .int .i64 (gA s 3)] 40)).drew W0.heap.size (W0.heap.size + 1) C s vo vt i s.p s.g := by
  have e1 : (#[.int .i64 (pA s 0), .int .i64 (pA s 1), .int .i64 (pA s 2), .int .i64 (pA s 3), .int .i64 (pA s 4), .int .i64 (pA s 5), .int .i64 (pA s 6), .int .i64 (pA s 7)] : Array Value) = xC s.p := (xC8 h.at'.len.p).symm
  have e2 : (#[.int .i64 (gA s 0), .int .i64 (gA s 1), .int .i64 (gA s 2), .int .i64 (gA s 3)] : Array Value) = xC s.g := (xC4 h.at'.len.g).symm
  rw [e1, e2]
  have hb : Below W0.heap.size W0 ((W0.alloc (.cells (xC s.p) 39)).alloc (.cells (xC s.g) 40)).drew := (((Below.refl _ _).alloc (Nat.le_refl _) _).alloc (by simp) _).drew
  refine ⟨h.next hb, blk_below hp hb, ?_, ?_, by omega, by omega⟩
  · show blk ((W0.alloc (.cells (xC s.p) 39)).alloc (.cells (xC s.g) 40)) _ _ _
    exact blk_alloc (blk_new _ _ _) _
  · have := blk_new (W0.alloc (.cells (xC s.p) 39)) (xC s.g) 40
    rw [World.size_alloc] at this
    exact this
theorem RpW.mk2 {w W0 : World} {C : Array Value} {s : PSt} {vo vt : Value} {i : PIns} (h : RfW w W0 (w.heap.size + 1) s vo vt i) (hp : blk W0 w.heap.size C 25) (hz : W0.heap.size = w.heap.size + 4) :
    RpW w ((W0.alloc (.cells #[.int .i64 (gA s 0), .int .i64 (gA s 1), .int .i64 (gA s 2), .int .i64 (gA s 3)] 40)).alloc (.cells #[.int .i64 (pA s 0), .int .i64 (pA s 1), .int .i64 (pA s 2), .int .i64 (pA s 3), .int .i64 (pA s 4), .int .i64 (pA s 5), .int .i64 (pA s 6), .int .i64 (pA s 7)] 39)).drew (W0.heap.size + 1) W0.heap.size C s vo vt i s.p s.g := by
  have e1 : (#[.int .i64 (pA s 0), .int .i64 (pA s 1), .int .i64 (pA s 2), .int .i64 (pA s 3), .int .i64 (pA s 4), .int .i64 (pA s 5), .int .i64 (pA s 6), .int .i64 (pA s 7)] : Array Value) = xC s.p := (xC8 h.at'.len.p).symm
  have e2 : (#[.int .i64 (gA s 0), .int .i64 (gA s 1), .int .i64 (gA s 2), .int .i64 (gA s 3)] : Array Value) = xC s.g := (xC4 h.at'.len.g).symm
  rw [e1, e2]
  have hb : Below W0.heap.size W0 ((W0.alloc (.cells (xC s.g) 40)).alloc (.cells (xC s.p) 39)).drew := (((Below.refl _ _).alloc (Nat.le_refl _) _).alloc (by simp) _).drew
  refine ⟨h.next hb, blk_below hp hb, ?_, ?_, by omega, by omega⟩
  · have := blk_new (W0.alloc (.cells (xC s.g) 40)) (xC s.p) 39
    rw [World.size_alloc] at this
    exact this
  · show blk ((W0.alloc (.cells (xC s.g) 40)).alloc (.cells (xC s.p) 39)) _ _ _
    exact blk_alloc (blk_new _ _ _) _

set_option maxRecDepth 100000 in
set_option maxHeartbeats 4000000 in
theorem ptr_6 (w W0 : World) (C : Array Value) (s : PSt) (vo vt : Value) (a ib c : Nat) (n : Int) (h : StN w vo vt s)
    (hW0 : W0 = (((w.alloc (.cells C 25)).alloc (.cells (stC s vo vt) 44)).alloc (.cells (insC ⟨6, a, ib, c, n⟩) 46)).alloc (.cells zeroS 44)) (ha : a < 8) :
    Calls Tryz.prog 25 #[.agg C, .agg (stC s vo vt), insV ⟨6, a, ib, c, n⟩] w (PartPost w (setP s a 0) (.bool true)) := by
  obtain ⟨hw, hpr, hsz⟩ := RpW.start0 hW0 h
  have HW := Lib.hid hw
  have HP := Lib.hid hpr
  have HL := Lib.hid h.len
  have HSZ := Lib.hid hsz
  clear hw h hsz hpr
  go_enter Tryz.func25, Tryz.ntmps25
  go_upto_region 1 with (fail)
  rw [← hW0]
  clear hW0
  go_cut [8, 9] from 12 (fun v8 v9 wx => ∃ Y Z, v8 = .pointer (some ⟨Y, 0, none⟩) ∧ v9 = .pointer (some ⟨Z, 0, none⟩) ∧ RpW w wx Y Z C s vo vt ⟨6, a, ib, c, n⟩ s.p s.g)
  case first =>
    have c0 : W0.cell? ⟨w.heap.size + 1, 8, none⟩ = some (.int .i64 (pA s 0)) := blk_cell HW.out.st _ _ (stC_p HL.out 0 (by omega))
    have c1 : W0.cell? ⟨w.heap.size + 1, 9, none⟩ = some (.int .i64 (pA s 1)) := blk_cell HW.out.st _ _ (stC_p HL.out 1 (by omega))
    have c2 : W0.cell? ⟨w.heap.size + 1, 10, none⟩ = some (.int .i64 (pA s 2)) := blk_cell HW.out.st _ _ (stC_p HL.out 2 (by omega))
    have c3 : W0.cell? ⟨w.heap.size + 1, 11, none⟩ = some (.int .i64 (pA s 3)) := blk_cell HW.out.st _ _ (stC_p HL.out 3 (by omega))
    have c4 : W0.cell? ⟨w.heap.size + 1, 12, none⟩ = some (.int .i64 (pA s 4)) := blk_cell HW.out.st _ _ (stC_p HL.out 4 (by omega))
    have c5 : W0.cell? ⟨w.heap.size + 1, 13, none⟩ = some (.int .i64 (pA s 5)) := blk_cell HW.out.st _ _ (stC_p HL.out 5 (by omega))
    have c6 : W0.cell? ⟨w.heap.size + 1, 14, none⟩ = some (.int .i64 (pA s 6)) := blk_cell HW.out.st _ _ (stC_p HL.out 6 (by omega))
    have c7 : W0.cell? ⟨w.heap.size + 1, 15, none⟩ = some (.int .i64 (pA s 7)) := blk_cell HW.out.st _ _ (stC_p HL.out 7 (by omega))
    have d0 : W0.cell? ⟨w.heap.size + 1, 16, none⟩ = some (.int .i64 (gA s 0)) := blk_cell HW.out.st _ _ (stC_g HL.out 0 (by omega))
    have d1 : W0.cell? ⟨w.heap.size + 1, 17, none⟩ = some (.int .i64 (gA s 1)) := blk_cell HW.out.st _ _ (stC_g HL.out 1 (by omega))
    have d2 : W0.cell? ⟨w.heap.size + 1, 18, none⟩ = some (.int .i64 (gA s 2)) := blk_cell HW.out.st _ _ (stC_g HL.out 2 (by omega))
    have d3 : W0.cell? ⟨w.heap.size + 1, 19, none⟩ = some (.int .i64 (gA s 3)) := blk_cell HW.out.st _ _ (stC_g HL.out 3 (by omega))
    have hz : w.heap.size + 1 < W0.heap.size := by have := HSZ.out; omega
    go_region_held3 (fun w' => w'.cell? ⟨w.heap.size + 1, 8, none⟩ = some (.int .i64 (pA s 0)) ∧ w'.cell? ⟨w.heap.size + 1, 9, none⟩ = some (.int .i64 (pA s 1)) ∧ w'.cell? ⟨w.heap.size + 1, 10, none⟩ = some (.int .i64 (pA s 2)) ∧ w'.cell? ⟨w.heap.size + 1, 11, none⟩ = some (.int .i64 (pA s 3)) ∧ w'.cell? ⟨w.heap.size + 1, 12, none⟩ = some (.int .i64 (pA s 4)) ∧ w'.cell? ⟨w.heap.size + 1, 13, none⟩ = some (.int .i64 (pA s 5)) ∧ w'.cell? ⟨w.heap.size + 1, 14, none⟩ = some (.int .i64 (pA s 6)) ∧ w'.cell? ⟨w.heap.size + 1, 15, none⟩ = some (.int .i64 (pA s 7)) ∧ w'.cell? ⟨w.heap.size + 1, 16, none⟩ = some (.int .i64 (gA s 0)) ∧ w'.cell? ⟨w.heap.size + 1, 17, none⟩ = some (.int .i64 (gA s 1)) ∧ w'.cell? ⟨w.heap.size + 1, 18, none⟩ = some (.int .i64 (gA s 2)) ∧ w'.cell? ⟨w.heap.size + 1, 19, none⟩ = some (.int .i64 (gA s 3))) (go_keep) (first | fail)
    all_goals
      clear c0 c1 c2 c3 c4 c5 c6 c7 d0 d1 d2 d3
      go_wp2_with fail
      go_meet
      first
        | exact ⟨_, _, rfl, rfl, RpW.mk1 HW.out HP.out HSZ.out⟩
        | exact ⟨_, _, rfl, rfl, RpW.mk2 HW.out HP.out HSZ.out⟩
  case rest =>
    obtain ⟨Y, Z, rfl, rfl, hq⟩ := hcut
    have HQ := Lib.hid hq
    clear hq HW HP HSZ
    obtain ⟨e0, e1, e2, e3, e4⟩ := ins_e HQ.out.rf.ins
    have hp8 := HL.out.p
    have hg4 := HL.out.g
    have hYB := HQ.out.hy
    have hZB := HQ.out.hz
    have ha8 : (a : Int) < 8 := by omega
    have ha0 : (0 : Int) ≤ (a : Int) := by omega
    have ca : wc.cell? ⟨Y, a, none⟩ = some (.int .i64 (pA s a)) := xC_cell HQ.out.y (k := a) (by omega)
    have fa := blk_frozen HQ.out.y a
    go_upto_region 17 with (fail)
    have HQ2 := Lib.hid (HQ.out.setQ a 0)
    have hlq : (s.p.set a 0).length = 8 := by rw [List.length_set]; exact hp8
    have hlg := hg4
    clear HQ ca fa e0 e1 e2 e3 e4
    obtain ⟨w2, hw2⟩ : ∃ w2, w2 = wc.setCell ⟨Y, a, none⟩ (.int .i64 0) := ⟨_, rfl⟩
    rw [← hw2] at HQ2 ⊢
    clear hw2
    go_wp2_with (first
      | (refine wpList_loadB rfl 39 _ rfl Y (xC (s.p.set a 0)) rfl 39 HQ2.out.y _ Tryz.underlying39 rfl (p8_info hlq) ?_)
      | (refine wpList_putP rfl _ _ rfl rfl rfl HQ2.out.rf.st HQ2.out.rf.at'.len hlq ?_
         have HQ3 := Lib.hid (HQ2.out.put (t := { s with p := (s.p.set a 0) }) ⟨⟨HQ2.out.rf.at'.len.x, hlq, HQ2.out.rf.at'.len.g⟩, HQ2.out.rf.at'.objs, HQ2.out.rf.at'.out⟩)
         clear HQ2)
      | (refine wpList_loadB rfl 40 _ rfl Z (xC s.g) rfl 40 HQ3.out.z _ Tryz.underlying40 rfl (g4_info hlg) ?_)
      | (refine wpList_putG rfl _ _ rfl rfl rfl HQ3.out.rf.st HQ3.out.rf.at'.len hlg ?_
         have HQ4 := Lib.hid (HQ3.out.put (t := { s with p := (s.p.set a 0), g := s.g }) ⟨⟨HQ3.out.rf.at'.len.x, hlq, hlg⟩, HQ3.out.rf.at'.objs, HQ3.out.rf.at'.out⟩)
         clear HQ3)
      | (refine wpList_loadB rfl 44 _ rfl (w.heap.size + 1) _ rfl 44 HQ4.out.rf.st _ Tryz.underlying44 rfl (rstate_size HQ4.out.rf.at'.len) ?_)
      | (refine wpList_putB rfl 44 _ _ rfl (w.heap.size + 1 + 2) _ rfl rfl 44 _ HQ4.out.rf.res (rstate_size HQ4.out.rf.at'.len) (by rw [stC_size HQ4.out.rf.at'.len]; rfl) (stC_one' HQ4.out.rf.at') ?_))
    refine bodyPost_ret (v := .tuple #[.agg (stC { s with p := (s.p.set a 0), g := s.g } vo vt), .bool true]) ?_ rfl HQ4.out.rf.post
    rw [res_cell1 (p := 6) (u := 7) rfl _ _ (w.heap.size + 1 + 2) (stC { s with p := (s.p.set a 0), g := s.g } vo vt) 44 _ rfl (putB_at HQ4.out.rf.res _ _) Tryz.underlying44 rfl (rstate_size HQ4.out.rf.at'.len)]; rfl
end Go.Proofs.YtapjgobkpehgfaaGreatDoor
