/-
  The document's numbers: Same, and what is none of them.
-/
import Derived.Test.YtapjgobkpehgfaaGreatDoorUBM
import Derived.Deep.QuietTactic
import Derived.BigQuiet
namespace Go.Proofs.YtapjgobkpehgfaaGreatDoor
set_option linter.unusedSimpArgs false
set_option linter.unusedVariables false
open Go.RowKit

theorem belowN (w : World) (n : Nat) : Below w.heap.size w (w.drewN n) := ⟨rfl, rfl, rfl, Nat.le_refl _, fun _ _ => rfl⟩

set_option maxRecDepth 100000 in
set_option maxHeartbeats 4000000 in
theorem num_15t (w W0 : World) (s : PSt) (vo vt : Value) (a ib c : Nat) (n : Int) (z : Nat) (h : StN w vo vt s)
    (hW0 : W0 = ((w.alloc (.cells (stC s vo vt) 44)).alloc (.cells (insC ⟨15, a, ib, c, n⟩) 46)).alloc (.cells zeroS 44)) (ha : a < 8) (hib : ib < 8) (hc : c < 8) (he : (pA s ib == pA s c) = true) :
    Calls Tryz.prog 24 #[.agg (stC s vo vt), insV ⟨15, a, ib, c, n⟩] w (PartPost w (setX s a 1) (.bool true)) := by
  obtain ⟨hw, hsz⟩ := RfW.start hW0 h
  have HW := Lib.hid hw
  have HL := Lib.hid h.len
  have HSZ := Lib.hid hsz
  clear hw h hsz
  go_enter Tryz.func24, Tryz.ntmps24
  go_upto_region 1 with (fail)
  rw [← hW0]
  clear hW0
  go_upto_region 2 with (first
    | (refine wpList_ldX rfl _ rfl rfl HW.out.st HL.out ?_)
    | (refine wpList_putB rfl 38 _ _ rfl W0.heap.size (xC s.x) rfl rfl 38 zero8 (blk_new W0 zero8 38) (x8_info HL.out.x) (by rw [xC_size, HL.out.x]; rfl) (xC_one _) ?_))
  have HW1 : Hid (RfW w (putB (W0.alloc (.cells zero8 38)) W0.heap.size (xC s.x) 38) w.heap.size s vo vt ⟨15, a, ib, c, n⟩) := Lib.hid (RfW.other (HW.out.next ((Below.refl _ _).alloc (Nat.le_refl _) _)) (by have := HSZ.out; omega) (blk_new W0 zero8 38) (by decide))
  have HX1 : Hid (blk (putB (W0.alloc (.cells zero8 38)) W0.heap.size (xC s.x) 38) W0.heap.size (xC s.x) 38) := Lib.hid (putB_at (blk_new W0 zero8 38) _ _)
  obtain ⟨X, hX⟩ : ∃ X, X = W0.heap.size := ⟨_, rfl⟩
  obtain ⟨w1, hw1⟩ : ∃ w1, w1 = putB (W0.alloc (.cells zero8 38)) W0.heap.size (xC s.x) 38 := ⟨_, rfl⟩
  rw [← hw1] at HW1 HX1 ⊢
  have hXB : w.heap.size + 2 < X := by have := HSZ.out; omega
  rw [← hX] at HX1 ⊢
  clear hw1 hX HW HSZ
  obtain ⟨e0, e1, e2, e3, e4⟩ := ins_e HW1.out.ins
  have hx8 := HL.out.x
  have ha8 : (a : Int) < 8 := by omega
  have ha0 : (0 : Int) ≤ (a : Int) := by omega
  have hi8 : (ib : Int) < 8 := by omega
  have hi0 : (0 : Int) ≤ (ib : Int) := by omega
  have hc8 : (c : Int) < 8 := by omega
  have hc0 : (0 : Int) ≤ (c : Int) := by omega
  have ca : w1.cell? ⟨X, a, none⟩ = some (.int .i64 (xA s a)) := xC_cell HX1.out (k := a) (by omega)
  have fa := blk_frozen HX1.out a
  go_upto_region 10 with (fail)
  have HWa := Lib.hid (HW1.out.otherC (k := a) (v := .int .i64 0) hXB HX1.out (by decide))
  have HXa := Lib.hid (xC_put HX1.out a 0)
  clear HW1 HX1 ca fa e0 e1 e2 e3 e4
  obtain ⟨wa, hwa⟩ : ∃ wa, wa = w1.setCell ⟨X, a, none⟩ (.int .i64 0) := ⟨_, rfl⟩
  rw [← hwa] at HWa HXa ⊢
  clear hwa
  obtain ⟨e0, e1, e2, e3, e4⟩ := ins_e HWa.out.ins
  have cb : wa.cell? ⟨w.heap.size, 8 + ib, none⟩ = some (.int .i64 (pA s ib)) := blk_cell HWa.out.st _ _ (stC_p HL.out ib (by omega))
  have cc : wa.cell? ⟨w.heap.size, 8 + c, none⟩ = some (.int .i64 (pA s c)) := blk_cell HWa.out.st _ _ (stC_p HL.out c (by omega))
  have ca : wa.cell? ⟨X, a, none⟩ = some (.int .i64 0) := (blk_cell HXa.out a _ (xC_get (by rw [List.length_set]; omega))).trans (by rw [getD_set, if_pos ⟨rfl, by omega⟩])
  have fa := blk_frozen HXa.out a
  go_quiet (fail)
  go_upto_region 15 with (fail)
  have HW2 : Hid (RfW w ((wa.drewN nq).setCell ⟨X, a, none⟩ (.int .i64 1)) w.heap.size s vo vt ⟨15, a, ib, c, n⟩) := Lib.hid ((HWa.out.next (belowN wa nq)).otherC (k := a) (v := .int .i64 1) hXB (show blk (wa.drewN nq) X _ 38 from HXa.out) (by decide))
  have HX2 : Hid (blk ((wa.drewN nq).setCell ⟨X, a, none⟩ (.int .i64 1)) X (xC (s.x.set a 1)) 38) := Lib.hid (by have := xC_put (show blk (wa.drewN nq) X (xC (s.x.set a 0)) 38 from HXa.out) a 1; rw [List.set_set] at this; exact this)
  have hlx : (s.x.set a 1).length = 8 := by rw [List.length_set]; exact hx8
  clear HWa HXa ca cb cc fa e0 e1 e2 e3 e4
  obtain ⟨w2, hw2⟩ : ∃ w2, w2 = (wa.drewN nq).setCell ⟨X, a, none⟩ (.int .i64 1) := ⟨_, rfl⟩
  rw [← hw2] at HW2 HX2 ⊢
  clear hw2
  go_wp2_with (first
    | (refine wpList_loadB rfl 38 _ rfl X (xC (s.x.set a 1)) rfl 38 HX2.out _ Tryz.underlying38 rfl (x8_info hlx) ?_)
    | (refine wpList_putX rfl _ _ rfl rfl rfl HW2.out.st HW2.out.at'.len hlx ?_
       have HW3 := Lib.hid (HW2.out.put (t := { s with x := (s.x.set a 1) }) ⟨⟨hlx, HW2.out.at'.len.p, HW2.out.at'.len.g⟩, HW2.out.at'.objs, HW2.out.at'.out⟩)
       clear HW2 HX2)
    | (refine wpList_loadB rfl 44 _ rfl w.heap.size _ rfl 44 HW3.out.st _ Tryz.underlying44 rfl (rstate_size HW3.out.at'.len) ?_)
    | (refine wpList_putB rfl 44 _ _ rfl (w.heap.size + 2) _ rfl rfl 44 _ HW3.out.res (rstate_size HW3.out.at'.len) (by rw [stC_size HW3.out.at'.len]; rfl) (stC_one' HW3.out.at') ?_))
  refine bodyPost_ret (v := .tuple #[.agg (stC { s with x := (s.x.set a 1) } vo vt), .bool true]) ?_ rfl HW3.out.post
  rw [res_cell1 (p := 4) (u := 5) rfl _ _ (w.heap.size + 2) (stC { s with x := (s.x.set a 1) } vo vt) 44 _ rfl (putB_at HW3.out.res _ _) Tryz.underlying44 rfl (rstate_size HW3.out.at'.len)]; rfl

set_option maxRecDepth 100000 in
set_option maxHeartbeats 4000000 in
theorem num_15f (w W0 : World) (s : PSt) (vo vt : Value) (a ib c : Nat) (n : Int) (z : Nat) (h : StN w vo vt s)
    (hW0 : W0 = ((w.alloc (.cells (stC s vo vt) 44)).alloc (.cells (insC ⟨15, a, ib, c, n⟩) 46)).alloc (.cells zeroS 44)) (ha : a < 8) (hib : ib < 8) (hc : c < 8) (he : (pA s ib == pA s c) = false) :
    Calls Tryz.prog 24 #[.agg (stC s vo vt), insV ⟨15, a, ib, c, n⟩] w (PartPost w (setX s a 0) (.bool true)) := by
  obtain ⟨hw, hsz⟩ := RfW.start hW0 h
  have HW := Lib.hid hw
  have HL := Lib.hid h.len
  have HSZ := Lib.hid hsz
  clear hw h hsz
  go_enter Tryz.func24, Tryz.ntmps24
  go_upto_region 1 with (fail)
  rw [← hW0]
  clear hW0
  go_upto_region 2 with (first
    | (refine wpList_ldX rfl _ rfl rfl HW.out.st HL.out ?_)
    | (refine wpList_putB rfl 38 _ _ rfl W0.heap.size (xC s.x) rfl rfl 38 zero8 (blk_new W0 zero8 38) (x8_info HL.out.x) (by rw [xC_size, HL.out.x]; rfl) (xC_one _) ?_))
  have HW1 : Hid (RfW w (putB (W0.alloc (.cells zero8 38)) W0.heap.size (xC s.x) 38) w.heap.size s vo vt ⟨15, a, ib, c, n⟩) := Lib.hid (RfW.other (HW.out.next ((Below.refl _ _).alloc (Nat.le_refl _) _)) (by have := HSZ.out; omega) (blk_new W0 zero8 38) (by decide))
  have HX1 : Hid (blk (putB (W0.alloc (.cells zero8 38)) W0.heap.size (xC s.x) 38) W0.heap.size (xC s.x) 38) := Lib.hid (putB_at (blk_new W0 zero8 38) _ _)
  obtain ⟨X, hX⟩ : ∃ X, X = W0.heap.size := ⟨_, rfl⟩
  obtain ⟨w1, hw1⟩ : ∃ w1, w1 = putB (W0.alloc (.cells zero8 38)) W0.heap.size (xC s.x) 38 := ⟨_, rfl⟩
  rw [← hw1] at HW1 HX1 ⊢
  have hXB : w.heap.size + 2 < X := by have := HSZ.out; omega
  rw [← hX] at HX1 ⊢
  clear hw1 hX HW HSZ
  obtain ⟨e0, e1, e2, e3, e4⟩ := ins_e HW1.out.ins
  have hx8 := HL.out.x
  have ha8 : (a : Int) < 8 := by omega
  have ha0 : (0 : Int) ≤ (a : Int) := by omega
  have hi8 : (ib : Int) < 8 := by omega
  have hi0 : (0 : Int) ≤ (ib : Int) := by omega
  have hc8 : (c : Int) < 8 := by omega
  have hc0 : (0 : Int) ≤ (c : Int) := by omega
  have ca : w1.cell? ⟨X, a, none⟩ = some (.int .i64 (xA s a)) := xC_cell HX1.out (k := a) (by omega)
  have fa := blk_frozen HX1.out a
  go_upto_region 10 with (fail)
  have HWa := Lib.hid (HW1.out.otherC (k := a) (v := .int .i64 0) hXB HX1.out (by decide))
  have HXa := Lib.hid (xC_put HX1.out a 0)
  clear HW1 HX1 ca fa e0 e1 e2 e3 e4
  obtain ⟨wa, hwa⟩ : ∃ wa, wa = w1.setCell ⟨X, a, none⟩ (.int .i64 0) := ⟨_, rfl⟩
  rw [← hwa] at HWa HXa ⊢
  clear hwa
  obtain ⟨e0, e1, e2, e3, e4⟩ := ins_e HWa.out.ins
  have cb : wa.cell? ⟨w.heap.size, 8 + ib, none⟩ = some (.int .i64 (pA s ib)) := blk_cell HWa.out.st _ _ (stC_p HL.out ib (by omega))
  have cc : wa.cell? ⟨w.heap.size, 8 + c, none⟩ = some (.int .i64 (pA s c)) := blk_cell HWa.out.st _ _ (stC_p HL.out c (by omega))
  have ca : wa.cell? ⟨X, a, none⟩ = some (.int .i64 0) := (blk_cell HXa.out a _ (xC_get (by rw [List.length_set]; omega))).trans (by rw [getD_set, if_pos ⟨rfl, by omega⟩])
  have fa := blk_frozen HXa.out a
  go_quiet (fail)
  go_upto_region 15 with (fail)
  have HW2 : Hid (RfW w (wa.drewN nq) w.heap.size s vo vt ⟨15, a, ib, c, n⟩) := Lib.hid (HWa.out.next (belowN wa nq))
  have HX2 : Hid (blk (wa.drewN nq) X (xC (s.x.set a 0)) 38) := Lib.hid (show blk (wa.drewN nq) X (xC (s.x.set a 0)) 38 from HXa.out)
  have hlx : (s.x.set a 0).length = 8 := by rw [List.length_set]; exact hx8
  clear HWa HXa ca cb cc fa e0 e1 e2 e3 e4
  obtain ⟨w2, hw2⟩ : ∃ w2, w2 = wa.drewN nq := ⟨_, rfl⟩
  rw [← hw2] at HW2 HX2 ⊢
  clear hw2
  go_wp2_with (first
    | (refine wpList_loadB rfl 38 _ rfl X (xC (s.x.set a 0)) rfl 38 HX2.out _ Tryz.underlying38 rfl (x8_info hlx) ?_)
    | (refine wpList_putX rfl _ _ rfl rfl rfl HW2.out.st HW2.out.at'.len hlx ?_
       have HW3 := Lib.hid (HW2.out.put (t := { s with x := (s.x.set a 0) }) ⟨⟨hlx, HW2.out.at'.len.p, HW2.out.at'.len.g⟩, HW2.out.at'.objs, HW2.out.at'.out⟩)
       clear HW2 HX2)
    | (refine wpList_loadB rfl 44 _ rfl w.heap.size _ rfl 44 HW3.out.st _ Tryz.underlying44 rfl (rstate_size HW3.out.at'.len) ?_)
    | (refine wpList_putB rfl 44 _ _ rfl (w.heap.size + 2) _ rfl rfl 44 _ HW3.out.res (rstate_size HW3.out.at'.len) (by rw [stC_size HW3.out.at'.len]; rfl) (stC_one' HW3.out.at') ?_))
  refine bodyPost_ret (v := .tuple #[.agg (stC { s with x := (s.x.set a 0) } vo vt), .bool true]) ?_ rfl HW3.out.post
  rw [res_cell1 (p := 4) (u := 5) rfl _ _ (w.heap.size + 2) (stC { s with x := (s.x.set a 0) } vo vt) 44 _ rfl (putB_at HW3.out.res _ _) Tryz.underlying44 rfl (rstate_size HW3.out.at'.len)]; rfl

set_option maxRecDepth 100000 in
set_option maxHeartbeats 4000000 in
theorem num_no (w W0 : World) (s : PSt) (vo vt : Value) (z a ib c n : Int) (h : StN w vo vt s)
    (hW0 : W0 = ((w.alloc (.cells (stC s vo vt) 44)).alloc (.cells (insC ⟨z, a, ib, c, n⟩) 46)).alloc (.cells zeroS 44)) (q1 : (z == 1) = false) (q2 : (z == 2) = false) (q14 : (z == 14) = false) (q15 : (z == 15) = false) :
    Calls Tryz.prog 24 #[.agg (stC s vo vt), insV ⟨z, a, ib, c, n⟩] w (PartPost w (s) (.bool false)) := by
  obtain ⟨hw, hsz⟩ := RfW.start hW0 h
  have HW := Lib.hid hw
  have HL := Lib.hid h.len
  have HSZ := Lib.hid hsz
  clear hw h hsz
  go_enter Tryz.func24, Tryz.ntmps24
  go_upto_region 1 with (fail)
  rw [← hW0]
  clear hW0
  go_upto_region 2 with (first
    | (refine wpList_ldX rfl _ rfl rfl HW.out.st HL.out ?_)
    | (refine wpList_putB rfl 38 _ _ rfl W0.heap.size (xC s.x) rfl rfl 38 zero8 (blk_new W0 zero8 38) (x8_info HL.out.x) (by rw [xC_size, HL.out.x]; rfl) (xC_one _) ?_))
  have HW1 : Hid (RfW w (putB (W0.alloc (.cells zero8 38)) W0.heap.size (xC s.x) 38) w.heap.size s vo vt ⟨z, a, ib, c, n⟩) := Lib.hid (RfW.other (HW.out.next ((Below.refl _ _).alloc (Nat.le_refl _) _)) (by have := HSZ.out; omega) (blk_new W0 zero8 38) (by decide))
  have HX1 : Hid (blk (putB (W0.alloc (.cells zero8 38)) W0.heap.size (xC s.x) 38) W0.heap.size (xC s.x) 38) := Lib.hid (putB_at (blk_new W0 zero8 38) _ _)
  obtain ⟨X, hX⟩ : ∃ X, X = W0.heap.size := ⟨_, rfl⟩
  obtain ⟨w1, hw1⟩ : ∃ w1, w1 = putB (W0.alloc (.cells zero8 38)) W0.heap.size (xC s.x) 38 := ⟨_, rfl⟩
  rw [← hw1] at HW1 HX1 ⊢
  have hXB : w.heap.size + 2 < X := by have := HSZ.out; omega
  rw [← hX] at HX1 ⊢
  clear hw1 hX HW HSZ
  obtain ⟨e0, e1, e2, e3, e4⟩ := ins_e HW1.out.ins
  have hx8 := HL.out.x
  go_wp2_with (first
    | (refine wpList_loadB rfl 44 _ rfl w.heap.size _ rfl 44 HW1.out.st _ Tryz.underlying44 rfl (rstate_size HW1.out.at'.len) ?_)
    | (refine wpList_putB rfl 44 _ _ rfl (w.heap.size + 2) _ rfl rfl 44 _ HW1.out.res (rstate_size HW1.out.at'.len) (by rw [stC_size HW1.out.at'.len]; rfl) (stC_one' HW1.out.at') ?_))
  refine bodyPost_ret (v := .tuple #[.agg (stC s vo vt), .bool false]) ?_ rfl HW1.out.post
  rw [res_cell1 (p := 4) (u := 5) rfl _ _ (w.heap.size + 2) (stC s vo vt) 44 _ rfl (putB_at HW1.out.res _ _) Tryz.underlying44 rfl (rstate_size HW1.out.at'.len)]; rfl
end Go.Proofs.YtapjgobkpehgfaaGreatDoor
