/-
  The document's memory: a nothing is followed.
  The document's memory: LoadI.
  The document's memory: LoadP.
  The document's memory: StoreI.
  The document's memory: StoreP.
  The program's do: one contract.
  The program's Step: its contract.
-/
import Derived.Test.YtapjgobkpehgfaaGreatDoorQPtr
import Derived.StillTailTactics
import Derived.Test.YtapjgobkpehgfaaGreatDoorUAQ
import Derived.Deep.CutRange
import Derived.Deep.RegionLaw

/- The document's memory: a nothing is followed. -/
namespace Go.Proofs.YtapjgobkpehgfaaGreatDoor
set_option linter.unusedSimpArgs false
set_option linter.unusedVariables false
open Go.RowKit

/-- A field of an object, wherever it lies. -/
theorem StN.field {w : World} {vo vt : Value} {s : PSt} (h : StN w vo vt s) {k n : Nat} (h2 : k < s.objs.length) (h4 : n < (objA s.objs ((k : Int) + 1)).length) :
    ∃ b off cv br offr cr m, vo = .slice (some ⟨b, off, none⟩) s.objs.length cv ∧ s.objs.length ≤ cv ∧ cv ≤ 9223372036854775807 ∧ w.cell? ⟨b, off + k, none⟩ = some (.slice (some ⟨br, offr, none⟩) m cr) ∧ n < m ∧ m ≤ cr ∧ cr ≤ 9223372036854775807 ∧
      w.cell? ⟨br, offr + n, none⟩ = some (.int .i64 (fldA s.objs ((k : Int) + 1) n)) ∧ b < w.heap.size ∧ br < w.heap.size := by
  obtain ⟨rows, hr1, hr2, hr3, hr4⟩ := h.objs
  have ek : ((k : Int) + 1).toNat - 1 = k := by omega
  have hx : s.objs[k]? = some (objA s.objs ((k : Int) + 1)) := by unfold objA; rw [ek, List.getD_eq_getElem?_getD, List.getElem?_eq_getElem h2]; rfl
  have hrk : rows[k]? = some (rows[k]'(by omega)) := List.getElem?_eq_getElem (by omega)
  obtain ⟨-, b, off, cv, hv, g1, g2, gb, gc⟩ := hr2.cases.resolve_left (fun e => by have := congrArg List.length e.1; rw [hr1] at this; simp only [List.length_nil] at this; omega)
  obtain ⟨-, br, offr, cr, hw, q1, q2, qb, qc⟩ := (hr4 k _ _ hrk hx).cases.resolve_left (fun e => by have := congrArg List.length e.1; rw [i64s_len] at this; simp only [List.length_nil] at this; omega)
  unfold maxLen at g2 q2
  rw [hr1] at hv g1
  rw [i64s_len] at hw q1
  rw [hw] at hrk
  refine ⟨b, off, cv, br, offr, cr, _, hv, g1, by omega, gc k _ hrk, h4, q1, by omega, ?_, gb, qb⟩
  refine qc n _ ?_
  have e : (objA s.objs ((k : Int) + 1))[n]? = some (fldA s.objs ((k : Int) + 1) n) := by unfold fldA; rw [Int.toNat_natCast, List.getD_eq_getElem?_getD, List.getElem?_eq_getElem h4]; rfl
  rw [i64s_get e]

set_option maxRecDepth 100000 in
set_option maxHeartbeats 4000000 in
theorem mem_z8 (w W0 : World) (s : PSt) (vo vt : Value) (a ib c : Nat) (n : Nat) (h : StN w vo vt s)
    (hW0 : W0 = ((w.alloc (.cells (stC s vo vt) 44)).alloc (.cells (insC ⟨8, a, ib, c, n⟩) 46)).alloc (.cells zeroS 44)) (hib : ib < 8) (hz : Hid (pA s ib = 0)) :
    Calls Tryz.prog 26 #[.agg (stC s vo vt), insV ⟨8, a, ib, c, n⟩] w (PartPost w (s) (.int .i64 9)) := by
  obtain ⟨hw, hsz⟩ := RfW.start hW0 h
  have HW1 := Lib.hid hw
  have HL := Lib.hid h.len
  have HSZ := Lib.hid hsz
  clear hw h hsz
  have hx8 := HL.out.x
  have hp8 := HL.out.p
  go_enter Tryz.func26, Tryz.ntmps26
  go_upto_region 1 with (fail)
  rw [← hW0]
  clear hW0
  obtain ⟨e0, e1, e2, e3, e4⟩ := ins_e HW1.out.ins
  have hib8 : (ib : Int) < 8 := by omega
  have hib0 : (0 : Int) ≤ (ib : Int) := by omega
  have cp : W0.cell? ⟨w.heap.size, 8 + ib, none⟩ = some (.int .i64 (pA s ib)) := blk_cell HW1.out.st _ _ (stC_p HL.out ib (by omega))
  rw [hz.out] at cp
  go_wp2_with (first
    | (refine wpList_loadB rfl 44 _ rfl w.heap.size _ rfl 44 HW1.out.st _ Tryz.underlying44 rfl (rstate_size HW1.out.at'.len) ?_)
    | (refine wpList_putB rfl 44 _ _ rfl (w.heap.size + 2) _ rfl rfl 44 _ HW1.out.res (rstate_size HW1.out.at'.len) (by rw [stC_size HW1.out.at'.len]; rfl) (stC_one' HW1.out.at') ?_))
  refine bodyPost_ret (v := .tuple #[.agg (stC s vo vt), .int .i64 9]) ?_ rfl HW1.out.post
  rw [res_cell1 (p := 4) (u := 5) rfl _ _ (w.heap.size + 2) (stC s vo vt) 44 _ rfl (putB_at HW1.out.res _ _) Tryz.underlying44 rfl (rstate_size HW1.out.at'.len)]; rfl

set_option maxRecDepth 100000 in
set_option maxHeartbeats 4000000 in
theorem mem_z10 (w W0 : World) (s : PSt) (vo vt : Value) (a ib c : Nat) (n : Nat) (h : StN w vo vt s)
    (hW0 : W0 = ((w.alloc (.cells (stC s vo vt) 44)).alloc (.cells (insC ⟨10, a, ib, c, n⟩) 46)).alloc (.cells zeroS 44)) (hib : ib < 8) (hz : Hid (pA s ib = 0)) :
    Calls Tryz.prog 26 #[.agg (stC s vo vt), insV ⟨10, a, ib, c, n⟩] w (PartPost w (s) (.int .i64 9)) := by
  obtain ⟨hw, hsz⟩ := RfW.start hW0 h
  have HW1 := Lib.hid hw
  have HL := Lib.hid h.len
  have HSZ := Lib.hid hsz
  clear hw h hsz
  have hx8 := HL.out.x
  have hp8 := HL.out.p
  go_enter Tryz.func26, Tryz.ntmps26
  go_upto_region 1 with (fail)
  rw [← hW0]
  clear hW0
  obtain ⟨e0, e1, e2, e3, e4⟩ := ins_e HW1.out.ins
  have hib8 : (ib : Int) < 8 := by omega
  have hib0 : (0 : Int) ≤ (ib : Int) := by omega
  have cp : W0.cell? ⟨w.heap.size, 8 + ib, none⟩ = some (.int .i64 (pA s ib)) := blk_cell HW1.out.st _ _ (stC_p HL.out ib (by omega))
  rw [hz.out] at cp
  go_wp2_with (first
    | (refine wpList_loadB rfl 44 _ rfl w.heap.size _ rfl 44 HW1.out.st _ Tryz.underlying44 rfl (rstate_size HW1.out.at'.len) ?_)
    | (refine wpList_putB rfl 44 _ _ rfl (w.heap.size + 2) _ rfl rfl 44 _ HW1.out.res (rstate_size HW1.out.at'.len) (by rw [stC_size HW1.out.at'.len]; rfl) (stC_one' HW1.out.at') ?_))
  refine bodyPost_ret (v := .tuple #[.agg (stC s vo vt), .int .i64 9]) ?_ rfl HW1.out.post
  rw [res_cell1 (p := 4) (u := 5) rfl _ _ (w.heap.size + 2) (stC s vo vt) 44 _ rfl (putB_at HW1.out.res _ _) Tryz.underlying44 rfl (rstate_size HW1.out.at'.len)]; rfl

set_option maxRecDepth 100000 in
set_option maxHeartbeats 4000000 in
theorem mem_z9 (w W0 : World) (s : PSt) (vo vt : Value) (a ib c : Nat) (n : Nat) (h : StN w vo vt s)
    (hW0 : W0 = ((w.alloc (.cells (stC s vo vt) 44)).alloc (.cells (insC ⟨9, a, ib, c, n⟩) 46)).alloc (.cells zeroS 44)) (ha : a < 8) (hz : Hid (pA s a = 0)) :
    Calls Tryz.prog 26 #[.agg (stC s vo vt), insV ⟨9, a, ib, c, n⟩] w (PartPost w (s) (.int .i64 9)) := by
  obtain ⟨hw, hsz⟩ := RfW.start hW0 h
  have HW1 := Lib.hid hw
  have HL := Lib.hid h.len
  have HSZ := Lib.hid hsz
  clear hw h hsz
  have hx8 := HL.out.x
  have hp8 := HL.out.p
  go_enter Tryz.func26, Tryz.ntmps26
  go_upto_region 1 with (fail)
  rw [← hW0]
  clear hW0
  obtain ⟨e0, e1, e2, e3, e4⟩ := ins_e HW1.out.ins
  have ha8 : (a : Int) < 8 := by omega
  have ha0 : (0 : Int) ≤ (a : Int) := by omega
  have cp : W0.cell? ⟨w.heap.size, 8 + a, none⟩ = some (.int .i64 (pA s a)) := blk_cell HW1.out.st _ _ (stC_p HL.out a (by omega))
  rw [hz.out] at cp
  go_wp2_with (first
    | (refine wpList_loadB rfl 44 _ rfl w.heap.size _ rfl 44 HW1.out.st _ Tryz.underlying44 rfl (rstate_size HW1.out.at'.len) ?_)
    | (refine wpList_putB rfl 44 _ _ rfl (w.heap.size + 2) _ rfl rfl 44 _ HW1.out.res (rstate_size HW1.out.at'.len) (by rw [stC_size HW1.out.at'.len]; rfl) (stC_one' HW1.out.at') ?_))
  refine bodyPost_ret (v := .tuple #[.agg (stC s vo vt), .int .i64 9]) ?_ rfl HW1.out.post
  rw [res_cell1 (p := 4) (u := 5) rfl _ _ (w.heap.size + 2) (stC s vo vt) 44 _ rfl (putB_at HW1.out.res _ _) Tryz.underlying44 rfl (rstate_size HW1.out.at'.len)]; rfl

set_option maxRecDepth 100000 in
set_option maxHeartbeats 4000000 in
theorem mem_z11 (w W0 : World) (s : PSt) (vo vt : Value) (a ib c : Nat) (n : Nat) (h : StN w vo vt s)
    (hW0 : W0 = ((w.alloc (.cells (stC s vo vt) 44)).alloc (.cells (insC ⟨11, a, ib, c, n⟩) 46)).alloc (.cells zeroS 44)) (ha : a < 8) (hz : Hid (pA s a = 0)) :
    Calls Tryz.prog 26 #[.agg (stC s vo vt), insV ⟨11, a, ib, c, n⟩] w (PartPost w (s) (.int .i64 9)) := by
  obtain ⟨hw, hsz⟩ := RfW.start hW0 h
  have HW1 := Lib.hid hw
  have HL := Lib.hid h.len
  have HSZ := Lib.hid hsz
  clear hw h hsz
  have hx8 := HL.out.x
  have hp8 := HL.out.p
  go_enter Tryz.func26, Tryz.ntmps26
  go_upto_region 1 with (fail)
  rw [← hW0]
  clear hW0
  obtain ⟨e0, e1, e2, e3, e4⟩ := ins_e HW1.out.ins
  have ha8 : (a : Int) < 8 := by omega
  have ha0 : (0 : Int) ≤ (a : Int) := by omega
  have cp : W0.cell? ⟨w.heap.size, 8 + a, none⟩ = some (.int .i64 (pA s a)) := blk_cell HW1.out.st _ _ (stC_p HL.out a (by omega))
  rw [hz.out] at cp
  go_wp2_with (first
    | (refine wpList_loadB rfl 44 _ rfl w.heap.size _ rfl 44 HW1.out.st _ Tryz.underlying44 rfl (rstate_size HW1.out.at'.len) ?_)
    | (refine wpList_putB rfl 44 _ _ rfl (w.heap.size + 2) _ rfl rfl 44 _ HW1.out.res (rstate_size HW1.out.at'.len) (by rw [stC_size HW1.out.at'.len]; rfl) (stC_one' HW1.out.at') ?_))
  refine bodyPost_ret (v := .tuple #[.agg (stC s vo vt), .int .i64 9]) ?_ rfl HW1.out.post
  rw [res_cell1 (p := 4) (u := 5) rfl _ _ (w.heap.size + 2) (stC s vo vt) 44 _ rfl (putB_at HW1.out.res _ _) Tryz.underlying44 rfl (rstate_size HW1.out.at'.len)]; rfl
end Go.Proofs.YtapjgobkpehgfaaGreatDoor

/- The document's memory: LoadI. -/
namespace Go.Proofs.YtapjgobkpehgfaaGreatDoor
set_option linter.unusedSimpArgs false
set_option linter.unusedVariables false
open Go.RowKit

set_option maxRecDepth 100000 in
set_option maxHeartbeats 4000000 in
theorem mem_8 (w W0 : World) (s : PSt) (vo vt : Value) (a ib c : Nat) (n : Nat) (h : StN w vo vt s)
    (hW0 : W0 = ((w.alloc (.cells (stC s vo vt) 44)).alloc (.cells (insC ⟨8, a, ib, c, n⟩) 46)).alloc (.cells zeroS 44)) (k : Nat) (ha : a < 8) (hib : ib < 8) (hk : k < s.objs.length) (hn : n < (objA s.objs ((k : Int) + 1)).length) (hz : Hid (pA s ib = (k : Int) + 1)) (hol : s.objs.length ≤ 1000000) :
    Calls Tryz.prog 26 #[.agg (stC s vo vt), insV ⟨8, a, ib, c, n⟩] w (PartPost w (setX s a (fldA s.objs ((k : Int) + 1) n)) (.int .i64 0)) := by
  obtain ⟨bo, oo, cv, br, orr, cr, m, hvo, hcv, hcv2, hrow, hnm, hmc, hcr, hfld, hbo, hbr⟩ := h.field hk hn
  subst hvo
  obtain ⟨hw, hsz⟩ := RfW.start hW0 h
  have HW1 := Lib.hid hw
  have HL := Lib.hid h.len
  have HSZ := Lib.hid hsz
  clear hw h hsz
  have hx8 := HL.out.x
  have hp8 := HL.out.p
  go_enter Tryz.func26, Tryz.ntmps26
  go_upto_region 1 with (fail)
  rw [← hW0]
  clear hW0
  obtain ⟨e0, e1, e2, e3, e4⟩ := ins_e HW1.out.ins
  have ha8 : (a : Int) < 8 := by omega
  have ha0 : (0 : Int) ≤ (a : Int) := by omega
  have hi8 : (ib : Int) < 8 := by omega
  have hi0 : (0 : Int) ≤ (ib : Int) := by omega
  have cp : W0.cell? ⟨w.heap.size, 8 + ib, none⟩ = some (.int .i64 (pA s ib)) := blk_cell HW1.out.st _ _ (stC_p HL.out ib (by omega))
  rw [hz.out] at cp
  have hk0 : ((k : Int) + 1 == 0) = false := by simp; omega
  have hko : ((k : Int)) < (s.objs.length : Int) := by omega
  have hkk : (0 : Int) ≤ (k : Int) := by omega
  have hni : ((n : Int)) < (m : Int) := by omega
  have hnn : (0 : Int) ≤ (n : Int) := by omega
  go_upto_region 10 with (fail)
  clear cp
  go_upto_region 11 with (first
    | (refine wpList_ldX rfl _ rfl rfl HW1.out.st HL.out ?_)
    | (refine wpList_putB rfl 38 _ _ rfl W0.heap.size (xC s.x) rfl rfl 38 zero8 (blk_new W0 zero8 38) (x8_info HL.out.x) (by rw [xC_size, HL.out.x]; rfl) (xC_one _) ?_))
  have HWa : Hid (RfW w (putB (W0.alloc (.cells zero8 38)) W0.heap.size (xC s.x) 38) w.heap.size s (.slice (some ⟨bo, oo, none⟩) s.objs.length cv) vt ⟨8, a, ib, c, n⟩) := Lib.hid (RfW.other (HW1.out.next ((Below.refl _ _).alloc (Nat.le_refl _) _)) (by have := HSZ.out; omega) (blk_new W0 zero8 38) (by decide))
  have HXa : Hid (blk (putB (W0.alloc (.cells zero8 38)) W0.heap.size (xC s.x) 38) W0.heap.size (xC s.x) 38) := Lib.hid (putB_at (blk_new W0 zero8 38) _ _)
  obtain ⟨X, hX⟩ : ∃ X, X = W0.heap.size := ⟨_, rfl⟩
  obtain ⟨w1, hw1⟩ : ∃ w1, w1 = putB (W0.alloc (.cells zero8 38)) W0.heap.size (xC s.x) 38 := ⟨_, rfl⟩
  have hXB : w.heap.size + 2 < X := by have := HSZ.out; omega
  rw [← hw1] at HWa HXa ⊢
  rw [← hX] at HXa ⊢
  clear hw1 hX HW1 HSZ e0 e1 e2 e3 e4
  obtain ⟨e0, e1, e2, e3, e4⟩ := ins_e HWa.out.ins
  have c20 := blk_cell HWa.out.st 20 _ (stC_rest HL.out).1
  have q1 : w1.cell? ⟨bo, oo + k, none⟩ = some (.slice (some ⟨br, orr, none⟩) m cr) := by rw [HWa.out.below.cell (p := ⟨bo, oo + k, none⟩) hbo]; exact hrow
  have q2 : w1.cell? ⟨br, orr + n, none⟩ = some (.int .i64 (fldA s.objs ((k : Int) + 1) n)) := by rw [HWa.out.below.cell (p := ⟨br, orr + n, none⟩) hbr]; exact hfld
  have ca : w1.cell? ⟨X, a, none⟩ = some (.int .i64 (xA s a)) := xC_cell HXa.out (k := a) (by omega)
  have fa := blk_frozen HXa.out a
  have hwk : IntKind.i64.wrap (k : Int) = k := IntWalk.i64_in _ (by omega)
  clear hrow hfld
  go_wp2_with (fail)
  refine wp_region_still_tail 12 (by kernel_rfl) (by kernel_rfl) ?_
  simp only [List.take_succ_cons, List.take_zero, List.drop_succ_cons, List.drop_zero]
  change wpStill _ _ w1.drew (fun a' => wpList _ _ _ _ a' w1.drew) _ _
  repeat still_step
  refine wpStill_nil ?_
  go_upto_region 12 with (fail)
  have HW2 : Hid (RfW w (w1.setCell ⟨X, a, none⟩ (.int .i64 (fldA s.objs ((k : Int) + 1) n))).drew w.heap.size s (.slice (some ⟨bo, oo, none⟩) s.objs.length cv) vt ⟨8, a, ib, c, n⟩) := Lib.hid ((HWa.out.otherC (k := a) (v := .int .i64 (fldA s.objs ((k : Int) + 1) n)) hXB HXa.out (by decide)).next (Below.refl _ _).drew)
  have HX2 : Hid (blk (w1.setCell ⟨X, a, none⟩ (.int .i64 (fldA s.objs ((k : Int) + 1) n))).drew X (xC (s.x.set a (fldA s.objs ((k : Int) + 1) n))) 38) := Lib.hid (xC_put HXa.out a _)
  have hlx : (s.x.set a (fldA s.objs ((k : Int) + 1) n)).length = 8 := by rw [List.length_set]; exact hx8
  clear HWa HXa ca fa e0 e1 e2 e3 e4 c20 q1 q2
  obtain ⟨w2, hw2⟩ : ∃ w2, w2 = (w1.setCell ⟨X, a, none⟩ (.int .i64 (fldA s.objs ((k : Int) + 1) n))).drew := ⟨_, rfl⟩
  rw [← hw2] at HW2 HX2 ⊢
  clear hw2
  go_wp2_with (first
    | (refine wpList_loadB rfl 38 _ rfl X (xC (s.x.set a (fldA s.objs ((k : Int) + 1) n))) rfl 38 HX2.out _ Tryz.underlying38 rfl (x8_info hlx) ?_)
    | (refine wpList_putX rfl _ _ rfl rfl rfl HW2.out.st HW2.out.at'.len hlx ?_
       have HW3 := Lib.hid (HW2.out.put (t := { s with x := s.x.set a (fldA s.objs ((k : Int) + 1) n) }) ⟨⟨hlx, HW2.out.at'.len.p, HW2.out.at'.len.g⟩, HW2.out.at'.objs, HW2.out.at'.out⟩)
       clear HW2 HX2)
    | (refine wpList_loadB rfl 44 _ rfl w.heap.size _ rfl 44 HW3.out.st _ Tryz.underlying44 rfl (rstate_size HW3.out.at'.len) ?_)
    | (refine wpList_putB rfl 44 _ _ rfl (w.heap.size + 2) _ rfl rfl 44 _ HW3.out.res (rstate_size HW3.out.at'.len) (by rw [stC_size HW3.out.at'.len]; rfl) (stC_one' HW3.out.at') ?_))
  refine bodyPost_ret (v := .tuple #[.agg (stC { s with x := s.x.set a (fldA s.objs ((k : Int) + 1) n) } (.slice (some ⟨bo, oo, none⟩) s.objs.length cv) vt), .int .i64 0]) ?_ rfl HW3.out.post
  rw [res_cell1 (p := 4) (u := 5) rfl _ _ (w.heap.size + 2) (stC { s with x := s.x.set a (fldA s.objs ((k : Int) + 1) n) } (.slice (some ⟨bo, oo, none⟩) s.objs.length cv) vt) 44 _ rfl (putB_at HW3.out.res _ _) Tryz.underlying44 rfl (rstate_size HW3.out.at'.len)]; rfl
end Go.Proofs.YtapjgobkpehgfaaGreatDoor

/- The document's memory: LoadP. -/
namespace Go.Proofs.YtapjgobkpehgfaaGreatDoor
set_option linter.unusedSimpArgs false
set_option linter.unusedVariables false
open Go.RowKit

set_option maxRecDepth 100000 in
set_option maxHeartbeats 4000000 in
theorem mem_10 (w W0 : World) (s : PSt) (vo vt : Value) (a ib c : Nat) (n : Nat) (h : StN w vo vt s)
    (hW0 : W0 = ((w.alloc (.cells (stC s vo vt) 44)).alloc (.cells (insC ⟨10, a, ib, c, n⟩) 46)).alloc (.cells zeroS 44)) (k : Nat) (ha : a < 8) (hib : ib < 8) (hk : k < s.objs.length) (hn : n < (objA s.objs ((k : Int) + 1)).length) (hz : Hid (pA s ib = (k : Int) + 1)) (hol : s.objs.length ≤ 1000000) :
    Calls Tryz.prog 26 #[.agg (stC s vo vt), insV ⟨10, a, ib, c, n⟩] w (PartPost w (setP s a (fldA s.objs ((k : Int) + 1) n)) (.int .i64 0)) := by
  obtain ⟨bo, oo, cv, br, orr, cr, m, hvo, hcv, hcv2, hrow, hnm, hmc, hcr, hfld, hbo, hbr⟩ := h.field hk hn
  subst hvo
  obtain ⟨hw, hsz⟩ := RfW.start hW0 h
  have HW1 := Lib.hid hw
  have HL := Lib.hid h.len
  have HSZ := Lib.hid hsz
  clear hw h hsz
  have hx8 := HL.out.x
  have hp8 := HL.out.p
  go_enter Tryz.func26, Tryz.ntmps26
  go_upto_region 1 with (fail)
  rw [← hW0]
  clear hW0
  obtain ⟨e0, e1, e2, e3, e4⟩ := ins_e HW1.out.ins
  have ha8 : (a : Int) < 8 := by omega
  have ha0 : (0 : Int) ≤ (a : Int) := by omega
  have hi8 : (ib : Int) < 8 := by omega
  have hi0 : (0 : Int) ≤ (ib : Int) := by omega
  have cp : W0.cell? ⟨w.heap.size, 8 + ib, none⟩ = some (.int .i64 (pA s ib)) := blk_cell HW1.out.st _ _ (stC_p HL.out ib (by omega))
  rw [hz.out] at cp
  have hk0 : ((k : Int) + 1 == 0) = false := by simp; omega
  have hko : ((k : Int)) < (s.objs.length : Int) := by omega
  have hkk : (0 : Int) ≤ (k : Int) := by omega
  have hni : ((n : Int)) < (m : Int) := by omega
  have hnn : (0 : Int) ≤ (n : Int) := by omega
  go_upto_region 14 with (fail)
  clear cp
  go_upto_region 15 with (first
    | (refine wpList_ldP rfl _ rfl rfl HW1.out.st HL.out ?_)
    | (refine wpList_putB rfl 39 _ _ rfl W0.heap.size (xC s.p) rfl rfl 39 zero8 (blk_new W0 zero8 39) (p8_info HL.out.p) (by rw [xC_size, HL.out.p]; rfl) (xC_one _) ?_))
  have HWa : Hid (RfW w (putB (W0.alloc (.cells zero8 39)) W0.heap.size (xC s.p) 39) w.heap.size s (.slice (some ⟨bo, oo, none⟩) s.objs.length cv) vt ⟨10, a, ib, c, n⟩) := Lib.hid (RfW.other (HW1.out.next ((Below.refl _ _).alloc (Nat.le_refl _) _)) (by have := HSZ.out; omega) (blk_new W0 zero8 39) (by decide))
  have HXa : Hid (blk (putB (W0.alloc (.cells zero8 39)) W0.heap.size (xC s.p) 39) W0.heap.size (xC s.p) 39) := Lib.hid (putB_at (blk_new W0 zero8 39) _ _)
  obtain ⟨X, hX⟩ : ∃ X, X = W0.heap.size := ⟨_, rfl⟩
  obtain ⟨w1, hw1⟩ : ∃ w1, w1 = putB (W0.alloc (.cells zero8 39)) W0.heap.size (xC s.p) 39 := ⟨_, rfl⟩
  have hXB : w.heap.size + 2 < X := by have := HSZ.out; omega
  rw [← hw1] at HWa HXa ⊢
  rw [← hX] at HXa ⊢
  clear hw1 hX HW1 HSZ e0 e1 e2 e3 e4
  obtain ⟨e0, e1, e2, e3, e4⟩ := ins_e HWa.out.ins
  have c20 := blk_cell HWa.out.st 20 _ (stC_rest HL.out).1
  have q1 : w1.cell? ⟨bo, oo + k, none⟩ = some (.slice (some ⟨br, orr, none⟩) m cr) := by rw [HWa.out.below.cell (p := ⟨bo, oo + k, none⟩) hbo]; exact hrow
  have q2 : w1.cell? ⟨br, orr + n, none⟩ = some (.int .i64 (fldA s.objs ((k : Int) + 1) n)) := by rw [HWa.out.below.cell (p := ⟨br, orr + n, none⟩) hbr]; exact hfld
  have ca : w1.cell? ⟨X, a, none⟩ = some (.int .i64 (pA s a)) := xC_cell HXa.out (k := a) (by omega)
  have fa := blk_frozen HXa.out a
  have hwk : IntKind.i64.wrap (k : Int) = k := IntWalk.i64_in _ (by omega)
  clear hrow hfld
  go_wp2_with (fail)
  refine wp_region_still_tail 12 (by kernel_rfl) (by kernel_rfl) ?_
  simp only [List.take_succ_cons, List.take_zero, List.drop_succ_cons, List.drop_zero]
  change wpStill _ _ w1.drew (fun a' => wpList _ _ _ _ a' w1.drew) _ _
  repeat still_step
  refine wpStill_nil ?_
  go_upto_region 16 with (fail)
  have HW2 : Hid (RfW w (w1.setCell ⟨X, a, none⟩ (.int .i64 (fldA s.objs ((k : Int) + 1) n))).drew w.heap.size s (.slice (some ⟨bo, oo, none⟩) s.objs.length cv) vt ⟨10, a, ib, c, n⟩) := Lib.hid ((HWa.out.otherC (k := a) (v := .int .i64 (fldA s.objs ((k : Int) + 1) n)) hXB HXa.out (by decide)).next (Below.refl _ _).drew)
  have HX2 : Hid (blk (w1.setCell ⟨X, a, none⟩ (.int .i64 (fldA s.objs ((k : Int) + 1) n))).drew X (xC (s.p.set a (fldA s.objs ((k : Int) + 1) n))) 39) := Lib.hid (xC_put HXa.out a _)
  have hlx : (s.p.set a (fldA s.objs ((k : Int) + 1) n)).length = 8 := by rw [List.length_set]; exact hp8
  clear HWa HXa ca fa e0 e1 e2 e3 e4 c20 q1 q2
  obtain ⟨w2, hw2⟩ : ∃ w2, w2 = (w1.setCell ⟨X, a, none⟩ (.int .i64 (fldA s.objs ((k : Int) + 1) n))).drew := ⟨_, rfl⟩
  rw [← hw2] at HW2 HX2 ⊢
  clear hw2
  go_wp2_with (first
    | (refine wpList_loadB rfl 39 _ rfl X (xC (s.p.set a (fldA s.objs ((k : Int) + 1) n))) rfl 39 HX2.out _ Tryz.underlying39 rfl (p8_info hlx) ?_)
    | (refine wpList_putP rfl _ _ rfl rfl rfl HW2.out.st HW2.out.at'.len hlx ?_
       have HW3 := Lib.hid (HW2.out.put (t := { s with p := s.p.set a (fldA s.objs ((k : Int) + 1) n) }) ⟨⟨HW2.out.at'.len.x, hlx, HW2.out.at'.len.g⟩, HW2.out.at'.objs, HW2.out.at'.out⟩)
       clear HW2 HX2)
    | (refine wpList_loadB rfl 44 _ rfl w.heap.size _ rfl 44 HW3.out.st _ Tryz.underlying44 rfl (rstate_size HW3.out.at'.len) ?_)
    | (refine wpList_putB rfl 44 _ _ rfl (w.heap.size + 2) _ rfl rfl 44 _ HW3.out.res (rstate_size HW3.out.at'.len) (by rw [stC_size HW3.out.at'.len]; rfl) (stC_one' HW3.out.at') ?_))
  refine bodyPost_ret (v := .tuple #[.agg (stC { s with p := s.p.set a (fldA s.objs ((k : Int) + 1) n) } (.slice (some ⟨bo, oo, none⟩) s.objs.length cv) vt), .int .i64 0]) ?_ rfl HW3.out.post
  rw [res_cell1 (p := 4) (u := 5) rfl _ _ (w.heap.size + 2) (stC { s with p := s.p.set a (fldA s.objs ((k : Int) + 1) n) } (.slice (some ⟨bo, oo, none⟩) s.objs.length cv) vt) 44 _ rfl (putB_at HW3.out.res _ _) Tryz.underlying44 rfl (rstate_size HW3.out.at'.len)]; rfl
end Go.Proofs.YtapjgobkpehgfaaGreatDoor

/- The document's memory: StoreI. -/
namespace Go.Proofs.YtapjgobkpehgfaaGreatDoor
set_option linter.unusedSimpArgs false
set_option linter.unusedVariables false
open Go.RowKit

set_option maxRecDepth 100000 in
set_option maxHeartbeats 4000000 in
theorem mem_9 (w W0 : World) (s : PSt) (vo vt : Value) (a ib c : Nat) (n : Nat) (h : StN w vo vt s)
    (hW0 : W0 = ((w.alloc (.cells (stC s vo vt) 44)).alloc (.cells (insC ⟨9, a, ib, c, n⟩) 46)).alloc (.cells zeroS 44)) (k : Nat) (ha : a < 8) (hib : ib < 8) (hz : Hid (pA s a = (k : Int) + 1)) (hol : s.objs.length ≤ 1000000) (HPUT : Hid (∀ w1, Below w.heap.size w w1 → Calls Tryz.prog 46 #[vo, .int .i64 ((k : Int) + 1), .int .i64 n, .int .i64 (xA s ib)] w1 (PutG w1 (putA s.objs ((k : Int) + 1) n (xA s ib))))) :
    Calls Tryz.prog 26 #[.agg (stC s vo vt), insV ⟨9, a, ib, c, n⟩] w (PartPost w (setO s ((k : Int) + 1) n (xA s ib)) (.int .i64 0)) := by
  obtain ⟨rows, hr1, hr2, -, -⟩ := id h.objs
  obtain ⟨⟨av, cv, hvo, hcv, hcv2, -⟩, -⟩ := id hr2
  rw [hr1] at hvo hcv
  unfold maxLen at hcv2
  subst hvo
  clear hr1 hr2
  obtain ⟨hw, hsz⟩ := RfW.start hW0 h
  have HW1 := Lib.hid hw
  have HL := Lib.hid h.len
  have HSZ := Lib.hid hsz
  clear hw h hsz
  have hx8 := HL.out.x
  have hp8 := HL.out.p
  go_enter Tryz.func26, Tryz.ntmps26
  go_upto_region 1 with (fail)
  rw [← hW0]
  clear hW0
  obtain ⟨e0, e1, e2, e3, e4⟩ := ins_e HW1.out.ins
  have ha8 : (a : Int) < 8 := by omega
  have ha0 : (0 : Int) ≤ (a : Int) := by omega
  have hi8 : (ib : Int) < 8 := by omega
  have hi0 : (0 : Int) ≤ (ib : Int) := by omega
  have cp : W0.cell? ⟨w.heap.size, 8 + a, none⟩ = some (.int .i64 (pA s a)) := blk_cell HW1.out.st _ _ (stC_p HL.out a (by omega))
  rw [hz.out] at cp
  have hk0 : ((k : Int) + 1 == 0) = false := by simp; omega
  go_upto_region 18 with (fail)
  clear cp
  have c20 := blk_cell HW1.out.st 20 _ (stC_rest HL.out).1
  have cx : W0.cell? ⟨w.heap.size, ib, none⟩ = some (.int .i64 (xA s ib)) := blk_cell HW1.out.st _ _ (stC_x HL.out ib (by omega))
  go_wp2_with (fail)
  refine wp_region_still_tail 10 (by kernel_rfl) (by kernel_rfl) ?_
  simp only [List.take_succ_cons, List.take_zero, List.drop_succ_cons, List.drop_zero]
  change wpStill _ _ W0.drew (fun a' => wpList _ _ _ _ a' W0.drew) _ _
  repeat still_step
  refine wpStill_nil ?_
  go_upto_region 19 with (
    go_at_call 46
    refine (HPUT.out _ HW1.out.below.drew).mono ?_
    rintro e w5 ⟨v1, rfl, hg5, hb5⟩
    obtain ⟨rows5, h51, ⟨⟨av5, cv5, hv5, -, -, -⟩, -⟩, -⟩ := id hg5
    subst hv5
    rw [h51] at hg5 ⊢
    clear h51
    have HG5 := Lib.hid hg5
    have HW5 := Lib.hid (HW1.out.next (show Below W0.heap.size W0 w5 from (Below.refl W0.heap.size W0).drew.trans hb5))
    clear hg5 hb5 c20 cx e0 e1 e2 e3 e4
    have c20 := blk_cell HW5.out.st 20 _ (stC_rest HL.out).1
    have f20 := blk_frozen HW5.out.st 20)
  have HW6 : Hid (RfW w (w5.setCell ⟨w.heap.size, 20, none⟩ (.slice av5 (putA s.objs ((k : Int) + 1) n (xA s ib)).length cv5)) w.heap.size (setO s ((k : Int) + 1) n (xA s ib)) (.slice av5 (putA s.objs ((k : Int) + 1) n (xA s ib)).length cv5) vt ⟨9, a, ib, c, n⟩) := Lib.hid (by
    rw [setCell_putB HW5.out.st, stC_setO HL.out (putA s.objs ((k : Int) + 1) n (xA s ib))]
    exact HW5.out.put (t := setO s ((k : Int) + 1) n (xA s ib)) ⟨⟨HL.out.x, HL.out.p, HL.out.g⟩, HG5.out, HW5.out.at'.out⟩)
  clear HW5 HG5 HW1 c20 f20
  obtain ⟨w6, hw6⟩ : ∃ w6, w6 = w5.setCell ⟨w.heap.size, 20, none⟩ (.slice av5 (putA s.objs ((k : Int) + 1) n (xA s ib)).length cv5) := ⟨_, rfl⟩
  rw [← hw6] at HW6 ⊢
  clear hw6
  go_wp2_with (first
    | (refine wpList_loadB rfl 44 _ rfl w.heap.size _ rfl 44 HW6.out.st _ Tryz.underlying44 rfl (rstate_size HW6.out.at'.len) ?_)
    | (refine wpList_putB rfl 44 _ _ rfl (w.heap.size + 2) _ rfl rfl 44 _ HW6.out.res (rstate_size HW6.out.at'.len) (by rw [stC_size HW6.out.at'.len]; rfl) (stC_one' HW6.out.at') ?_))
  refine bodyPost_ret (v := .tuple #[.agg (stC (setO s ((k : Int) + 1) n (xA s ib)) (.slice av5 (putA s.objs ((k : Int) + 1) n (xA s ib)).length cv5) vt), .int .i64 0]) ?_ rfl HW6.out.post
  rw [res_cell1 (p := 4) (u := 5) rfl _ _ (w.heap.size + 2) (stC (setO s ((k : Int) + 1) n (xA s ib)) (.slice av5 (putA s.objs ((k : Int) + 1) n (xA s ib)).length cv5) vt) 44 _ rfl (putB_at HW6.out.res _ _) Tryz.underlying44 rfl (rstate_size HW6.out.at'.len)]; rfl
end Go.Proofs.YtapjgobkpehgfaaGreatDoor

/- The document's memory: StoreP. -/
namespace Go.Proofs.YtapjgobkpehgfaaGreatDoor
set_option linter.unusedSimpArgs false
set_option linter.unusedVariables false
open Go.RowKit

set_option maxRecDepth 100000 in
set_option maxHeartbeats 4000000 in
theorem mem_11 (w W0 : World) (s : PSt) (vo vt : Value) (a ib c : Nat) (n : Nat) (h : StN w vo vt s)
    (hW0 : W0 = ((w.alloc (.cells (stC s vo vt) 44)).alloc (.cells (insC ⟨11, a, ib, c, n⟩) 46)).alloc (.cells zeroS 44)) (k : Nat) (ha : a < 8) (hib : ib < 8) (hz : Hid (pA s a = (k : Int) + 1)) (hol : s.objs.length ≤ 1000000) (HPUT : Hid (∀ w1, Below w.heap.size w w1 → Calls Tryz.prog 46 #[vo, .int .i64 ((k : Int) + 1), .int .i64 n, .int .i64 (pA s ib)] w1 (PutG w1 (putA s.objs ((k : Int) + 1) n (pA s ib))))) :
    Calls Tryz.prog 26 #[.agg (stC s vo vt), insV ⟨11, a, ib, c, n⟩] w (PartPost w (setO s ((k : Int) + 1) n (pA s ib)) (.int .i64 0)) := by
  obtain ⟨rows, hr1, hr2, -, -⟩ := id h.objs
  obtain ⟨⟨av, cv, hvo, hcv, hcv2, -⟩, -⟩ := id hr2
  rw [hr1] at hvo hcv
  unfold maxLen at hcv2
  subst hvo
  clear hr1 hr2
  obtain ⟨hw, hsz⟩ := RfW.start hW0 h
  have HW1 := Lib.hid hw
  have HL := Lib.hid h.len
  have HSZ := Lib.hid hsz
  clear hw h hsz
  have hx8 := HL.out.x
  have hp8 := HL.out.p
  go_enter Tryz.func26, Tryz.ntmps26
  go_upto_region 1 with (fail)
  rw [← hW0]
  clear hW0
  obtain ⟨e0, e1, e2, e3, e4⟩ := ins_e HW1.out.ins
  have ha8 : (a : Int) < 8 := by omega
  have ha0 : (0 : Int) ≤ (a : Int) := by omega
  have hi8 : (ib : Int) < 8 := by omega
  have hi0 : (0 : Int) ≤ (ib : Int) := by omega
  have cp : W0.cell? ⟨w.heap.size, 8 + a, none⟩ = some (.int .i64 (pA s a)) := blk_cell HW1.out.st _ _ (stC_p HL.out a (by omega))
  rw [hz.out] at cp
  have hk0 : ((k : Int) + 1 == 0) = false := by simp; omega
  go_upto_region 8 with (fail)
  clear cp
  have c20 := blk_cell HW1.out.st 20 _ (stC_rest HL.out).1
  have cx : W0.cell? ⟨w.heap.size, 8 + ib, none⟩ = some (.int .i64 (pA s ib)) := blk_cell HW1.out.st _ _ (stC_p HL.out ib (by omega))
  go_wp2_with (fail)
  refine wp_region_still_tail 10 (by kernel_rfl) (by kernel_rfl) ?_
  simp only [List.take_succ_cons, List.take_zero, List.drop_succ_cons, List.drop_zero]
  change wpStill _ _ W0.drew (fun a' => wpList _ _ _ _ a' W0.drew) _ _
  repeat still_step
  refine wpStill_nil ?_
  go_upto_region 19 with (
    go_at_call 46
    refine (HPUT.out _ HW1.out.below.drew).mono ?_
    rintro e w5 ⟨v1, rfl, hg5, hb5⟩
    obtain ⟨rows5, h51, ⟨⟨av5, cv5, hv5, -, -, -⟩, -⟩, -⟩ := id hg5
    subst hv5
    rw [h51] at hg5 ⊢
    clear h51
    have HG5 := Lib.hid hg5
    have HW5 := Lib.hid (HW1.out.next (show Below W0.heap.size W0 w5 from (Below.refl W0.heap.size W0).drew.trans hb5))
    clear hg5 hb5 c20 cx e0 e1 e2 e3 e4
    have c20 := blk_cell HW5.out.st 20 _ (stC_rest HL.out).1
    have f20 := blk_frozen HW5.out.st 20)
  have HW6 : Hid (RfW w (w5.setCell ⟨w.heap.size, 20, none⟩ (.slice av5 (putA s.objs ((k : Int) + 1) n (pA s ib)).length cv5)) w.heap.size (setO s ((k : Int) + 1) n (pA s ib)) (.slice av5 (putA s.objs ((k : Int) + 1) n (pA s ib)).length cv5) vt ⟨11, a, ib, c, n⟩) := Lib.hid (by
    rw [setCell_putB HW5.out.st, stC_setO HL.out (putA s.objs ((k : Int) + 1) n (pA s ib))]
    exact HW5.out.put (t := setO s ((k : Int) + 1) n (pA s ib)) ⟨⟨HL.out.x, HL.out.p, HL.out.g⟩, HG5.out, HW5.out.at'.out⟩)
  clear HW5 HG5 HW1 c20 f20
  obtain ⟨w6, hw6⟩ : ∃ w6, w6 = w5.setCell ⟨w.heap.size, 20, none⟩ (.slice av5 (putA s.objs ((k : Int) + 1) n (pA s ib)).length cv5) := ⟨_, rfl⟩
  rw [← hw6] at HW6 ⊢
  clear hw6
  go_wp2_with (first
    | (refine wpList_loadB rfl 44 _ rfl w.heap.size _ rfl 44 HW6.out.st _ Tryz.underlying44 rfl (rstate_size HW6.out.at'.len) ?_)
    | (refine wpList_putB rfl 44 _ _ rfl (w.heap.size + 2) _ rfl rfl 44 _ HW6.out.res (rstate_size HW6.out.at'.len) (by rw [stC_size HW6.out.at'.len]; rfl) (stC_one' HW6.out.at') ?_))
  refine bodyPost_ret (v := .tuple #[.agg (stC (setO s ((k : Int) + 1) n (pA s ib)) (.slice av5 (putA s.objs ((k : Int) + 1) n (pA s ib)).length cv5) vt), .int .i64 0]) ?_ rfl HW6.out.post
  rw [res_cell1 (p := 4) (u := 5) rfl _ _ (w.heap.size + 2) (stC (setO s ((k : Int) + 1) n (pA s ib)) (.slice av5 (putA s.objs ((k : Int) + 1) n (pA s ib)).length cv5) vt) 44 _ rfl (putB_at HW6.out.res _ _) Tryz.underlying44 rfl (rstate_size HW6.out.at'.len)]; rfl
end Go.Proofs.YtapjgobkpehgfaaGreatDoor

/- The program's do: one contract. -/
namespace Go.Proofs.YtapjgobkpehgfaaGreatDoor
set_option linter.unusedSimpArgs false
set_option linter.unusedVariables false
open Go.RowKit

/-- What an instruction of a valid program names. -/
theorem names_ok {p : PProg} {i : PIns} {n : Int} (hh : headB p = true) (ho : OkI i) (he : insE p n i = 0) :
    (∀ a : Int, 0 ≤ a → 0 ≤ localI p a → a < 8) ∧ (∀ a : Int, 0 ≤ a → 0 ≤ globI p a → a < 4) := by
  obtain ⟨h1, h2, h3, h4⟩ := head_parts hh
  refine ⟨fun a h0 hl => ?_, fun a h0 hl => ?_⟩
  · have := (local_lt hh h0 hl).1; omega
  · have := (glob_lt hh h0 hl).1; omega
end Go.Proofs.YtapjgobkpehgfaaGreatDoor

/- The program's Step: its contract. -/
namespace Go.Proofs.YtapjgobkpehgfaaGreatDoor
set_option linter.unusedSimpArgs false
set_option linter.unusedVariables false
open Go.RowKit

theorem Parts.mono {w : World} {B B' : Nat} {s : PSt} {vo vt : Value} (h : Parts w B s vo vt) (hb : B' ≤ B) : Parts w B' s vo vt := by
  obtain ⟨rows, gs, hr⟩ := h.objs
  exact ⟨h.len, ⟨rows, gs, ⟨ownsRow_le hr.outer hb, hr.nil, hr.lg, hr.nd, hr.ne, fun j r xs g a b c => ⟨ownsRow_le (hr.row j r xs g a b c).1 hb, (hr.row j r xs g a b c).2⟩⟩⟩, ownsRow_le h.out hb, h.onil⟩
/-- What a step answers. -/
def StepPost (w : World) (r : PSt × Bool × Nat) (e : Ending) (w' : World) : Prop :=
  ∃ vo vt, e = .returned (.tuple #[.agg (stC r.1 vo vt), .bool r.2.1, .int .i64 r.2.2]) ∧ StN w' vo vt r.1 ∧ Below w.heap.size w w'
/-- The sizes that a call asks for. -/
structure SizeOk (s : PSt) : Prop where
  objs : s.objs.length ≤ 1000000
  out : s.out.length ≤ 1000000
  rows : ∀ xs ∈ s.objs, xs.length ≤ 1000000
  pc : s.pc ≤ 1000000
end Go.Proofs.YtapjgobkpehgfaaGreatDoor
