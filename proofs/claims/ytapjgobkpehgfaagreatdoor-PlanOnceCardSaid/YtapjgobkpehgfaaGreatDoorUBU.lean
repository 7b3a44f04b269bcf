/-
  The document's Step: of a program that may be run.
  The document's Step: its contract.
  ModelFurther: the walk.
  ModelPieces: the walk.
-/
import Derived.Test.YtapjgobkpehgfaaGreatDoorUBT
import Derived.Test.YtapjgobkpehgfaaGreatDoorUBS
import Derived.Test.YtapjgobkpehgfaaGreatDoorUAP
import Derived.Deep.CutRange
import Derived.Deep.LoopGhost
import Derived.Deep.CutBlock

/- The document's Step: of a program that may be run. -/
namespace Go.Proofs.YtapjgobkpehgfaaGreatDoor
set_option linter.unusedSimpArgs false
set_option linter.unusedVariables false
open Go.RowKit

/-- Behind the instruction's load. -/
structure RsT (w wr : World) (C : Array Value) (s t : PSt) (vo vt : Value) (i : PIns) (I T : Nat) : Prop where
  rs : RsW w wr C s vo vt
  ins : blk wr I (insC i) 46
  tt : blk wr T (stC t vo vt) 44
  hI : w.heap.size + 2 < I
  hT : w.heap.size + 2 < T
theorem RsT.next {w wr w' : World} {C : Array Value} {s t : PSt} {vo vt : Value} {i : PIns} {I T : Nat} (h : RsT w wr C s t vo vt i I T) (hb : Below wr.heap.size wr w') : RsT w w' C s t vo vt i I T :=
  ⟨h.rs.next hb, blk_below h.ins hb, blk_below h.tt hb, h.hI, h.hT⟩
/-- The step's own state changes. -/
theorem RsT.setT {w wr : World} {C : Array Value} {s t u : PSt} {vo vt v : Value} {i : PIns} {I T k : Nat} (h : RsT w wr C s t vo vt i I T) (he : (stC t vo vt).setIfInBounds k v = stC u vo vt) : RsT w (wr.setCell ⟨T, k, none⟩ v) C s u vo vt i I T := by
  have hT := h.hT
  have hne := blk_ne h.ins h.tt (by decide)
  rw [setCell_putB h.tt, he]
  refine ⟨⟨h.rs.below.trans (putB_below _ (by omega) _ _), ?_, ?_, ?_, h.rs.at'.putT h.tt (by decide)⟩, ?_, putB_at h.tt _ _, h.hI, h.hT⟩
  · unfold blk; rw [putB_ne _ (by omega)]; exact h.rs.pr
  · unfold blk; rw [putB_ne _ (by omega)]; exact h.rs.st
  · unfold blk; rw [putB_ne _ (by omega)]; exact h.rs.res
  · unfold blk; rw [putB_ne _ hne]; exact h.ins
theorem RsT.mk' {w w2 : World} {C : Array Value} {s : PSt} {vo vt : Value} {i : PIns} {I : Nat} (h : RsW w w2 C s vo vt) (hi : blk w2 I (insC i) 46) (hI : w.heap.size + 2 < I) : RsT w (putB (w2.alloc (.cells zeroS 44)) w2.heap.size (stC s vo vt) 44) C s s vo vt i I w2.heap.size := by
  have hb : Below w2.heap.size w2 (putB (w2.alloc (.cells zeroS 44)) w2.heap.size (stC s vo vt) 44) := ((Below.refl _ _).alloc (Nat.le_refl _) _).trans (putB_below _ (Nat.le_refl _) _ _)
  exact ⟨h.next hb, blk_below hi hb, putB_at (blk_new _ _ _) _ _, hI, blk_lt h.res⟩
set_option maxRecDepth 100000 in
set_option maxHeartbeats 4000000 in
theorem rstep_end (w W0 : World) (p : PProg) (vt' : Value) (x' : Option Addr) (k' : Nat) (s : PSt) (vo vt : Value) (hs : StN w vo vt s) 
    (hW0 : W0 = ((w.alloc (.cells (progC vt' p (.slice x' p.code.length k')) 25)).alloc (.cells (stC s vo vt) 44)).alloc (.cells zeroS 44)) (g1 : p.code.length ≤ k') (g2 : k' ≤ 9223372036854775807)
    (HCK : Hid (∀ w1, Below w.heap.size w w1 → Calls Tryz.prog 13 #[.agg (progC vt' p (.slice x' p.code.length k'))] w1 (ChkPost w1 (-1) 0))) (HPC : Hid (s.pc = p.code.length)) :
    Calls Tryz.prog 12 #[.agg (progC vt' p (.slice x' p.code.length k')), .agg (stC s vo vt)] w (StepPost w (s, true, 0)) := by
  have HW := Lib.hid (RsW.start hW0 hs)
  clear hs
  go_enter Tryz.func12, Tryz.ntmps12
  go_upto_region 1 with (fail)
  rw [← hW0]
  clear hW0
  go_upto_region 2 with (first
    | (refine wpList_loadB rfl 25 _ rfl w.heap.size (progC vt' p (.slice x' p.code.length k')) rfl 25 HW.out.pr _ Tryz.underlying25 rfl prog_info ?_)
    | (go_at_call 13; refine (HCK.out _ HW.out.below).mono ?_; rintro e1 w1 ⟨rfl, hb⟩; have HW := Lib.hid (HW.out.next hb); clear hb))
  have c22 := blk_cell HW.out.st 22 _ (stC_rest HW.out.at'.len).2.2.1
  rw [HPC.out] at c22
  have c3 : w1.cell? ⟨w.heap.size, 3, none⟩ = some (.slice x' p.code.length k') := blk_cell HW.out.pr 3 _ rfl
  go_wp2_with (first
    | (refine wpList_loadB rfl 44 _ rfl (w.heap.size + 1) _ rfl 44 HW.out.st _ Tryz.underlying44 rfl (rstate_size HW.out.at'.len) ?_)
    | (refine wpList_putB rfl 44 _ _ rfl (w.heap.size + 2) _ rfl rfl 44 _ HW.out.res (rstate_size HW.out.at'.len) (by rw [stC_size HW.out.at'.len]; rfl) (stC_one' HW.out.at') ?_))
  refine bodyPost_ret (v := .tuple #[.agg (stC s vo vt), .bool true, .int .i64 0]) ?_ rfl (StepPost.of HW.out HW.out.at')
  rw [res_cell2 (p := 4) (u := 5) (v := 6) rfl _ _ (w.heap.size + 2) (stC s vo vt) 44 _ rfl (putB_at HW.out.res _ _) Tryz.underlying44 rfl (rstate_size HW.out.at'.len)]; rfl
set_option maxRecDepth 100000 in
set_option maxHeartbeats 8000000 in
theorem rstep_run (w W0 : World) (p : PProg) (vt' : Value) (bb o k' : Nat) (s : PSt) (vo vt : Value) (op b c n : Int) (a : Nat) (r : PSt) (e : Nat) (hs : StN w vo vt s)
    (hW0 : W0 = ((w.alloc (.cells (progC vt' p (.slice (some ⟨bb, o, none⟩) p.code.length k')) 25)).alloc (.cells (stC s vo vt) 44)).alloc (.cells zeroS 44)) (g1 : p.code.length ≤ k') (g2 : k' ≤ 9223372036854775807)
    (HCK : Hid (∀ w1, Below w.heap.size w w1 → Calls Tryz.prog 13 #[.agg (progC vt' p (.slice (some ⟨bb, o, none⟩) p.code.length k'))] w1 (ChkPost w1 (-1) 0))) (hpc : s.pc < p.code.length) (hst : s.steps ≤ 1000000) (hbb : bb < w.heap.size) (HR : Hid (w.rangeAt bb (o + s.pc * 5) (insC ⟨op, a, b, c, n⟩).toList))
    (HD : Hid ((op = 3 ∧ 0 ≤ n ∧ e = 0 ∧ r = { onI s with pc := n.toNat }) ∨ (op = 4 ∧ 0 ≤ n ∧ a < 8 ∧ xA s a = 0 ∧ e = 0 ∧ r = { onI s with pc := n.toNat }) ∨ (op = 4 ∧ a < 8 ∧ (xA s a == 0) = false ∧ e = 0 ∧ r = onI s) ∨
      ((op == 3) = false ∧ (op == 4) = false ∧ ((e = 0 ∧ NumC w (onI s) vo vt ⟨op, a, b, c, n⟩ r true) ∨ (NumC w (onI s) vo vt ⟨op, a, b, c, n⟩ (onI s) false ∧
        ((e = 0 ∧ PtrC w (progC vt' p (.slice (some ⟨bb, o, none⟩) p.code.length k')) (onI s) vo vt ⟨op, a, b, c, n⟩ r true) ∨ (PtrC w (progC vt' p (.slice (some ⟨bb, o, none⟩) p.code.length k')) (onI s) vo vt ⟨op, a, b, c, n⟩ (onI s) false ∧
          ((e = 9 ∧ r = s ∧ MemC w (onI s) vo vt ⟨op, a, b, c, n⟩ (onI s) 9) ∨ (e = 0 ∧ MemC w (onI s) vo vt ⟨op, a, b, c, n⟩ r 0))))))))) :
    Calls Tryz.prog 12 #[.agg (progC vt' p (.slice (some ⟨bb, o, none⟩) p.code.length k')), .agg (stC s vo vt)] w (StepPost w (r, false, e)) := by
  have HW := Lib.hid (RsW.start hW0 hs)
  have HL := Lib.hid hs.len
  clear hs
  have hpi : (s.pc : Int) < (p.code.length : Int) := by omega
  have e23 : ¬ ((p.code.length : Int) < (s.pc : Int)) := by omega
  have e43 : ((s.pc : Int) == (p.code.length : Int)) = false := by simp; omega
  go_enter Tryz.func12, Tryz.ntmps12
  go_upto_region 1 with (fail)
  rw [← hW0]
  clear hW0
  go_upto_region 2 with (first
    | (refine wpList_loadB rfl 25 _ rfl w.heap.size (progC vt' p (.slice (some ⟨bb, o, none⟩) p.code.length k')) rfl 25 HW.out.pr _ Tryz.underlying25 rfl prog_info ?_)
    | (go_at_call 13; refine (HCK.out _ HW.out.below).mono ?_; rintro e1 w1 ⟨rfl, hb⟩; have HW := Lib.hid (HW.out.next hb); clear hb))
  have c22 := blk_cell HW.out.st 22 _ (stC_rest HL.out).2.2.1
  have c3 : w1.cell? ⟨w.heap.size, 3, none⟩ = some (.slice (some ⟨bb, o, none⟩) p.code.length k') := blk_cell HW.out.pr 3 _ rfl
  have hr := rangeAt_below HR.out hbb HW.out.below
  obtain ⟨d0, d1, d2, d3, d4⟩ : (w1.cell? ⟨bb, o + s.pc * 5, none⟩ = some (.int .u8 op)) ∧ w1.cell? ⟨bb, o + s.pc * 5 + 1, none⟩ = some (.int .u8 a) ∧ w1.cell? ⟨bb, o + s.pc * 5 + 2, none⟩ = some (.int .u8 b) ∧ w1.cell? ⟨bb, o + s.pc * 5 + 3, none⟩ = some (.int .u8 c) ∧ w1.cell? ⟨bb, o + s.pc * 5 + 4, none⟩ = some (.int .i64 n) := ⟨hr 0 _ rfl, hr 1 _ rfl, hr 2 _ rfl, hr 3 _ rfl, hr 4 _ rfl⟩
  clear hr
  go_upto_region 7 with (fail)
  have HW2 : Hid (RsW w (w1.alloc (.cells (insC ⟨op, a, b, c, n⟩) 46)) (progC vt' p (.slice (some ⟨bb, o, none⟩) p.code.length k')) s vo vt) := Lib.hid (HW.out.next ((Below.refl _ _).alloc (Nat.le_refl _) _))
  have HI2 : Hid (blk (w1.alloc (.cells (insC ⟨op, a, b, c, n⟩) 46)) w1.heap.size (insC ⟨op, a, b, c, n⟩) 46) := Lib.hid (blk_new _ _ _)
  have hI : w.heap.size + 2 < w1.heap.size := blk_lt HW.out.res
  obtain ⟨w2, hw2⟩ : ∃ w2, w2 = w1.alloc (.cells (insC ⟨op, a, b, c, n⟩) 46) := ⟨_, rfl⟩
  obtain ⟨I, hI'⟩ : ∃ I, I = w1.heap.size := ⟨_, rfl⟩
  rw [← hw2] at HW2 HI2 ⊢
  rw [← hI'] at HI2 hI ⊢
  clear hw2 hI' d0 d1 d2 d3 d4 c22 c3 HW
  go_upto_region 8 with (first
    | (refine wpList_loadB rfl 44 _ rfl (w.heap.size + 1) _ rfl 44 HW2.out.st _ Tryz.underlying44 rfl (rstate_size HW2.out.at'.len) ?_)
    | (refine wpList_putB rfl 44 _ _ rfl w2.heap.size _ rfl rfl 44 zeroS (blk_new w2 zeroS 44) (rstate_size HW2.out.at'.len) (by rw [stC_size HW2.out.at'.len]; rfl) (stC_one' HW2.out.at') ?_))
  have HT3 := Lib.hid (RsT.mk' HW2.out HI2.out hI)
  obtain ⟨w3, hw3⟩ : ∃ w3, w3 = putB (w2.alloc (.cells zeroS 44)) w2.heap.size (stC s vo vt) 44 := ⟨_, rfl⟩
  obtain ⟨T, hT'⟩ : ∃ T, T = w2.heap.size := ⟨_, rfl⟩
  rw [← hw3] at HT3 ⊢
  rw [← hT'] at HT3 ⊢
  clear hw3 hT' HW2 HI2
  have hT := HT3.out.hT
  have c22 := blk_cell HT3.out.rs.st 22 _ (stC_rest HL.out).2.2.1
  have c23 := blk_cell HT3.out.rs.st 23 _ (stC_rest HL.out).2.2.2
  have t22 := blk_cell HT3.out.tt 22 _ (stC_rest HL.out).2.2.1
  have t23 := blk_cell HT3.out.tt 23 _ (stC_rest HL.out).2.2.2
  have f22 := blk_frozen HT3.out.tt 22
  have f23 := blk_frozen HT3.out.tt 23
  have hTs : T ≠ w.heap.size + 1 := by omega
  go_upto_region 10 with (fail)
  have HT5 : Hid (RsT w ((w3.setCell ⟨T, 22, none⟩ (.int .i64 ((s.pc : Int) + 1))).setCell ⟨T, 23, none⟩ (.int .i64 ((s.steps : Int) + 1))) (progC vt' p (.slice (some ⟨bb, o, none⟩) p.code.length k')) s (onI s) vo vt ⟨op, a, b, c, n⟩ I T) := Lib.hid
    ((HT3.out.setT (u := { s with pc := s.pc + 1 }) (stC_setA HL.out (s.pc + 1))).setT (stC_setS (s := { s with pc := s.pc + 1 }) ⟨HL.out.x, HL.out.p, HL.out.g⟩ (s.steps + 1)))
  clear HT3 c22 c23 t22 t23 f22 f23
  obtain ⟨w5, hw5⟩ : ∃ w5, w5 = ((w3.setCell ⟨T, 22, none⟩ (.int .i64 ((s.pc : Int) + 1))).setCell ⟨T, 23, none⟩ (.int .i64 ((s.steps : Int) + 1))) := ⟨_, rfl⟩
  rw [← hw5] at HT5 ⊢
  clear hw5
  have hlo : LenS (onI s) := ⟨HL.out.x, HL.out.p, HL.out.g⟩
  obtain ⟨e0, e1, e2, e3, e4⟩ := ins_e HT5.out.ins
  have t22 := blk_cell HT5.out.tt 22 _ (stC_rest hlo).2.2.1
  have f22 := blk_frozen HT5.out.tt 22
  rcases HD.out with ⟨rfl, hn, rfl, rfl⟩ | ⟨rfl, hn, ha, hx, rfl, rfl⟩ | ⟨rfl, ha, hx, rfl, rfl⟩ | ⟨h3, h4, hd⟩
  · clear HD
    obtain ⟨kn, rfl⟩ : ∃ kn : Nat, n = kn := ⟨n.toNat, by omega⟩
    go_upto_region 13 with (fail)
    simp only [Int.toNat_natCast]
    have HT6 := Lib.hid (HT5.out.setT (u := { onI s with pc := kn }) (stC_setA hlo kn))
    have hlt : LenS { onI s with pc := kn } := ⟨HL.out.x, HL.out.p, HL.out.g⟩
    clear HT5 e0 e1 e2 e3 e4 t22 f22
    obtain ⟨w6, hw6⟩ : ∃ w6, w6 = w5.setCell ⟨T, 22, none⟩ (.int .i64 (kn : Int)) := ⟨_, rfl⟩
    rw [← hw6] at HT6 ⊢
    clear hw6
    have hst6 : StN w6 vo vt { onI s with pc := kn } := ⟨hlt, HT6.out.rs.at'.objs, HT6.out.rs.at'.out⟩
    go_wp2_with (first
      | (refine wpList_loadB rfl 44 _ rfl T (stC { onI s with pc := kn } vo vt) rfl 44 HT6.out.tt _ Tryz.underlying44 rfl (rstate_size hlt) ?_)
      | (refine wpList_putB rfl 44 _ _ rfl (w.heap.size + 2) _ rfl rfl 44 _ HT6.out.rs.res (rstate_size hlt) (by rw [stC_size hlt]; rfl) (stC_one' hst6) ?_))
    refine bodyPost_ret (v := .tuple #[.agg (stC { onI s with pc := kn } vo vt), .bool false, .int .i64 0]) ?_ rfl (StepPost.of HT6.out.rs hst6)
    rw [res_cell2 (p := 4) (u := 5) (v := 6) rfl _ _ (w.heap.size + 2) (stC { onI s with pc := kn } vo vt) 44 _ rfl (putB_at HT6.out.rs.res _ _) Tryz.underlying44 rfl (rstate_size hlt)]; rfl
  · clear HD
    obtain ⟨kn, rfl⟩ : ∃ kn : Nat, n = kn := ⟨n.toNat, by omega⟩
    have ha8 : (a : Int) < 8 := by omega
    have ha0 : (0 : Int) ≤ (a : Int) := by omega
    have cx : w5.cell? ⟨w.heap.size + 1, a, none⟩ = some (.int .i64 (xA s a)) := blk_cell HT5.out.rs.st _ _ (stC_x HL.out a (by omega))
    rw [hx] at cx
    go_upto_region 13 with (fail)
    clear cx
    simp only [Int.toNat_natCast]
    have HT6 := Lib.hid (HT5.out.setT (u := { onI s with pc := kn }) (stC_setA hlo kn))
    have hlt : LenS { onI s with pc := kn } := ⟨HL.out.x, HL.out.p, HL.out.g⟩
    clear HT5 e0 e1 e2 e3 e4 t22 f22
    obtain ⟨w6, hw6⟩ : ∃ w6, w6 = w5.setCell ⟨T, 22, none⟩ (.int .i64 (kn : Int)) := ⟨_, rfl⟩
    rw [← hw6] at HT6 ⊢
    clear hw6
    have hst6 : StN w6 vo vt { onI s with pc := kn } := ⟨hlt, HT6.out.rs.at'.objs, HT6.out.rs.at'.out⟩
    go_wp2_with (first
      | (refine wpList_loadB rfl 44 _ rfl T (stC { onI s with pc := kn } vo vt) rfl 44 HT6.out.tt _ Tryz.underlying44 rfl (rstate_size hlt) ?_)
      | (refine wpList_putB rfl 44 _ _ rfl (w.heap.size + 2) _ rfl rfl 44 _ HT6.out.rs.res (rstate_size hlt) (by rw [stC_size hlt]; rfl) (stC_one' hst6) ?_))
    refine bodyPost_ret (v := .tuple #[.agg (stC { onI s with pc := kn } vo vt), .bool false, .int .i64 0]) ?_ rfl (StepPost.of HT6.out.rs hst6)
    rw [res_cell2 (p := 4) (u := 5) (v := 6) rfl _ _ (w.heap.size + 2) (stC { onI s with pc := kn } vo vt) 44 _ rfl (putB_at HT6.out.rs.res _ _) Tryz.underlying44 rfl (rstate_size hlt)]; rfl
  · clear HD
    have ha8 : (a : Int) < 8 := by omega
    have ha0 : (0 : Int) ≤ (a : Int) := by omega
    have cx : w5.cell? ⟨w.heap.size + 1, a, none⟩ = some (.int .i64 (xA s a)) := blk_cell HT5.out.rs.st _ _ (stC_x HL.out a (by omega))
    go_upto_region 13 with (fail)
    clear e0 e1 e2 e3 e4 t22 f22 cx
    have hlt := hlo
    have hst6 : StN w5 vo vt (onI s) := ⟨hlt, HT5.out.rs.at'.objs, HT5.out.rs.at'.out⟩
    go_wp2_with (first
      | (refine wpList_loadB rfl 44 _ rfl T (stC (onI s) vo vt) rfl 44 HT5.out.tt _ Tryz.underlying44 rfl (rstate_size hlt) ?_)
      | (refine wpList_putB rfl 44 _ _ rfl (w.heap.size + 2) _ rfl rfl 44 _ HT5.out.rs.res (rstate_size hlt) (by rw [stC_size hlt]; rfl) (stC_one' hst6) ?_))
    refine bodyPost_ret (v := .tuple #[.agg (stC (onI s) vo vt), .bool false, .int .i64 0]) ?_ rfl (StepPost.of HT5.out.rs hst6)
    rw [res_cell2 (p := 4) (u := 5) (v := 6) rfl _ _ (w.heap.size + 2) (stC (onI s) vo vt) 44 _ rfl (putB_at HT5.out.rs.res _ _) Tryz.underlying44 rfl (rstate_size hlt)]; rfl
  · clear HD
    have HD := Lib.hid hd
    clear hd
    go_upto_region 14 with (fail)
    clear e0 e1 e2 e3 e4 t22 f22
    rcases HD.out with ⟨rfl, hN⟩ | ⟨hN, hd⟩
    · clear HD
      have HN := Lib.hid hN
      clear hN
      go_upto_region 15 with (first
        | (refine wpList_loadB rfl 44 _ rfl T (stC (onI s) vo vt) rfl 44 HT5.out.tt _ Tryz.underlying44 rfl (rstate_size hlo) ?_)
        | (refine wpList_loadB rfl 46 _ rfl I (insC ⟨op, a, b, c, n⟩) rfl 46 HT5.out.ins _ Tryz.underlying46 rfl ins_info ?_)
        | (go_at_call 24; refine (HN.out _ HT5.out.rs.below).mono ?_; rintro ee w6 ⟨vow6, vtw6, rfl, hsw6, hbw6⟩; have HSw6 := Lib.hid hsw6; have Hw6 := Lib.hid (HT5.out.next hbw6); clear hsw6 hbw6)
        | (refine wpList_putB rfl 44 _ _ rfl w6.heap.size (stC r vow6 vtw6) rfl rfl 44 zeroS (blk_new w6 zeroS 44) (rstate_size HSw6.out.len) (by rw [stC_size HSw6.out.len]; rfl) (stC_one' HSw6.out) ?_))
      have HBw7 : Hid (Below w6.heap.size w6 (putB (w6.alloc (.cells zeroS 44)) w6.heap.size (stC r vow6 vtw6) 44)) := Lib.hid (((Below.refl _ _).alloc (Nat.le_refl _) _).trans (putB_below _ (Nat.le_refl _) _ _))
      have Hw7 := Lib.hid (Hw6.out.next HBw7.out)
      have HSw7 := Lib.hid (HSw6.out.below HBw7.out)
      have HVw7 : Hid (blk (putB (w6.alloc (.cells zeroS 44)) w6.heap.size (stC r vow6 vtw6) 44) w6.heap.size (stC r vow6 vtw6) 44) := Lib.hid (putB_at (blk_new _ _ _) _ _)
      obtain ⟨w7, hww7⟩ : ∃ w7, w7 = putB (w6.alloc (.cells zeroS 44)) w6.heap.size (stC r vow6 vtw6) 44 := ⟨_, rfl⟩
      obtain ⟨Vw7, hVw7⟩ : ∃ Vw7, Vw7 = w6.heap.size := ⟨_, rfl⟩
      rw [← hww7] at Hw7 HSw7 HVw7 ⊢
      rw [← hVw7] at HVw7 ⊢
      clear hww7 hVw7 HBw7 Hw6 HSw6
      go_wp2_with (first
        | (refine wpList_loadB rfl 44 _ rfl Vw7 (stC r vow6 vtw6) rfl 44 HVw7.out _ Tryz.underlying44 rfl (rstate_size HSw7.out.len) ?_)
        | (refine wpList_putB rfl 44 _ _ rfl (w.heap.size + 2) (stC r vow6 vtw6) rfl rfl 44 _ Hw7.out.rs.res (rstate_size HSw7.out.len) (by rw [stC_size HSw7.out.len]; rfl) (stC_one' HSw7.out) ?_))
      refine bodyPost_ret (v := .tuple #[.agg (stC r vow6 vtw6), .bool false, .int .i64 0]) ?_ rfl (StepPost.of Hw7.out.rs HSw7.out)
      rw [res_cell2 (p := 4) (u := 5) (v := 6) rfl _ _ (w.heap.size + 2) (stC r vow6 vtw6) 44 _ rfl (putB_at Hw7.out.rs.res _ _) Tryz.underlying44 rfl (rstate_size HSw7.out.len)]; rfl
    clear HD
    have HN := Lib.hid hN
    have HD := Lib.hid hd
    clear hN hd
    go_upto_region 15 with (first
      | (refine wpList_loadB rfl 44 _ rfl T (stC (onI s) vo vt) rfl 44 HT5.out.tt _ Tryz.underlying44 rfl (rstate_size hlo) ?_)
      | (refine wpList_loadB rfl 46 _ rfl I (insC ⟨op, a, b, c, n⟩) rfl 46 HT5.out.ins _ Tryz.underlying46 rfl ins_info ?_)
      | (go_at_call 24; refine (HN.out _ HT5.out.rs.below).mono ?_; rintro ee w6 ⟨vow6, vtw6, rfl, hsw6, hbw6⟩; have HSw6 := Lib.hid hsw6; have Hw6 := Lib.hid (HT5.out.next hbw6); clear hsw6 hbw6)
      | (refine wpList_putB rfl 44 _ _ rfl w6.heap.size (stC (onI s) vow6 vtw6) rfl rfl 44 zeroS (blk_new w6 zeroS 44) (rstate_size HSw6.out.len) (by rw [stC_size HSw6.out.len]; rfl) (stC_one' HSw6.out) ?_))
    have HBw7 : Hid (Below w6.heap.size w6 (putB (w6.alloc (.cells zeroS 44)) w6.heap.size (stC (onI s) vow6 vtw6) 44)) := Lib.hid (((Below.refl _ _).alloc (Nat.le_refl _) _).trans (putB_below _ (Nat.le_refl _) _ _))
    have Hw7 := Lib.hid (Hw6.out.next HBw7.out)
    have HSw7 := Lib.hid (HSw6.out.below HBw7.out)
    have HVw7 : Hid (blk (putB (w6.alloc (.cells zeroS 44)) w6.heap.size (stC (onI s) vow6 vtw6) 44) w6.heap.size (stC (onI s) vow6 vtw6) 44) := Lib.hid (putB_at (blk_new _ _ _) _ _)
    obtain ⟨w7, hww7⟩ : ∃ w7, w7 = putB (w6.alloc (.cells zeroS 44)) w6.heap.size (stC (onI s) vow6 vtw6) 44 := ⟨_, rfl⟩
    obtain ⟨Vw7, hVw7⟩ : ∃ Vw7, Vw7 = w6.heap.size := ⟨_, rfl⟩
    rw [← hww7] at Hw7 HSw7 HVw7 ⊢
    rw [← hVw7] at HVw7 ⊢
    clear hww7 hVw7 HBw7 Hw6 HSw6
    clear HT5 HN HSw7 HVw7
    rcases HD.out with ⟨rfl, hP⟩ | ⟨hP, hd⟩
    · clear HD
      have HP := Lib.hid hP
      clear hP
      go_upto_region 18 with (first
        | (refine wpList_loadB rfl 25 _ rfl w.heap.size (progC vt' p (.slice (some ⟨bb, o, none⟩) p.code.length k')) rfl 25 Hw7.out.rs.pr _ Tryz.underlying25 rfl prog_info ?_)
        | (refine wpList_loadB rfl 44 _ rfl T (stC (onI s) vo vt) rfl 44 Hw7.out.tt _ Tryz.underlying44 rfl (rstate_size hlo) ?_)
        | (refine wpList_loadB rfl 46 _ rfl I (insC ⟨op, a, b, c, n⟩) rfl 46 Hw7.out.ins _ Tryz.underlying46 rfl ins_info ?_)
        | (go_at_call 25; refine (HP.out _ Hw7.out.rs.below).mono ?_; rintro ee w8 ⟨vow8, vtw8, rfl, hsw8, hbw8⟩; have HSw8 := Lib.hid hsw8; have Hw8 := Lib.hid (Hw7.out.next hbw8); clear hsw8 hbw8)
        | (refine wpList_putB rfl 44 _ _ rfl w8.heap.size (stC r vow8 vtw8) rfl rfl 44 zeroS (blk_new w8 zeroS 44) (rstate_size HSw8.out.len) (by rw [stC_size HSw8.out.len]; rfl) (stC_one' HSw8.out) ?_))
      have HBw9 : Hid (Below w8.heap.size w8 (putB (w8.alloc (.cells zeroS 44)) w8.heap.size (stC r vow8 vtw8) 44)) := Lib.hid (((Below.refl _ _).alloc (Nat.le_refl _) _).trans (putB_below _ (Nat.le_refl _) _ _))
      have Hw9 := Lib.hid (Hw8.out.next HBw9.out)
      have HSw9 := Lib.hid (HSw8.out.below HBw9.out)
      have HVw9 : Hid (blk (putB (w8.alloc (.cells zeroS 44)) w8.heap.size (stC r vow8 vtw8) 44) w8.heap.size (stC r vow8 vtw8) 44) := Lib.hid (putB_at (blk_new _ _ _) _ _)
      obtain ⟨w9, hww9⟩ : ∃ w9, w9 = putB (w8.alloc (.cells zeroS 44)) w8.heap.size (stC r vow8 vtw8) 44 := ⟨_, rfl⟩
      obtain ⟨Vw9, hVw9⟩ : ∃ Vw9, Vw9 = w8.heap.size := ⟨_, rfl⟩
      rw [← hww9] at Hw9 HSw9 HVw9 ⊢
      rw [← hVw9] at HVw9 ⊢
      clear hww9 hVw9 HBw9 Hw8 HSw8
      go_wp2_with (first
        | (refine wpList_loadB rfl 44 _ rfl Vw9 (stC r vow8 vtw8) rfl 44 HVw9.out _ Tryz.underlying44 rfl (rstate_size HSw9.out.len) ?_)
        | (refine wpList_putB rfl 44 _ _ rfl (w.heap.size + 2) (stC r vow8 vtw8) rfl rfl 44 _ Hw9.out.rs.res (rstate_size HSw9.out.len) (by rw [stC_size HSw9.out.len]; rfl) (stC_one' HSw9.out) ?_))
      refine bodyPost_ret (v := .tuple #[.agg (stC r vow8 vtw8), .bool false, .int .i64 0]) ?_ rfl (StepPost.of Hw9.out.rs HSw9.out)
      rw [res_cell2 (p := 4) (u := 5) (v := 6) rfl _ _ (w.heap.size + 2) (stC r vow8 vtw8) 44 _ rfl (putB_at Hw9.out.rs.res _ _) Tryz.underlying44 rfl (rstate_size HSw9.out.len)]; rfl
    clear HD
    have HP := Lib.hid hP
    have HD := Lib.hid hd
    clear hP hd
    go_upto_region 18 with (first
      | (refine wpList_loadB rfl 25 _ rfl w.heap.size (progC vt' p (.slice (some ⟨bb, o, none⟩) p.code.length k')) rfl 25 Hw7.out.rs.pr _ Tryz.underlying25 rfl prog_info ?_)
      | (refine wpList_loadB rfl 44 _ rfl T (stC (onI s) vo vt) rfl 44 Hw7.out.tt _ Tryz.underlying44 rfl (rstate_size hlo) ?_)
      | (refine wpList_loadB rfl 46 _ rfl I (insC ⟨op, a, b, c, n⟩) rfl 46 Hw7.out.ins _ Tryz.underlying46 rfl ins_info ?_)
      | (go_at_call 25; refine (HP.out _ Hw7.out.rs.below).mono ?_; rintro ee w8 ⟨vow8, vtw8, rfl, hsw8, hbw8⟩; have HSw8 := Lib.hid hsw8; have Hw8 := Lib.hid (Hw7.out.next hbw8); clear hsw8 hbw8)
      | (refine wpList_putB rfl 44 _ _ rfl w8.heap.size (stC (onI s) vow8 vtw8) rfl rfl 44 zeroS (blk_new w8 zeroS 44) (rstate_size HSw8.out.len) (by rw [stC_size HSw8.out.len]; rfl) (stC_one' HSw8.out) ?_))
    have HBw9 : Hid (Below w8.heap.size w8 (putB (w8.alloc (.cells zeroS 44)) w8.heap.size (stC (onI s) vow8 vtw8) 44)) := Lib.hid (((Below.refl _ _).alloc (Nat.le_refl _) _).trans (putB_below _ (Nat.le_refl _) _ _))
    have Hw9 := Lib.hid (Hw8.out.next HBw9.out)
    have HSw9 := Lib.hid (HSw8.out.below HBw9.out)
    have HVw9 : Hid (blk (putB (w8.alloc (.cells zeroS 44)) w8.heap.size (stC (onI s) vow8 vtw8) 44) w8.heap.size (stC (onI s) vow8 vtw8) 44) := Lib.hid (putB_at (blk_new _ _ _) _ _)
    obtain ⟨w9, hww9⟩ : ∃ w9, w9 = putB (w8.alloc (.cells zeroS 44)) w8.heap.size (stC (onI s) vow8 vtw8) 44 := ⟨_, rfl⟩
    obtain ⟨Vw9, hVw9⟩ : ∃ Vw9, Vw9 = w8.heap.size := ⟨_, rfl⟩
    rw [← hww9] at Hw9 HSw9 HVw9 ⊢
    rw [← hVw9] at HVw9 ⊢
    clear hww9 hVw9 HBw9 Hw8 HSw8
    clear Hw7 HP HSw9 HVw9
    rcases HD.out with ⟨rfl, rfl, hM⟩ | ⟨rfl, hM⟩
    · clear HD
      have HM := Lib.hid hM
      clear hM
      go_upto_region 21 with (first
        | (refine wpList_loadB rfl 44 _ rfl T (stC (onI r) vo vt) rfl 44 Hw9.out.tt _ Tryz.underlying44 rfl (rstate_size hlo) ?_)
        | (refine wpList_loadB rfl 46 _ rfl I (insC ⟨op, a, b, c, n⟩) rfl 46 Hw9.out.ins _ Tryz.underlying46 rfl ins_info ?_)
        | (go_at_call 26; refine (HM.out _ Hw9.out.rs.below).mono ?_; rintro ee w10 ⟨vow10, vtw10, rfl, hsw10, hbw10⟩; have HSw10 := Lib.hid hsw10; have Hw10 := Lib.hid (Hw9.out.next hbw10); clear hsw10 hbw10)
        | (refine wpList_putB rfl 44 _ _ rfl w10.heap.size (stC (onI r) vow10 vtw10) rfl rfl 44 zeroS (blk_new w10 zeroS 44) (rstate_size HSw10.out.len) (by rw [stC_size HSw10.out.len]; rfl) (stC_one' HSw10.out) ?_))
      have HBw11 : Hid (Below w10.heap.size w10 (putB (w10.alloc (.cells zeroS 44)) w10.heap.size (stC (onI r) vow10 vtw10) 44)) := Lib.hid (((Below.refl _ _).alloc (Nat.le_refl _) _).trans (putB_below _ (Nat.le_refl _) _ _))
      have Hw11 := Lib.hid (Hw10.out.next HBw11.out)
      have HSw11 := Lib.hid (HSw10.out.below HBw11.out)
      have HVw11 : Hid (blk (putB (w10.alloc (.cells zeroS 44)) w10.heap.size (stC (onI r) vow10 vtw10) 44) w10.heap.size (stC (onI r) vow10 vtw10) 44) := Lib.hid (putB_at (blk_new _ _ _) _ _)
      obtain ⟨w11, hww11⟩ : ∃ w11, w11 = putB (w10.alloc (.cells zeroS 44)) w10.heap.size (stC (onI r) vow10 vtw10) 44 := ⟨_, rfl⟩
      obtain ⟨Vw11, hVw11⟩ : ∃ Vw11, Vw11 = w10.heap.size := ⟨_, rfl⟩
      rw [← hww11] at Hw11 HSw11 HVw11 ⊢
      rw [← hVw11] at HVw11 ⊢
      clear hww11 hVw11 HBw11 Hw10 HSw10
      go_wp2_with (first
        | (refine wpList_loadB rfl 44 _ rfl (w.heap.size + 1) (stC r vo vt) rfl 44 Hw11.out.rs.st _ Tryz.underlying44 rfl (rstate_size HL.out) ?_)
        | (refine wpList_putB rfl 44 _ _ rfl (w.heap.size + 2) (stC r vo vt) rfl rfl 44 _ Hw11.out.rs.res (rstate_size HL.out) (by rw [stC_size HL.out]; rfl) (stC_one' Hw11.out.rs.at') ?_))
      refine bodyPost_ret (v := .tuple #[.agg (stC r vo vt), .bool false, .int .i64 9]) ?_ rfl (StepPost.of Hw11.out.rs Hw11.out.rs.at')
      rw [res_cell2 (p := 4) (u := 5) (v := 6) rfl _ _ (w.heap.size + 2) (stC r vo vt) 44 _ rfl (putB_at Hw11.out.rs.res _ _) Tryz.underlying44 rfl (rstate_size HL.out)]; rfl
    · clear HD
      have HM := Lib.hid hM
      clear hM
      go_upto_region 21 with (first
        | (refine wpList_loadB rfl 44 _ rfl T (stC (onI s) vo vt) rfl 44 Hw9.out.tt _ Tryz.underlying44 rfl (rstate_size hlo) ?_)
        | (refine wpList_loadB rfl 46 _ rfl I (insC ⟨op, a, b, c, n⟩) rfl 46 Hw9.out.ins _ Tryz.underlying46 rfl ins_info ?_)
        | (go_at_call 26; refine (HM.out _ Hw9.out.rs.below).mono ?_; rintro ee w10 ⟨vow10, vtw10, rfl, hsw10, hbw10⟩; have HSw10 := Lib.hid hsw10; have Hw10 := Lib.hid (Hw9.out.next hbw10); clear hsw10 hbw10)
        | (refine wpList_putB rfl 44 _ _ rfl w10.heap.size (stC r vow10 vtw10) rfl rfl 44 zeroS (blk_new w10 zeroS 44) (rstate_size HSw10.out.len) (by rw [stC_size HSw10.out.len]; rfl) (stC_one' HSw10.out) ?_))
      have HBw11 : Hid (Below w10.heap.size w10 (putB (w10.alloc (.cells zeroS 44)) w10.heap.size (stC r vow10 vtw10) 44)) := Lib.hid (((Below.refl _ _).alloc (Nat.le_refl _) _).trans (putB_below _ (Nat.le_refl _) _ _))
      have Hw11 := Lib.hid (Hw10.out.next HBw11.out)
      have HSw11 := Lib.hid (HSw10.out.below HBw11.out)
      have HVw11 : Hid (blk (putB (w10.alloc (.cells zeroS 44)) w10.heap.size (stC r vow10 vtw10) 44) w10.heap.size (stC r vow10 vtw10) 44) := Lib.hid (putB_at (blk_new _ _ _) _ _)
      obtain ⟨w11, hww11⟩ : ∃ w11, w11 = putB (w10.alloc (.cells zeroS 44)) w10.heap.size (stC r vow10 vtw10) 44 := ⟨_, rfl⟩
      obtain ⟨Vw11, hVw11⟩ : ∃ Vw11, Vw11 = w10.heap.size := ⟨_, rfl⟩
      rw [← hww11] at Hw11 HSw11 HVw11 ⊢
      rw [← hVw11] at HVw11 ⊢
      clear hww11 hVw11 HBw11 Hw10 HSw10
      go_wp2_with (first
        | (refine wpList_loadB rfl 44 _ rfl Vw11 (stC r vow10 vtw10) rfl 44 HVw11.out _ Tryz.underlying44 rfl (rstate_size HSw11.out.len) ?_)
        | (refine wpList_putB rfl 44 _ _ rfl (w.heap.size + 2) (stC r vow10 vtw10) rfl rfl 44 _ Hw11.out.rs.res (rstate_size HSw11.out.len) (by rw [stC_size HSw11.out.len]; rfl) (stC_one' HSw11.out) ?_))
      refine bodyPost_ret (v := .tuple #[.agg (stC r vow10 vtw10), .bool false, .int .i64 0]) ?_ rfl (StepPost.of Hw11.out.rs HSw11.out)
      rw [res_cell2 (p := 4) (u := 5) (v := 6) rfl _ _ (w.heap.size + 2) (stC r vow10 vtw10) 44 _ rfl (putB_at Hw11.out.rs.res _ _) Tryz.underlying44 rfl (rstate_size HSw11.out.len)]; rfl
end Go.Proofs.YtapjgobkpehgfaaGreatDoor

/- The document's Step: its contract. -/
namespace Go.Proofs.YtapjgobkpehgfaaGreatDoor
set_option linter.unusedSimpArgs false
set_option linter.unusedVariables false
open Go.RowKit

set_option maxRecDepth 100000 in
theorem rstepU_n (v : Value) (p : PProg) (w : World) (s : PSt) (vo vt : Value) (h : ProgAt w v p) (hs : OkP p) (ht : HasT w) (hst : StN w vo vt s) (hz : SizeOk s) (hrun : (checkL p).2 = 0 → UseOk p s) :
    Calls Tryz.prog 12 #[v, .agg (stC s vo vt)] w (StepPost w (stepL p s)) := by
  obtain ⟨vt', vc, rfl, htl, hc⟩ := id h
  obtain ⟨x, kx, rfl, -, -, -⟩ := id htl.elems
  obtain ⟨x', kx', rfl, g1, g2, g3⟩ := id hc
  unfold maxLen at g2
  have HCK : ∀ z e : Int, (checkL p).1 = z → ((checkL p).2 : Int) = e → ∀ w1, Below w.heap.size w w1 → Calls Tryz.prog 13 #[.agg (progC (.slice x p.types.length kx) p (.slice x' p.code.length kx'))] w1 (ChkPost w1 z e) := fun z e h1 h2 w1 hb1 =>
    rcheck_n _ p z e w1 (h.below hb1) hs (ht.below hb1) h1 h2
  by_cases hc0 : (checkL p).2 = 0
  · have hr := hrun hc0
    obtain ⟨hh, hc1, hc2, hall, _⟩ := check_ok hc0
    have h00 := HCK (-1) 0 (by rw [(check_ok hc0).2.2.2.2]) (by rw [hc0]; rfl)
    by_cases hpc : s.pc = p.code.length
    · rw [step_end hc0 hpc]
      exact rstep_end w _ p _ x' kx' s vo vt hst rfl g1 (by omega) (Lib.hid h00) (Lib.hid hpc)
    · have hlt : s.pc < p.code.length := by have := hr.pc; omega
      have hi : p.code[s.pc]? = some (p.code[s.pc]'hlt) := List.getElem?_eq_getElem hlt
      generalize p.code[s.pc]'hlt = i at hi
      obtain ⟨bb, o, rfl, hbb, hrng⟩ := g3 s.pc i hi
      have ho := hs.ins i (List.mem_of_getElem? hi)
      obtain ⟨hrt, hju, hin, -⟩ := ins_parts (hall i (List.mem_of_getElem? hi))
      have hparts := parts_u w p s vo vt x (some ⟨bb, o, none⟩) kx kx' i h hs hst hr hc0 hz hi
      have hst' : s.steps ≤ 1000000 := hr.st
      rw [step_at hc0 hi]
      obtain ⟨o0, o1, a0, a1, b0, b1, c0, c1, n0, n1⟩ := ho
      obtain ⟨op, a, ib, c, n⟩ := i
      simp only at o0 o1 a0 a1 b0 b1 c0 c1 n0 n1 hparts
      obtain ⟨ka, rfl⟩ : ∃ ka : Nat, a = ka := ⟨a.toNat, by omega⟩
      have fin : ∀ (r : PSt) (e : Nat), _ → Calls Tryz.prog 12 #[.agg (progC (.slice x p.types.length kx) p (.slice (some ⟨bb, o, none⟩) p.code.length kx')), .agg (stC s vo vt)] w (StepPost w (r, false, e)) := fun r e HD =>
        rstep_run w _ p _ bb o kx' s vo vt op ib c n ka r e hst rfl g1 (by omega) (Lib.hid h00) hlt hst' hbb (Lib.hid hrng) (Lib.hid HD)
      by_cases h3 : op = 3
      · subst h3
        rw [doI_3 rfl]
        exact fin _ 0 (.inl ⟨rfl, (hju (by rfl)).1, rfl, rfl⟩)
      by_cases h4 : op = 4
      · subst h4
        have h8 : (ka : Int) < 8 := by simpa [intsB] using hin
        rw [doI_4 rfl]
        by_cases hx : xA s (ka : Int) = 0
        · rw [if_pos (show xA (onI s) (ka : Int) = 0 from hx)]
          exact fin _ 0 (.inr (.inl ⟨rfl, (hju (by rfl)).1, by omega, hx, rfl, rfl⟩))
        · rw [if_neg (show ¬ xA (onI s) (ka : Int) = 0 from hx)]
          exact fin _ 0 (.inr (.inr (.inl ⟨rfl, by omega, by simpa using hx, rfl, rfl⟩)))
      have q3 : (op == 3) = false := by simpa using h3
      have q4 : (op == 4) = false := by simpa using h4
      rcases hparts h3 h4 with ⟨u, hd, hN⟩ | ⟨hN, u, hd, hP⟩ | ⟨hN, hP, ⟨hd, hM⟩ | ⟨u, hd, hM⟩⟩
      · rw [hd]; exact fin u 0 (.inr (.inr (.inr ⟨q3, q4, .inl ⟨rfl, hN⟩⟩)))
      · rw [hd]; exact fin u 0 (.inr (.inr (.inr ⟨q3, q4, .inr ⟨hN, .inl ⟨rfl, hP⟩⟩⟩)))
      · rw [hd]; exact fin s 9 (.inr (.inr (.inr ⟨q3, q4, .inr ⟨hN, .inr ⟨hP, .inl ⟨rfl, rfl, hM⟩⟩⟩⟩)))
      · rw [hd]; exact fin u 0 (.inr (.inr (.inr ⟨q3, q4, .inr ⟨hN, .inr ⟨hP, .inr ⟨rfl, hM⟩⟩⟩⟩)))
  · rw [step_bad hc0]
    exact rstep_bad w _ _ s vo vt _ _ hst rfl (Lib.hid rfl) (Lib.hid (HCK _ _ rfl rfl)) (by simp; omega)
end Go.Proofs.YtapjgobkpehgfaaGreatDoor

/- ModelFurther: the walk. -/
namespace Go.Proofs.YtapjgobkpehgfaaGreatDoor
set_option linter.unusedSimpArgs false
set_option linter.unusedVariables false
open Go.RowKit

theorem rowN_form {w : World} {v : Value} {l : List Int} (h : RowN w v (i64s l)) : ∃ a c, v = .slice a l.length c ∧ l.length ≤ c ∧ c ≤ 9223372036854775807 := by
  obtain ⟨⟨a, c, rfl, h1, h2, h3⟩, -⟩ := h
  unfold maxLen at h2
  rw [i64s_len] at h1 ⊢
  exact ⟨a, c, rfl, h1, by omega⟩
end Go.Proofs.YtapjgobkpehgfaaGreatDoor

/- ModelPieces: the walk. -/
namespace Go.Proofs.YtapjgobkpehgfaaGreatDoor
set_option linter.unusedSimpArgs false
set_option linter.unusedVariables false
open Go.RowKit

theorem GridN.form {w : World} {v : Value} {xss : List (List Int)} (h : GridN w v xss) : ∃ a c, v = .slice a xss.length c ∧ xss.length ≤ c ∧ c ≤ 9223372036854775807 := by
  obtain ⟨rows, h1, ⟨⟨a, c, rfl, g1, g2, _⟩, _, _⟩, _⟩ := h
  unfold maxLen at g2
  exact ⟨a, c, by rw [h1], by omega, by omega⟩
theorem StN.one {w : World} {vo vt : Value} {s : PSt} (h : StN w vo vt s) : (stC s vo vt).all (·.oneCell') = true := by
  obtain ⟨a, c, rfl, _⟩ := h.objs.form
  obtain ⟨a', c', rfl, _⟩ := rowN_form h.out
  exact stC_one s rfl rfl
theorem size_run {p : PProg} {s : PSt} {ts : List Nat} {k : Nat} (hc : (checkL p).2 = 0) (h : RunOk p s ts k) (hk : k ≤ 1000000) : SizeOk s := by
  obtain ⟨hh, h1, h2, _⟩ := check_ok hc
  have hl := h.inv.lo
  have h3 := h.lt
  have h4 := h.lo
  refine ⟨by omega, by omega, fun xs hx => ?_, by have := h.pc; omega⟩
  obtain ⟨j, hj⟩ := List.getElem?_of_mem hx
  have hlt := (List.getElem?_eq_some_iff.1 hj).1
  have := h.inv.os j (by omega)
  rw [List.getD_eq_getElem?_getD, hj] at this
  have h6 : sizeP p.types (ts.getD j 0 : Nat) ≤ 6 := sizeI_le.2
  simp only [Option.getD_some] at this
  omega
theorem size_0 : SizeOk st0 := ⟨by decide, by decide, fun xs hx => by simp [st0] at hx, by decide⟩
end Go.Proofs.YtapjgobkpehgfaaGreatDoor
