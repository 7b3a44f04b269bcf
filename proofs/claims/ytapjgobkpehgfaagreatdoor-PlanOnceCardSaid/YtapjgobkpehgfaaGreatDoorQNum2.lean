/-
  The document's numbers: Print.
-/
import Derived.Test.YtapjgobkpehgfaaGreatDoorUBM
namespace Go.Proofs.YtapjgobkpehgfaaGreatDoor
set_option linter.unusedSimpArgs false
set_option linter.unusedVariables false
open Go.RowKit

set_option maxRecDepth 100000 in
set_option maxHeartbeats 4000000 in
theorem num_14 (w W0 : World) (s : PSt) (vo vt : Value) (a ib c : Nat) (n : Int) (z : Nat) (h : StN w vo vt s)
    (hW0 : W0 = ((w.alloc (.cells (stC s vo vt) 44)).alloc (.cells (insC ⟨14, a, ib, c, n⟩) 46)).alloc (.cells zeroS 44)) (ha : a < 8) (ho : s.out.length ≤ 1000000) :
    Calls Tryz.prog 24 #[.agg (stC s vo vt), insV ⟨14, a, ib, c, n⟩] w (PartPost w ({ s with out := s.out ++ [xA s a] }) (.bool true)) := by
  obtain ⟨i2, q1, q2, q3, q4⟩ := info_parts info64
  obtain ⟨av, cv, hvt, gv1, gv2⟩ := rowI_form h.out
  subst hvt
  obtain ⟨hw, hsz⟩ := RfW.start hW0 h
  have HW := Lib.hid hw
  have HL := Lib.hid h.len
  have HSZ := Lib.hid hsz
  clear hw h hsz
  go_enter Tryz.func24, Tryz.ntmps24
  go_upto_region 1 with (fail)
  rw [← hW0]
  clear hW0
  go_upto_region 2 with (first
    | (refine wpList_ldX rfl _ rfl rfl HW.out.st HL.out ?_)
    | (refine wpList_putB rfl 38 _ _ rfl W0.heap.size (xC s.x) rfl rfl 38 zero8 (blk_new W0 zero8 38) (x8_info HL.out.x) (by rw [xC_size, HL.out.x]; rfl) (xC_one _) ?_))
  have HW1 : Hid (RfW w (putB (W0.alloc (.cells zero8 38)) W0.heap.size (xC s.x) 38) w.heap.size s vo (.slice av s.out.length cv) ⟨14, a, ib, c, n⟩) := Lib.hid (RfW.other (HW.out.next ((Below.refl _ _).alloc (Nat.le_refl _) _)) (by have := HSZ.out; omega) (blk_new W0 zero8 38) (by decide))
  have HX1 : Hid (blk (putB (W0.alloc (.cells zero8 38)) W0.heap.size (xC s.x) 38) W0.heap.size (xC s.x) 38) := Lib.hid (putB_at (blk_new W0 zero8 38) _ _)
  obtain ⟨X, hX⟩ : ∃ X, X = W0.heap.size := ⟨_, rfl⟩
  obtain ⟨w1, hw1⟩ : ∃ w1, w1 = putB (W0.alloc (.cells zero8 38)) W0.heap.size (xC s.x) 38 := ⟨_, rfl⟩
  rw [← hw1] at HW1 HX1 ⊢
  have hXB : w.heap.size + 2 < X := by have := HSZ.out; omega
  rw [← hX] at HX1 ⊢
  clear hw1 hX HW HSZ
  obtain ⟨e0, e1, e2, e3, e4⟩ := ins_e HW1.out.ins
  have hx8 := HL.out.x
  have ha8 : (a : Int) < 8 := by omega
  have ha0 : (0 : Int) ≤ (a : Int) := by omega
  have ca : w1.cell? ⟨X, a, none⟩ = some (.int .i64 (xA s a)) := xC_cell HX1.out (k := a) (by omega)
  have c21 := blk_cell HW1.out.st 21 _ (stC_rest HL.out).2.1
  have hBX : w.heap.size + 2 < w1.heap.size := HW1.out.size
  have hXl := blk_lt HX1.out
  have hB0 : w.heap.size < w1.heap.size := by omega
  go_upto_region 14 with (
       refine wpList_copy Tryz.underlying42 q1 q2 q3 q4 rfl (by omega) rfl (.tmp 55) (.tmp 57) rfl w1.heap.size _ rfl (own_empty w1 _) (by simp) _ (i64s s.out) rfl (HW1.out.at'.out.below ((Below.refl _ _).alloc (Nat.le_refl _) _)) (i64_ones _) (by simpa using ho) ?_
       intro v1 w2 ho1 hb1
       have HO1 := Lib.hid ho1
       have HB1 := Lib.hid (((Below.refl _ _).alloc (Nat.le_refl _) _).trans hb1)
       have HW2 := Lib.hid (HW1.out.next HB1.out)
       have HX2 := Lib.hid (blk_below HX1.out HB1.out)
       clear ho1 hb1 ca c21 e0 e1 e2 e3 e4
       have ca : w2.cell? ⟨X, a, none⟩ = some (.int .i64 (xA s a)) := xC_cell HX2.out (k := a) (by omega)
       obtain ⟨e0, e1, e2, e3, e4⟩ := ins_e HW2.out.ins
       have hB2 := HB1.out.size
       have hB3 : w.heap.size < w2.heap.size := by omega)
  go_upto_region 15 with (
       refine wpList_append_own _ rfl (.tmp 59) (.tmp 64) 42 rfl w1.heap.size 2 i2 (.int .i64 0) 1 8 Tryz.underlying42 q1 q2 q3 q4 rfl (by omega) v1 s.out.length (i64s s.out) rfl (by have := own_below HO1.out ((Below.refl w2.heap.size w2).alloc (Nat.le_refl _) (.cells #[.int .i64 (xA s a)] 2)); rw [i64s_len] at this; exact this) ⟨w2.heap.size, 0, none⟩ 1 1 [.int .i64 (xA s a)] rfl rfl (one_cellV _ _) (by intro u hu; simp at hu; subst hu; rfl) (by unfold maxLen; omega) (by omega) (by simp; omega) ?_
       intro v2 w3 ho2 hg2 _
       obtain ⟨va2, vc2, hv2, -, -⟩ := own_form ho2
       subst hv2
       have HO2 := Lib.hid ho2
       have HB2 : Hid (Below w1.heap.size w2 w3) := Lib.hid (((Below.refl w1.heap.size w2).alloc hB2 (.cells #[.int .i64 (xA s a)] 2)).grown hg2 (by simp; omega) (fun g hg => (own_lt HO1.out g hg).1))
       have HW3 := Lib.hid (HW1.out.next (HB1.out.trans HB2.out))
       have HX2 := Lib.hid (blk_below HX1.out (HB1.out.trans HB2.out))
       clear HW1 HX1 HW2 ca e0 e1 e2 e3 e4 hg2 HO1 HB1
       have c21 := blk_cell HW3.out.st 21 _ (stC_rest HL.out).2.1
       have f21 := blk_frozen HW3.out.st 21)
  have HW2 : Hid (RfW w (w3.setCell ⟨w.heap.size, 21, none⟩ (.slice va2 (s.out.length + 1) vc2)) w.heap.size { s with out := s.out ++ [xA s a] } vo (.slice va2 (s.out.length + 1) vc2) ⟨14, a, ib, c, n⟩) := Lib.hid (by
    rw [setCell_putB HW3.out.st, stC_setT HL.out (s.out ++ [xA s a])]
    refine HW3.out.put ⟨⟨HL.out.x, HL.out.p, HL.out.g⟩, HW3.out.at'.objs, ?_⟩
    show RowN w3 _ (i64s (s.out ++ [xA s a]))
    rw [show i64s (s.out ++ [xA s a]) = i64s s.out ++ [.int .i64 (xA s a)] by simp]
    exact own_rowN HO2.out (by decide) (by simp))
  have HX2 : Hid (blk (w3.setCell ⟨w.heap.size, 21, none⟩ (.slice va2 (s.out.length + 1) vc2)) X (xC s.x) 38) := Lib.hid (by
    rw [setCell_putB HW3.out.st]; unfold blk; rw [putB_ne _ (by omega)]; exact HX2.out)
  clear HW3 HO2 HB2 c21 f21 ho2
  obtain ⟨w4, hw4⟩ : ∃ w4, w4 = w3.setCell ⟨w.heap.size, 21, none⟩ (.slice va2 (s.out.length + 1) vc2) := ⟨_, rfl⟩
  rw [← hw4] at HW2 HX2 ⊢
  clear hw4
  go_wp2_with (first
    | (refine wpList_loadB rfl 38 _ rfl X (xC s.x) rfl 38 HX2.out _ Tryz.underlying38 rfl (x8_info hx8) ?_)
    | (refine wpList_putX rfl _ _ rfl rfl rfl HW2.out.st HW2.out.at'.len hx8 ?_
       have HW3 := Lib.hid (HW2.out.put (t := { s with out := s.out ++ [xA s a] }) ⟨⟨hx8, HW2.out.at'.len.p, HW2.out.at'.len.g⟩, HW2.out.at'.objs, HW2.out.at'.out⟩)
       clear HW2 HX2)
    | (refine wpList_loadB rfl 44 _ rfl w.heap.size _ rfl 44 HW3.out.st _ Tryz.underlying44 rfl (rstate_size HW3.out.at'.len) ?_)
    | (refine wpList_putB rfl 44 _ _ rfl (w.heap.size + 2) _ rfl rfl 44 _ HW3.out.res (rstate_size HW3.out.at'.len) (by rw [stC_size HW3.out.at'.len]; rfl) (stC_one' HW3.out.at') ?_))
  refine bodyPost_ret (v := .tuple #[.agg (stC { s with out := s.out ++ [xA s a] } vo (.slice va2 (s.out.length + 1) vc2)), .bool true]) ?_ rfl HW3.out.post
  rw [res_cell1 (p := 4) (u := 5) rfl _ _ (w.heap.size + 2) (stC { s with out := s.out ++ [xA s a] } vo (.slice va2 (s.out.length + 1) vc2)) 44 _ rfl (putB_at HW3.out.res _ _) Tryz.underlying44 rfl (rstate_size HW3.out.at'.len)]; rfl

end Go.Proofs.YtapjgobkpehgfaaGreatDoor
