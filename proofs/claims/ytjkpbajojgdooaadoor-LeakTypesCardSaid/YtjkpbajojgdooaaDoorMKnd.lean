/-
  The document's ints and kinds: contracts.
-/
import Derived.Test.YtjkpbajojgdooaaDoorMNam
import Derived.Test.YtjkpbajojgdooaaDoorHCh
namespace Go.Proofs.YtjkpbajojgdooaaDoor
set_option linter.unusedSimpArgs false
set_option linter.unusedVariables false
open Go.RowKit

set_option maxRecDepth 100000 in
set_option maxHeartbeats 2000000 in
theorem rints_n (i : PIns) (r : Bool) (w : World) (hi : OkI i) (hR : rightL i = true) (hr : intsB i = r) : Calls Tryd.prog 28 #[insV i] w (AggPost w (.bool r)) := by
  have hop := right_op hR
  obtain ⟨op, a, b, c, n⟩ := i
  obtain ⟨o0, o1, a0, a1, b0, b1, c0, c1, n0, n1⟩ := hi
  simp only at *
  clear hR
  have HR := Lib.hid hr
  have hw := Lib.hid ((Below.refl w.heap.size w).alloc (Nat.le_refl _) (.cells #[.int .u8 op, .int .u8 a, .int .u8 b, .int .u8 c, .int .i64 n] 45))
  clear hr
  rcases hop with rfl | rfl | rfl | rfl | rfl | rfl | rfl | rfl | rfl | rfl | rfl | rfl | rfl | rfl | rfl
  · by_cases h8 : a < 8
    all_goals
      go_enter Tryd.func28, Tryd.ntmps28
      go_wp2
      go_ret
      exact ⟨ret_bool (by rw [← HR.out]; unfold intsB; simp; omega), hw.out⟩
  · by_cases h8 : a < 8
    · by_cases h9 : b < 8
      · by_cases h10 : c < 8
        all_goals
          go_enter Tryd.func28, Tryd.ntmps28
          go_wp2
          go_ret
          exact ⟨ret_bool (by rw [← HR.out]; unfold intsB; simp; omega), hw.out⟩
      · go_enter Tryd.func28, Tryd.ntmps28
        go_wp2
        go_ret
        exact ⟨ret_bool (by rw [← HR.out]; unfold intsB; simp; omega), hw.out⟩
    · go_enter Tryd.func28, Tryd.ntmps28
      go_wp2
      go_ret
      exact ⟨ret_bool (by rw [← HR.out]; unfold intsB; simp; omega), hw.out⟩
  · go_enter Tryd.func28, Tryd.ntmps28
    go_wp2
    go_ret
    exact ⟨ret_bool (by rw [← HR.out]; rfl), hw.out⟩
  · by_cases h8 : a < 8
    all_goals
      go_enter Tryd.func28, Tryd.ntmps28
      go_wp2
      go_ret
      exact ⟨ret_bool (by rw [← HR.out]; unfold intsB; simp; omega), hw.out⟩
  · go_enter Tryd.func28, Tryd.ntmps28
    go_wp2
    go_ret
    exact ⟨ret_bool (by rw [← HR.out]; rfl), hw.out⟩
  · go_enter Tryd.func28, Tryd.ntmps28
    go_wp2
    go_ret
    exact ⟨ret_bool (by rw [← HR.out]; rfl), hw.out⟩
  · go_enter Tryd.func28, Tryd.ntmps28
    go_wp2
    go_ret
    exact ⟨ret_bool (by rw [← HR.out]; rfl), hw.out⟩
  · by_cases h8 : a < 8
    all_goals
      go_enter Tryd.func28, Tryd.ntmps28
      go_wp2
      go_ret
      exact ⟨ret_bool (by rw [← HR.out]; unfold intsB; simp; omega), hw.out⟩
  · by_cases h8 : b < 8
    all_goals
      go_enter Tryd.func28, Tryd.ntmps28
      go_wp2
      go_ret
      exact ⟨ret_bool (by rw [← HR.out]; unfold intsB; simp; omega), hw.out⟩
  · go_enter Tryd.func28, Tryd.ntmps28
    go_wp2
    go_ret
    exact ⟨ret_bool (by rw [← HR.out]; rfl), hw.out⟩
  · go_enter Tryd.func28, Tryd.ntmps28
    go_wp2
    go_ret
    exact ⟨ret_bool (by rw [← HR.out]; rfl), hw.out⟩
  · go_enter Tryd.func28, Tryd.ntmps28
    go_wp2
    go_ret
    exact ⟨ret_bool (by rw [← HR.out]; rfl), hw.out⟩
  · go_enter Tryd.func28, Tryd.ntmps28
    go_wp2
    go_ret
    exact ⟨ret_bool (by rw [← HR.out]; rfl), hw.out⟩
  · by_cases h8 : a < 8
    all_goals
      go_enter Tryd.func28, Tryd.ntmps28
      go_wp2
      go_ret
      exact ⟨ret_bool (by rw [← HR.out]; unfold intsB; simp; omega), hw.out⟩
  · by_cases h8 : a < 8
    all_goals
      go_enter Tryd.func28, Tryd.ntmps28
      go_wp2
      go_ret
      exact ⟨ret_bool (by rw [← HR.out]; unfold intsB; simp; omega), hw.out⟩

set_option maxRecDepth 100000 in
set_option maxHeartbeats 4000000 in
theorem rkinds_at (w W0 : World) (p : PProg) (op a b c n la lb : Int) (x x' : Option Addr) (k k' : Nat) (r : Bool)
    (hW0 : W0 = ((w.alloc (.cells #[.slice x p.types.length k, str p.locals, str p.globs, .slice x' p.code.length k'] 25)).alloc (.cells #[.int .u8 op, .int .u8 a, .int .u8 b, .int .u8 c, .int .i64 n] 45)))
    (KP : Hid (Keep W0 w.heap.size (.slice x p.types.length k) (.slice x' p.code.length k') p)) (KI : Hid (blk W0 (w.heap.size + 1) #[.int .u8 op, .int .u8 a, .int .u8 b, .int .u8 c, .int .i64 n] 45)) (HS : Hid (Below w.heap.size w W0))
    (a0 : 0 ≤ a) (a1 : a ≤ 255) (b0 : 0 ≤ b) (b1 : b ≤ 255) (c0 : 0 ≤ c) (c1 : c ≤ 255) (n0 : -9223372036854775808 ≤ n) (n1 : n ≤ 9223372036854775807) (la0 : -1 ≤ la) (la1 : la ≤ 207) (lb0 : -1 ≤ lb) (lb1 : lb ≤ 207)
    (hop : op = 1 ∨ op = 2 ∨ op = 3 ∨ op = 4 ∨ op = 5 ∨ op = 6 ∨ op = 7 ∨ op = 8 ∨ op = 9 ∨ op = 10 ∨ op = 11 ∨ op = 12 ∨ op = 13 ∨ op = 14 ∨ op = 15)
    (HLA : Hid (∀ w1, Below W0.heap.size W0 w1 → Calls Tryd.prog 35 #[.agg #[.slice x p.types.length k, str p.locals, str p.globs, .slice x' p.code.length k'], .int .u8 a] w1 (AggPost w1 (.int .i64 la))))
    (HLB : Hid (∀ w1, Below W0.heap.size W0 w1 → Calls Tryd.prog 35 #[.agg #[.slice x p.types.length k, str p.locals, str p.globs, .slice x' p.code.length k'], .int .u8 b] w1 (AggPost w1 (.int .i64 lb))))
    (HLC : Hid (∀ w1, Below W0.heap.size W0 w1 → Calls Tryd.prog 35 #[.agg #[.slice x p.types.length k, str p.locals, str p.globs, .slice x' p.code.length k'], .int .u8 c] w1 (AggPost w1 (.int .i64 (localI p c)))))
    (HGL : Hid (∀ w1 a, Below W0.heap.size W0 w1 → 0 ≤ a → a ≤ 255 → Calls Tryd.prog 43 #[.agg #[.slice x p.types.length k, str p.locals, str p.globs, .slice x' p.code.length k'], .int .u8 a] w1 (AggPost w1 (.int .i64 (globI p a)))))
    (HNU : Hid (∀ w1 t, Below W0.heap.size W0 w1 → Calls Tryd.prog 41 #[.agg #[.slice x p.types.length k, str p.locals, str p.globs, .slice x' p.code.length k'], .int .i64 t, .int .i64 n] w1 (AggPost w1 (.bool (numF p.types t n)))))
    (HPT : Hid (∀ w1 t, Below W0.heap.size W0 w1 → Calls Tryd.prog 42 #[.agg #[.slice x p.types.length k, str p.locals, str p.globs, .slice x' p.code.length k'], .int .i64 t, .int .i64 n] w1 (AggPost w1 (.int .i64 (toP p.types t n)))))
    (hla : Hid (localI p a = la)) (hlb : Hid (localI p b = lb)) (hr : Hid (kindsB p ⟨op, a, b, c, n⟩ = r)) :
    Calls Tryd.prog 29 #[.agg #[.slice x p.types.length k, str p.locals, str p.globs, .slice x' p.code.length k'], .agg #[.int .u8 op, .int .u8 a, .int .u8 b, .int .u8 c, .int .i64 n]] w (AggPost w (.bool r)) := by
  have HB := Lib.hid (Below.refl W0.heap.size W0)
  have hop' := Lib.hid hop
  clear hop
  go_enter Tryd.func29, Tryd.ntmps29
  go_wp2_with (fail)
  rw [← hW0]
  clear hW0
  obtain ⟨p0, p1, p2, p3⟩ := KP.out.cells
  have i0 := blk_cell KI.out 0 _ rfl
  have i1 := blk_cell KI.out 1 _ rfl
  have i2 := blk_cell KI.out 2 _ rfl
  go_region_held3 (fun w' => w'.cell? ⟨w.heap.size, 0, none⟩ = some (.slice x p.types.length k) ∧ w'.cell? ⟨w.heap.size, 1, none⟩ = some (str p.locals) ∧ w'.cell? ⟨w.heap.size, 2, none⟩ = some (str p.globs) ∧ w'.cell? ⟨w.heap.size, 3, none⟩ = some (.slice x' p.code.length k') ∧ w'.cell? ⟨w.heap.size + 1, 1, none⟩ = some (.int .u8 a) ∧ w'.cell? ⟨w.heap.size + 1, 2, none⟩ = some (.int .u8 b)) (go_keep) (first
    | (go_at_call 35; ((with_reducible refine (HLA.out _ ?_).mono ?_); (first | exact HB.out.drew | exact HB.out); rintro e w5 ⟨rfl, hb⟩; have HB5 := Lib.hid (HB.out.drew.trans (hb.mono HB.out.size)); have KP5 := Lib.hid (Keep.below (W := W0.drew) (⟨KP.out.1, KP.out.2.below (Below.refl _ _).drew⟩) hb); have KI5 := Lib.hid (blk_below (show blk W0.drew (w.heap.size + 1) #[.int .u8 op, .int .u8 a, .int .u8 b, .int .u8 c, .int .i64 n] 45 from KI.out) hb); clear hb p0 p1 p2 p3 i0 i1 i2; obtain ⟨p0, p1, p2, p3⟩ := KP5.out.cells; have i1 := blk_cell KI5.out 1 _ rfl; have i2 := blk_cell KI5.out 2 _ rfl))
    | (go_at_call 35; ((with_reducible refine (HLB.out _ HB5.out).mono ?_); rintro e w6 ⟨rfl, hb⟩; have HB6 := Lib.hid (HB5.out.trans (hb.mono HB5.out.size)); have KP6 := Lib.hid (KP5.out.below hb); have KI6 := Lib.hid (blk_below KI5.out hb); clear hb p0 p1 p2 p3 i1 i2; obtain ⟨p0, p1, p2, p3⟩ := KP6.out.cells; have i1 := blk_cell KI6.out 1 _ rfl; have i2 := blk_cell KI6.out 2 _ rfl)))
  all_goals
    have j0 := blk_cell KI6.out 0 _ rfl
    have j3 := blk_cell KI6.out 3 _ rfl
    have j4 := blk_cell KI6.out 4 _ rfl
    clear HLA HLB KP5 KI5 HB5 HB
    have HB := Lib.hid HB6.out
    clear HB6
    have hla := hla.out
    have hlb := hlb.out
    rcases hop'.out with rfl | rfl | rfl | rfl | rfl | rfl | rfl | rfl | rfl | rfl | rfl | rfl | rfl | rfl | rfl
  · clear hla hlb
    go_wp2
    go_ret
    exact ⟨ret_bool (by rw [← hr.out]; rfl), HS.out.trans (HB.out.mono HS.out.size)⟩
  · clear hla hlb
    go_wp2
    go_ret
    exact ⟨ret_bool (by rw [← hr.out]; rfl), HS.out.trans (HB.out.mono HS.out.size)⟩
  · clear hla hlb
    go_wp2
    go_ret
    exact ⟨ret_bool (by rw [← hr.out]; rfl), HS.out.trans (HB.out.mono HS.out.size)⟩
  · clear hla hlb
    go_wp2
    go_ret
    exact ⟨ret_bool (by rw [← hr.out]; rfl), HS.out.trans (HB.out.mono HS.out.size)⟩
  · have HLA := Lib.hid hla
    clear hla hlb
    by_cases hl : 0 ≤ la
    all_goals
      go_wp2
      go_ret
      exact ⟨ret_bool (by rw [← hr.out]; unfold kindsB; simp [HLA.out]; omega), HS.out.trans (HB.out.mono HS.out.size)⟩
  · have HLA := Lib.hid hla
    clear hla hlb
    by_cases hl : 0 ≤ la
    all_goals
      go_wp2
      go_ret
      exact ⟨ret_bool (by rw [← hr.out]; unfold kindsB; simp [HLA.out]; omega), HS.out.trans (HB.out.mono HS.out.size)⟩
  · have HLA := Lib.hid hla
    have HLB := Lib.hid hlb
    clear hla hlb
    go_wp2_with (go_at_call 40; refine (one_n la lb _ _ rfl).mono ?_; rintro e w' ⟨rfl, rfl⟩)
    go_ret
    exact ⟨ret_bool (by rw [← hr.out]; unfold kindsB; simp [HLA.out, HLB.out]), HS.out.trans (HB.out.mono HS.out.size)⟩
  · have HT := Lib.hid hlb
    clear hla hlb
    by_cases hl : 0 ≤ lb
    · go_wp2_with (first
        | (refine wpList_loadB rfl 25 _ rfl w.heap.size (progC (.slice x p.types.length k) p (.slice x' p.code.length k')) rfl 25 KP6.out.blk _ Tryd.underlying25 rfl prog_info ?_)
        | (go_at_call 41; refine (HNU.out _ lb HB.out).mono ?_; rintro e w8 ⟨rfl, hb8⟩))
      go_ret
      have hz := HB.out.size
      exact ⟨ret_bool (by rw [← hr.out]; show _ = (decide (0 ≤ localI p b) && numF p.types (localI p b) n); rw [HT.out, decide_eq_true hl, Bool.true_and]), HS.out.trans ((HB.out.trans (hb8.mono hz)).mono HS.out.size)⟩
    · go_wp2
      go_ret
      exact ⟨ret_bool (by rw [← hr.out]; show _ = (decide (0 ≤ localI p b) && numF p.types (localI p b) n); rw [HT.out, decide_eq_false (show ¬ 0 ≤ lb by omega), Bool.false_and]), HS.out.trans (HB.out.mono HS.out.size)⟩
  · have HT := Lib.hid hla
    clear hla hlb
    by_cases hl : 0 ≤ la
    · go_wp2_with (first
        | (refine wpList_loadB rfl 25 _ rfl w.heap.size (progC (.slice x p.types.length k) p (.slice x' p.code.length k')) rfl 25 KP6.out.blk _ Tryd.underlying25 rfl prog_info ?_)
        | (go_at_call 41; refine (HNU.out _ la HB.out).mono ?_; rintro e w8 ⟨rfl, hb8⟩))
      go_ret
      have hz := HB.out.size
      exact ⟨ret_bool (by rw [← hr.out]; show _ = (decide (0 ≤ localI p a) && numF p.types (localI p a) n); rw [HT.out, decide_eq_true hl, Bool.true_and]), HS.out.trans ((HB.out.trans (hb8.mono hz)).mono HS.out.size)⟩
    · go_wp2
      go_ret
      exact ⟨ret_bool (by rw [← hr.out]; show _ = (decide (0 ≤ localI p a) && numF p.types (localI p a) n); rw [HT.out, decide_eq_false (show ¬ 0 ≤ la by omega), Bool.false_and]), HS.out.trans (HB.out.mono HS.out.size)⟩
  · have HT := Lib.hid hlb
    have HX := Lib.hid hla
    clear hla hlb
    by_cases hl : 0 ≤ lb
    · go_wp2_with (first
        | (refine wpList_loadB rfl 25 _ rfl w.heap.size (progC (.slice x p.types.length k) p (.slice x' p.code.length k')) rfl 25 KP6.out.blk _ Tryd.underlying25 rfl prog_info ?_)
        | (go_at_call 42; refine (HPT.out _ lb HB.out).mono ?_; rintro e w8 ⟨rfl, hb8⟩)
        | (go_at_call 40; refine (one_n la _ _ _ rfl).mono ?_; rintro e w' ⟨rfl, rfl⟩))
      go_ret
      have hz := HB.out.size
      exact ⟨ret_bool (by rw [← hr.out]; show _ = (decide (0 ≤ localI p b) && sameT (localI p a) (toP p.types (localI p b) n)); rw [HT.out, HX.out, decide_eq_true hl, Bool.true_and]), HS.out.trans ((HB.out.trans (hb8.mono hz)).mono HS.out.size)⟩
    · go_wp2
      go_ret
      exact ⟨ret_bool (by rw [← hr.out]; show _ = (decide (0 ≤ localI p b) && sameT (localI p a) (toP p.types (localI p b) n)); rw [HT.out, decide_eq_false (show ¬ 0 ≤ lb by omega), Bool.false_and]), HS.out.trans (HB.out.mono HS.out.size)⟩
  · have HT := Lib.hid hla
    have HX := Lib.hid hlb
    clear hla hlb
    by_cases hl : 0 ≤ la
    · go_wp2_with (first
        | (refine wpList_loadB rfl 25 _ rfl w.heap.size (progC (.slice x p.types.length k) p (.slice x' p.code.length k')) rfl 25 KP6.out.blk _ Tryd.underlying25 rfl prog_info ?_)
        | (go_at_call 42; refine (HPT.out _ la HB.out).mono ?_; rintro e w8 ⟨rfl, hb8⟩)
        | (go_at_call 40; refine (one_n lb _ _ _ rfl).mono ?_; rintro e w' ⟨rfl, rfl⟩))
      go_ret
      have hz := HB.out.size
      exact ⟨ret_bool (by rw [← hr.out]; show _ = (decide (0 ≤ localI p a) && sameT (localI p b) (toP p.types (localI p a) n)); rw [HT.out, HX.out, decide_eq_true hl, Bool.true_and]), HS.out.trans ((HB.out.trans (hb8.mono hz)).mono HS.out.size)⟩
    · go_wp2
      go_ret
      exact ⟨ret_bool (by rw [← hr.out]; show _ = (decide (0 ≤ localI p a) && sameT (localI p b) (toP p.types (localI p a) n)); rw [HT.out, decide_eq_false (show ¬ 0 ≤ la by omega), Bool.false_and]), HS.out.trans (HB.out.mono HS.out.size)⟩
  · have HX := Lib.hid hla
    clear hla hlb
    go_wp2_with (first
      | (refine wpList_loadB rfl 25 _ rfl w.heap.size (progC (.slice x p.types.length k) p (.slice x' p.code.length k')) rfl 25 KP6.out.blk _ Tryd.underlying25 rfl prog_info ?_)
      | (go_at_call 43; refine (HGL.out _ b HB.out b0 b1).mono ?_; rintro e w8 ⟨rfl, hb8⟩)
      | (go_at_call 40; refine (one_n la _ _ _ rfl).mono ?_; rintro e w' ⟨rfl, rfl⟩))
    go_ret
    have hz := HB.out.size
    exact ⟨ret_bool (by rw [← hr.out]; unfold kindsB; simp [HX.out]), HS.out.trans ((HB.out.trans (hb8.mono hz)).mono HS.out.size)⟩
  · have HX := Lib.hid hlb
    clear hla hlb
    go_wp2_with (first
      | (refine wpList_loadB rfl 25 _ rfl w.heap.size (progC (.slice x p.types.length k) p (.slice x' p.code.length k')) rfl 25 KP6.out.blk _ Tryd.underlying25 rfl prog_info ?_)
      | (go_at_call 43; refine (HGL.out _ a HB.out a0 a1).mono ?_; rintro e w8 ⟨rfl, hb8⟩)
      | (go_at_call 40; refine (one_n lb _ _ _ rfl).mono ?_; rintro e w' ⟨rfl, rfl⟩))
    go_ret
    have hz := HB.out.size
    exact ⟨ret_bool (by rw [← hr.out]; unfold kindsB; simp [HX.out]), HS.out.trans ((HB.out.trans (hb8.mono hz)).mono HS.out.size)⟩
  · clear hla hlb
    go_wp2
    go_ret
    exact ⟨ret_bool (by rw [← hr.out]; rfl), HS.out.trans (HB.out.mono HS.out.size)⟩
  · have HX := Lib.hid hlb
    clear hla hlb
    go_wp2_with (first
      | (refine wpList_loadB rfl 25 _ rfl w.heap.size (progC (.slice x p.types.length k) p (.slice x' p.code.length k')) rfl 25 KP6.out.blk _ Tryd.underlying25 rfl prog_info ?_)
      | (go_at_call 35; refine (HLC.out _ HB.out).mono ?_; rintro e w8 ⟨rfl, hb8⟩)
      | (go_at_call 40; refine (one_n lb _ _ _ rfl).mono ?_; rintro e w' ⟨rfl, rfl⟩))
    go_ret
    have hz := HB.out.size
    exact ⟨ret_bool (by rw [← hr.out]; unfold kindsB; simp [HX.out]), HS.out.trans ((HB.out.trans (hb8.mono hz)).mono HS.out.size)⟩

theorem rkinds_n (v : Value) (p : PProg) (i : PIns) (r : Bool) (w : World) (h : ProgAt w v p) (hs : OkP p) (hi : OkI i) (hR : rightL i = true) (hlo : p.locals.length ≤ 200) (hgl : p.globs.length ≤ 200) (hr : kindsB p i = r) : Calls Tryd.prog 29 #[v, insV i] w (AggPost w (.bool r)) := by
  have hop := right_op hR
  obtain ⟨vt, vc, rfl, ht, hc⟩ := id h
  obtain ⟨x, k, rfl, -, -, -⟩ := id ht.elems
  obtain ⟨x', k', rfl, -, -, -⟩ := id hc
  obtain ⟨op, a, b, c, n⟩ := i
  obtain ⟨o0, o1, a0, a1, b0, b1, c0, c1, n0, n1⟩ := hi
  simp only at *
  have hsz : (w.alloc (.cells #[.slice x p.types.length k, str p.locals, str p.globs, .slice x' p.code.length k'] 25)).heap.size = w.heap.size + 1 := World.size_alloc _ _
  have hwb : Below w.heap.size w ((w.alloc (.cells #[.slice x p.types.length k, str p.locals, str p.globs, .slice x' p.code.length k'] 25)).alloc (.cells #[.int .u8 op, .int .u8 a, .int .u8 b, .int .u8 c, .int .i64 n] 45)) := ((Below.refl _ _).alloc (Nat.le_refl _) _).alloc (by omega) _
  have kp : Keep ((w.alloc (.cells #[.slice x p.types.length k, str p.locals, str p.globs, .slice x' p.code.length k'] 25)).alloc (.cells #[.int .u8 op, .int .u8 a, .int .u8 b, .int .u8 c, .int .i64 n] 45)) w.heap.size (.slice x p.types.length k) (.slice x' p.code.length k') p := (keep_new h).below ((Below.refl _ _).alloc (Nat.le_refl _) _)
  have ki : blk ((w.alloc (.cells #[.slice x p.types.length k, str p.locals, str p.globs, .slice x' p.code.length k'] 25)).alloc (.cells #[.int .u8 op, .int .u8 a, .int .u8 b, .int .u8 c, .int .i64 n] 45)) (w.heap.size + 1) #[.int .u8 op, .int .u8 a, .int .u8 b, .int .u8 c, .int .i64 n] 45 := by rw [← hsz]; exact blk_new _ _ _
  generalize hW0 : ((w.alloc (.cells #[.slice x p.types.length k, str p.locals, str p.globs, .slice x' p.code.length k'] 25)).alloc (.cells #[.int .u8 op, .int .u8 a, .int .u8 b, .int .u8 c, .int .i64 n] 45)) = W0 at hwb kp ki
  have hp := kp.at'
  exact rkinds_at w W0 p op a b c n (localI p a) (localI p b) x x' k k' r hW0.symm (Lib.hid kp) (Lib.hid ki) (Lib.hid hwb) a0 a1 b0 b1 c0 c1 n0 n1 names_le.1 names_le.2 names_le.1 names_le.2 hop
    (Lib.hid fun w1 hb => rlocal_n _ p a _ w1 (hp.below hb) hs hlo a0 a1 rfl) (Lib.hid fun w1 hb => rlocal_n _ p b _ w1 (hp.below hb) hs hlo b0 b1 rfl) (Lib.hid fun w1 hb => rlocal_n _ p c _ w1 (hp.below hb) hs hlo c0 c1 rfl)
    (Lib.hid fun w1 a hb h0 h1 => rglob_n _ p a _ w1 (hp.below hb) hs hgl h0 h1 rfl) (Lib.hid fun w1 t hb => rnum_n _ p t n _ w1 (hp.below hb) hs rfl) (Lib.hid fun w1 t hb => rpts_n _ p t n _ w1 (hp.below hb) hs rfl)
    (Lib.hid rfl) (Lib.hid rfl) (Lib.hid hr)
end Go.Proofs.YtjkpbajojgdooaaDoor
