/-
  The document's ints and kinds: contracts.
  The document's shape and part: contracts.
  The contract of the document's with.
-/
import Derived.Test.YtapjgobkpehgfaaGreatDoorUAS
import Derived.Test.YtapjgobkpehgfaaGreatDoorHFit
import Derived.Test.YtapjgobkpehgfaaGreatDoorUAE

/- The document's ints and kinds: contracts. -/
namespace Go.Proofs.YtapjgobkpehgfaaGreatDoor
set_option linter.unusedSimpArgs false
set_option linter.unusedVariables false
open Go.RowKit

set_option maxRecDepth 100000 in
set_option maxHeartbeats 2000000 in
theorem rints_n (i : PIns) (r : Bool) (w : World) (hi : OkI i) (hR : rightL i = true) (hr : intsB i = r) : Calls Tryz.prog 29 #[insV i] w (AggPost w (.bool r)) := by
  have hop := right_op hR
  obtain ⟨op, a, b, c, n⟩ := i
  obtain ⟨o0, o1, a0, a1, b0, b1, c0, c1, n0, n1⟩ := hi
  simp only at *
  clear hR
  have HR := Lib.hid hr
  have hw := Lib.hid ((Below.refl w.heap.size w).alloc (Nat.le_refl _) (.cells #[.int .u8 op, .int .u8 a, .int .u8 b, .int .u8 c, .int .i64 n] 46))
  clear hr
  rcases hop with rfl | rfl | rfl | rfl | rfl | rfl | rfl | rfl | rfl | rfl | rfl | rfl | rfl | rfl | rfl
  · by_cases h8 : a < 8
    all_goals
      go_enter Tryz.func29, Tryz.ntmps29
      go_wp2
      go_ret
      exact ⟨ret_bool (by rw [← HR.out]; unfold intsB; simp; omega), hw.out⟩
  · by_cases h8 : a < 8
    · by_cases h9 : b < 8
      · by_cases h10 : c < 8
        all_goals
          go_enter Tryz.func29, Tryz.ntmps29
          go_wp2
          go_ret
          exact ⟨ret_bool (by rw [← HR.out]; unfold intsB; simp; omega), hw.out⟩
      · go_enter Tryz.func29, Tryz.ntmps29
        go_wp2
        go_ret
        exact ⟨ret_bool (by rw [← HR.out]; unfold intsB; simp; omega), hw.out⟩
    · go_enter Tryz.func29, Tryz.ntmps29
      go_wp2
      go_ret
      exact ⟨ret_bool (by rw [← HR.out]; unfold intsB; simp; omega), hw.out⟩
  · go_enter Tryz.func29, Tryz.ntmps29
    go_wp2
    go_ret
    exact ⟨ret_bool (by rw [← HR.out]; rfl), hw.out⟩
  · by_cases h8 : a < 8
    all_goals
      go_enter Tryz.func29, Tryz.ntmps29
      go_wp2
      go_ret
      exact ⟨ret_bool (by rw [← HR.out]; unfold intsB; simp; omega), hw.out⟩
  · go_enter Tryz.func29, Tryz.ntmps29
    go_wp2
    go_ret
    exact ⟨ret_bool (by rw [← HR.out]; rfl), hw.out⟩
  · go_enter Tryz.func29, Tryz.ntmps29
    go_wp2
    go_ret
    exact ⟨ret_bool (by rw [← HR.out]; rfl), hw.out⟩
  · go_enter Tryz.func29, Tryz.ntmps29
    go_wp2
    go_ret
    exact ⟨ret_bool (by rw [← HR.out]; rfl), hw.out⟩
  · by_cases h8 : a < 8
    all_goals
      go_enter Tryz.func29, Tryz.ntmps29
      go_wp2
      go_ret
      exact ⟨ret_bool (by rw [← HR.out]; unfold intsB; simp; omega), hw.out⟩
  · by_cases h8 : b < 8
    all_goals
      go_enter Tryz.func29, Tryz.ntmps29
      go_wp2
      go_ret
      exact ⟨ret_bool (by rw [← HR.out]; unfold intsB; simp; omega), hw.out⟩
  · go_enter Tryz.func29, Tryz.ntmps29
    go_wp2
    go_ret
    exact ⟨ret_bool (by rw [← HR.out]; rfl), hw.out⟩
  · go_enter Tryz.func29, Tryz.ntmps29
    go_wp2
    go_ret
    exact ⟨ret_bool (by rw [← HR.out]; rfl), hw.out⟩
  · go_enter Tryz.func29, Tryz.ntmps29
    go_wp2
    go_ret
    exact ⟨ret_bool (by rw [← HR.out]; rfl), hw.out⟩
  · go_enter Tryz.func29, Tryz.ntmps29
    go_wp2
    go_ret
    exact ⟨ret_bool (by rw [← HR.out]; rfl), hw.out⟩
  · by_cases h8 : a < 8
    all_goals
      go_enter Tryz.func29, Tryz.ntmps29
      go_wp2
      go_ret
      exact ⟨ret_bool (by rw [← HR.out]; unfold intsB; simp; omega), hw.out⟩
  · by_cases h8 : a < 8
    all_goals
      go_enter Tryz.func29, Tryz.ntmps29
      go_wp2
      go_ret
      exact ⟨ret_bool (by rw [← HR.out]; unfold intsB; simp; omega), hw.out⟩

set_option maxRecDepth 100000 in
set_option maxHeartbeats 4000000 in
theorem rkinds_at (w W0 : World) (p : PProg) (op a b c n la lb : Int) (x x' : Option Addr) (k k' : Nat) (r : Bool)
    (hW0 : W0 = ((w.alloc (.cells #[.slice x p.types.length k, str p.locals, str p.globs, .slice x' p.code.length k'] 25)).alloc (.cells #[.int .u8 op, .int .u8 a, .int .u8 b, .int .u8 c, .int .i64 n] 46)))
    (KP : Hid (Keep W0 w.heap.size (.slice x p.types.length k) (.slice x' p.code.length k') p)) (KI : Hid (blk W0 (w.heap.size + 1) #[.int .u8 op, .int .u8 a, .int .u8 b, .int .u8 c, .int .i64 n] 46)) (HS : Hid (Below w.heap.size w W0))
    (a0 : 0 ≤ a) (a1 : a ≤ 255) (b0 : 0 ≤ b) (b1 : b ≤ 255) (c0 : 0 ≤ c) (c1 : c ≤ 255) (n0 : -9223372036854775808 ≤ n) (n1 : n ≤ 9223372036854775807) (la0 : -1 ≤ la) (la1 : la ≤ 207) (lb0 : -1 ≤ lb) (lb1 : lb ≤ 207)
    (hop : op = 1 ∨ op = 2 ∨ op = 3 ∨ op = 4 ∨ op = 5 ∨ op = 6 ∨ op = 7 ∨ op = 8 ∨ op = 9 ∨ op = 10 ∨ op = 11 ∨ op = 12 ∨ op = 13 ∨ op = 14 ∨ op = 15)
    (HLA : Hid (∀ w1, Below W0.heap.size W0 w1 → Calls Tryz.prog 45 #[.agg #[.slice x p.types.length k, str p.locals, str p.globs, .slice x' p.code.length k'], .int .u8 a] w1 (AggPost w1 (.int .i64 la))))
    (HLB : Hid (∀ w1, Below W0.heap.size W0 w1 → Calls Tryz.prog 45 #[.agg #[.slice x p.types.length k, str p.locals, str p.globs, .slice x' p.code.length k'], .int .u8 b] w1 (AggPost w1 (.int .i64 lb))))
    (HLC : Hid (∀ w1, Below W0.heap.size W0 w1 → Calls Tryz.prog 45 #[.agg #[.slice x p.types.length k, str p.locals, str p.globs, .slice x' p.code.length k'], .int .u8 c] w1 (AggPost w1 (.int .i64 (localI p c)))))
    (HGL : Hid (∀ w1 a, Below W0.heap.size W0 w1 → 0 ≤ a → a ≤ 255 → Calls Tryz.prog 55 #[.agg #[.slice x p.types.length k, str p.locals, str p.globs, .slice x' p.code.length k'], .int .u8 a] w1 (AggPost w1 (.int .i64 (globI p a)))))
    (HNU : Hid (∀ w1 t, Below W0.heap.size W0 w1 → Calls Tryz.prog 53 #[.agg #[.slice x p.types.length k, str p.locals, str p.globs, .slice x' p.code.length k'], .int .i64 t, .int .i64 n] w1 (AggPost w1 (.bool (numF p.types t n)))))
    (HPT : Hid (∀ w1 t, Below W0.heap.size W0 w1 → Calls Tryz.prog 54 #[.agg #[.slice x p.types.length k, str p.locals, str p.globs, .slice x' p.code.length k'], .int .i64 t, .int .i64 n] w1 (AggPost w1 (.int .i64 (toP p.types t n)))))
    (hla : Hid (localI p a = la)) (hlb : Hid (localI p b = lb)) (hr : Hid (kindsB p ⟨op, a, b, c, n⟩ = r)) :
    Calls Tryz.prog 30 #[.agg #[.slice x p.types.length k, str p.locals, str p.globs, .slice x' p.code.length k'], .agg #[.int .u8 op, .int .u8 a, .int .u8 b, .int .u8 c, .int .i64 n]] w (AggPost w (.bool r)) := by
  have HB := Lib.hid (Below.refl W0.heap.size W0)
  have hop' := Lib.hid hop
  clear hop
  go_enter Tryz.func30, Tryz.ntmps30
  go_wp2_with (fail)
  rw [← hW0]
  clear hW0
  obtain ⟨p0, p1, p2, p3⟩ := KP.out.cells
  have i0 := blk_cell KI.out 0 _ rfl
  have i1 := blk_cell KI.out 1 _ rfl
  have i2 := blk_cell KI.out 2 _ rfl
  go_region_held3 (fun w' => w'.cell? ⟨w.heap.size, 0, none⟩ = some (.slice x p.types.length k) ∧ w'.cell? ⟨w.heap.size, 1, none⟩ = some (str p.locals) ∧ w'.cell? ⟨w.heap.size, 2, none⟩ = some (str p.globs) ∧ w'.cell? ⟨w.heap.size, 3, none⟩ = some (.slice x' p.code.length k') ∧ w'.cell? ⟨w.heap.size + 1, 1, none⟩ = some (.int .u8 a) ∧ w'.cell? ⟨w.heap.size + 1, 2, none⟩ = some (.int .u8 b)) (go_keep) (first
    | (go_at_call 45; ((with_reducible refine (HLA.out _ ?_).mono ?_); (first | exact HB.out.drew | exact HB.out); rintro e w5 ⟨rfl, hb⟩; have HB5 := Lib.hid (HB.out.drew.trans (hb.mono HB.out.size)); have KP5 := Lib.hid (Keep.below (W := W0.drew) (⟨KP.out.1, KP.out.2.below (Below.refl _ _).drew⟩) hb); have KI5 := Lib.hid (blk_below (show blk W0.drew (w.heap.size + 1) #[.int .u8 op, .int .u8 a, .int .u8 b, .int .u8 c, .int .i64 n] 46 from KI.out) hb); clear hb p0 p1 p2 p3 i0 i1 i2; obtain ⟨p0, p1, p2, p3⟩ := KP5.out.cells; have i1 := blk_cell KI5.out 1 _ rfl; have i2 := blk_cell KI5.out 2 _ rfl))
    | (go_at_call 45; ((with_reducible refine (HLB.out _ HB5.out).mono ?_); rintro e w6 ⟨rfl, hb⟩; have HB6 := Lib.hid (HB5.out.trans (hb.mono HB5.out.size)); have KP6 := Lib.hid (KP5.out.below hb); have KI6 := Lib.hid (blk_below KI5.out hb); clear hb p0 p1 p2 p3 i1 i2; obtain ⟨p0, p1, p2, p3⟩ := KP6.out.cells; have i1 := blk_cell KI6.out 1 _ rfl; have i2 := blk_cell KI6.out 2 _ rfl)))
  all_goals
    have j0 := blk_cell KI6.out 0 _ rfl
    have j3 := blk_cell KI6.out 3 _ rfl
    have j4 := blk_cell KI6.out 4 _ rfl
    clear HLA HLB KP5 KI5 HB5 HB
    have HB := Lib.hid HB6.out
    clear HB6
    have hla := hla.out
    have hlb := hlb.out
    rcases hop'.out with rfl | rfl | rfl | rfl | rfl | rfl | rfl | rfl | rfl | rfl | rfl | rfl | rfl | rfl | rfl
  · clear hla hlb
    go_wp2
    go_ret
    exact ⟨ret_bool (by rw [← hr.out]; rfl), HS.out.trans (HB.out.mono HS.out.size)⟩
  · clear hla hlb
    go_wp2
    go_ret
    exact ⟨ret_bool (by rw [← hr.out]; rfl), HS.out.trans (HB.out.mono HS.out.size)⟩
  · clear hla hlb
    go_wp2
    go_ret
    exact ⟨ret_bool (by rw [← hr.out]; rfl), HS.out.trans (HB.out.mono HS.out.size)⟩
  · clear hla hlb
    go_wp2
    go_ret
    exact ⟨ret_bool (by rw [← hr.out]; rfl), HS.out.trans (HB.out.mono HS.out.size)⟩
  · have HLA := Lib.hid hla
    clear hla hlb
    by_cases hl : 0 ≤ la
    all_goals
      go_wp2
      go_ret
      exact ⟨ret_bool (by rw [← hr.out]; unfold kindsB; simp [HLA.out]; omega), HS.out.trans (HB.out.mono HS.out.size)⟩
  · have HLA := Lib.hid hla
    clear hla hlb
    by_cases hl : 0 ≤ la
    all_goals
      go_wp2
      go_ret
      exact ⟨ret_bool (by rw [← hr.out]; unfold kindsB; simp [HLA.out]; omega), HS.out.trans (HB.out.mono HS.out.size)⟩
  · have HLA := Lib.hid hla
    have HLB := Lib.hid hlb
    clear hla hlb
    go_wp2_with (go_at_call 52; refine (one_n la lb _ _ rfl).mono ?_; rintro e w' ⟨rfl, rfl⟩)
    go_ret
    exact ⟨ret_bool (by rw [← hr.out]; unfold kindsB; simp [HLA.out, HLB.out]), HS.out.trans (HB.out.mono HS.out.size)⟩
  · have HT := Lib.hid hlb
    clear hla hlb
    by_cases hl : 0 ≤ lb
    · go_wp2_with (first
        | (refine wpList_loadB rfl 25 _ rfl w.heap.size (progC (.slice x p.types.length k) p (.slice x' p.code.length k')) rfl 25 KP6.out.blk _ Tryz.underlying25 rfl prog_info ?_)
        | (go_at_call 53; refine (HNU.out _ lb HB.out).mono ?_; rintro e w8 ⟨rfl, hb8⟩))
      go_ret
      have hz := HB.out.size
      exact ⟨ret_bool (by rw [← hr.out]; show _ = (decide (0 ≤ localI p b) && numF p.types (localI p b) n); rw [HT.out, decide_eq_true hl, Bool.true_and]), HS.out.trans ((HB.out.trans (hb8.mono hz)).mono HS.out.size)⟩
    · go_wp2
      go_ret
      exact ⟨ret_bool (by rw [← hr.out]; show _ = (decide (0 ≤ localI p b) && numF p.types (localI p b) n); rw [HT.out, decide_eq_false (show ¬ 0 ≤ lb by omega), Bool.false_and]), HS.out.trans (HB.out.mono HS.out.size)⟩
  · have HT := Lib.hid hla
    clear hla hlb
    by_cases hl : 0 ≤ la
    · go_wp2_with (first
        | (refine wpList_loadB rfl 25 _ rfl w.heap.size (progC (.slice x p.types.length k) p (.slice x' p.code.length k')) rfl 25 KP6.out.blk _ Tryz.underlying25 rfl prog_info ?_)
        | (go_at_call 53; refine (HNU.out _ la HB.out).mono ?_; rintro e w8 ⟨rfl, hb8⟩))
      go_ret
      have hz := HB.out.size
      exact ⟨ret_bool (by rw [← hr.out]; show _ = (decide (0 ≤ localI p a) && numF p.types (localI p a) n); rw [HT.out, decide_eq_true hl, Bool.true_and]), HS.out.trans ((HB.out.trans (hb8.mono hz)).mono HS.out.size)⟩
    · go_wp2
      go_ret
      exact ⟨ret_bool (by rw [← hr.out]; show _ = (decide (0 ≤ localI p a) && numF p.types (localI p a) n); rw [HT.out, decide_eq_false (show ¬ 0 ≤ la by omega), Bool.false_and]), HS.out.trans (HB.out.mono HS.out.size)⟩
  · have HT := Lib.hid hlb
    have HX := Lib.hid hla
    clear hla hlb
    by_cases hl : 0 ≤ lb
    · go_wp2_with (first
        | (refine wpList_loadB rfl 25 _ rfl w.heap.size (progC (.slice x p.types.length k) p (.slice x' p.code.length k')) rfl 25 KP6.out.blk _ Tryz.underlying25 rfl prog_info ?_)
        | (go_at_call 54; refine (HPT.out _ lb HB.out).mono ?_; rintro e w8 ⟨rfl, hb8⟩)
        | (go_at_call 52; refine (one_n la _ _ _ rfl).mono ?_; rintro e w' ⟨rfl, rfl⟩))
      go_ret
      have hz := HB.out.size
      exact ⟨ret_bool (by rw [← hr.out]; show _ = (decide (0 ≤ localI p b) && sameT (localI p a) (toP p.types (localI p b) n)); rw [HT.out, HX.out, decide_eq_true hl, Bool.true_and]), HS.out.trans ((HB.out.trans (hb8.mono hz)).mono HS.out.size)⟩
    · go_wp2
      go_ret
      exact ⟨ret_bool (by rw [← hr.out]; show _ = (decide (0 ≤ localI p b) && sameT (localI p a) (toP p.types (localI p b) n)); rw [HT.out, decide_eq_false (show ¬ 0 ≤ lb by omega), Bool.false_and]), HS.out.trans (HB.out.mono HS.out.size)⟩
  · have HT := Lib.hid hla
    have HX := Lib.hid hlb
    clear hla hlb
    by_cases hl : 0 ≤ la
    · go_wp2_with (first
        | (refine wpList_loadB rfl 25 _ rfl w.heap.size (progC (.slice x p.types.length k) p (.slice x' p.code.length k')) rfl 25 KP6.out.blk _ Tryz.underlying25 rfl prog_info ?_)
        | (go_at_call 54; refine (HPT.out _ la HB.out).mono ?_; rintro e w8 ⟨rfl, hb8⟩)
        | (go_at_call 52; refine (one_n lb _ _ _ rfl).mono ?_; rintro e w' ⟨rfl, rfl⟩))
      go_ret
      have hz := HB.out.size
      exact ⟨ret_bool (by rw [← hr.out]; show _ = (decide (0 ≤ localI p a) && sameT (localI p b) (toP p.types (localI p a) n)); rw [HT.out, HX.out, decide_eq_true hl, Bool.true_and]), HS.out.trans ((HB.out.trans (hb8.mono hz)).mono HS.out.size)⟩
    · go_wp2
      go_ret
      exact ⟨ret_bool (by rw [← hr.out]; show _ = (decide (0 ≤ localI p a) && sameT (localI p b) (toP p.types (localI p a) n)); rw [HT.out, decide_eq_false (show ¬ 0 ≤ la by omega), Bool.false_and]), HS.out.trans (HB.out.mono HS.out.size)⟩
  · have HX := Lib.hid hla
    clear hla hlb
    go_wp2_with (first
      | (refine wpList_loadB rfl 25 _ rfl w.heap.size (progC (.slice x p.types.length k) p (.slice x' p.code.length k')) rfl 25 KP6.out.blk _ Tryz.underlying25 rfl prog_info ?_)
      | (go_at_call 55; refine (HGL.out _ b HB.out b0 b1).mono ?_; rintro e w8 ⟨rfl, hb8⟩)
      | (go_at_call 52; refine (one_n la _ _ _ rfl).mono ?_; rintro e w' ⟨rfl, rfl⟩))
    go_ret
    have hz := HB.out.size
    exact ⟨ret_bool (by rw [← hr.out]; unfold kindsB; simp [HX.out]), HS.out.trans ((HB.out.trans (hb8.mono hz)).mono HS.out.size)⟩
  · have HX := Lib.hid hlb
    clear hla hlb
    go_wp2_with (first
      | (refine wpList_loadB rfl 25 _ rfl w.heap.size (progC (.slice x p.types.length k) p (.slice x' p.code.length k')) rfl 25 KP6.out.blk _ Tryz.underlying25 rfl prog_info ?_)
      | (go_at_call 55; refine (HGL.out _ a HB.out a0 a1).mono ?_; rintro e w8 ⟨rfl, hb8⟩)
      | (go_at_call 52; refine (one_n lb _ _ _ rfl).mono ?_; rintro e w' ⟨rfl, rfl⟩))
    go_ret
    have hz := HB.out.size
    exact ⟨ret_bool (by rw [← hr.out]; unfold kindsB; simp [HX.out]), HS.out.trans ((HB.out.trans (hb8.mono hz)).mono HS.out.size)⟩
  · clear hla hlb
    go_wp2
    go_ret
    exact ⟨ret_bool (by rw [← hr.out]; rfl), HS.out.trans (HB.out.mono HS.out.size)⟩
  · have HX := Lib.hid hlb
    clear hla hlb
    go_wp2_with (first
      | (refine wpList_loadB rfl 25 _ rfl w.heap.size (progC (.slice x p.types.length k) p (.slice x' p.code.length k')) rfl 25 KP6.out.blk _ Tryz.underlying25 rfl prog_info ?_)
      | (go_at_call 45; refine (HLC.out _ HB.out).mono ?_; rintro e w8 ⟨rfl, hb8⟩)
      | (go_at_call 52; refine (one_n lb _ _ _ rfl).mono ?_; rintro e w' ⟨rfl, rfl⟩))
    go_ret
    have hz := HB.out.size
    exact ⟨ret_bool (by rw [← hr.out]; unfold kindsB; simp [HX.out]), HS.out.trans ((HB.out.trans (hb8.mono hz)).mono HS.out.size)⟩

theorem rkinds_n (v : Value) (p : PProg) (i : PIns) (r : Bool) (w : World) (h : ProgAt w v p) (hs : OkP p) (hi : OkI i) (hR : rightL i = true) (hlo : p.locals.length ≤ 200) (hgl : p.globs.length ≤ 200) (hr : kindsB p i = r) : Calls Tryz.prog 30 #[v, insV i] w (AggPost w (.bool r)) := by
  have hop := right_op hR
  obtain ⟨vt, vc, rfl, ht, hc⟩ := id h
  obtain ⟨x, k, rfl, -, -, -⟩ := id ht.elems
  obtain ⟨x', k', rfl, -, -, -⟩ := id hc
  obtain ⟨op, a, b, c, n⟩ := i
  obtain ⟨o0, o1, a0, a1, b0, b1, c0, c1, n0, n1⟩ := hi
  simp only at *
  have hsz : (w.alloc (.cells #[.slice x p.types.length k, str p.locals, str p.globs, .slice x' p.code.length k'] 25)).heap.size = w.heap.size + 1 := World.size_alloc _ _
  have hwb : Below w.heap.size w ((w.alloc (.cells #[.slice x p.types.length k, str p.locals, str p.globs, .slice x' p.code.length k'] 25)).alloc (.cells #[.int .u8 op, .int .u8 a, .int .u8 b, .int .u8 c, .int .i64 n] 46)) := ((Below.refl _ _).alloc (Nat.le_refl _) _).alloc (by omega) _
  have kp : Keep ((w.alloc (.cells #[.slice x p.types.length k, str p.locals, str p.globs, .slice x' p.code.length k'] 25)).alloc (.cells #[.int .u8 op, .int .u8 a, .int .u8 b, .int .u8 c, .int .i64 n] 46)) w.heap.size (.slice x p.types.length k) (.slice x' p.code.length k') p := (keep_new h).below ((Below.refl _ _).alloc (Nat.le_refl _) _)
  have ki : blk ((w.alloc (.cells #[.slice x p.types.length k, str p.locals, str p.globs, .slice x' p.code.length k'] 25)).alloc (.cells #[.int .u8 op, .int .u8 a, .int .u8 b, .int .u8 c, .int .i64 n] 46)) (w.heap.size + 1) #[.int .u8 op, .int .u8 a, .int .u8 b, .int .u8 c, .int .i64 n] 46 := by rw [← hsz]; exact blk_new _ _ _
  generalize hW0 : ((w.alloc (.cells #[.slice x p.types.length k, str p.locals, str p.globs, .slice x' p.code.length k'] 25)).alloc (.cells #[.int .u8 op, .int .u8 a, .int .u8 b, .int .u8 c, .int .i64 n] 46)) = W0 at hwb kp ki
  have hp := kp.at'
  exact rkinds_at w W0 p op a b c n (localI p a) (localI p b) x x' k k' r hW0.symm (Lib.hid kp) (Lib.hid ki) (Lib.hid hwb) a0 a1 b0 b1 c0 c1 n0 n1 names_le.1 names_le.2 names_le.1 names_le.2 hop
    (Lib.hid fun w1 hb => rlocal_n _ p a _ w1 (hp.below hb) hs hlo a0 a1 rfl) (Lib.hid fun w1 hb => rlocal_n _ p b _ w1 (hp.below hb) hs hlo b0 b1 rfl) (Lib.hid fun w1 hb => rlocal_n _ p c _ w1 (hp.below hb) hs hlo c0 c1 rfl)
    (Lib.hid fun w1 a hb h0 h1 => rglob_n _ p a _ w1 (hp.below hb) hs hgl h0 h1 rfl) (Lib.hid fun w1 t hb => rnum_n _ p t n _ w1 (hp.below hb) hs rfl) (Lib.hid fun w1 t hb => rpts_n _ p t n _ w1 (hp.below hb) hs rfl)
    (Lib.hid rfl) (Lib.hid rfl) (Lib.hid hr)
end Go.Proofs.YtapjgobkpehgfaaGreatDoor

/- The document's shape and part: contracts. -/
namespace Go.Proofs.YtapjgobkpehgfaaGreatDoor
set_option linter.unusedSimpArgs false
set_option linter.unusedVariables false
open Go.RowKit

def low (c : UInt8) : UInt8 := c + 32
/-- What shape answers. -/
def shapeL (op : Int) : Bs × Bs := match byOpL op with
  | none => ([], [])
  | some o => (o.2.1, o.2.2.map low)
theorem shapeL_some {op : Int} {o : Int × Bs × Bs} (h : byOpL op = some o) : shapeL op = (o.2.1, o.2.2.map low) := by unfold shapeL; rw [h]
def PairV (x : Bs × Bs) : Value := .tuple #[str x.1, str x.2]
theorem shape_none {op : Int} (h : op < 1 ∨ 15 < op) : shapeL op = ([], []) := by
  have : byOpL op = none := by
    unfold byOpL
    rw [List.find?_eq_none]
    intro o ho
    obtain ⟨h1, h2, _⟩ := ops_cases ho
    simp only [beq_iff_eq]
    omega
  unfold shapeL; rw [this]

set_option maxRecDepth 100000 in
theorem rest_any (op : Int) (w : World) (h : op < 1 ∨ 10 < op) : Calls Tryz.prog 74 #[.int .u8 op] w fun e w' => e = .returned (PairV (shapeL op)) ∧ w = w' := by
  by_cases e11 : op = 11
  · subst e11
    go_enter Tryz.func74, Tryz.ntmps74
    go_wp2
    go_ret2
    exact ⟨rfl, rfl⟩
  by_cases e12 : op = 12
  · subst e12
    go_enter Tryz.func74, Tryz.ntmps74
    go_wp2
    go_ret2
    exact ⟨rfl, rfl⟩
  by_cases e13 : op = 13
  · subst e13
    go_enter Tryz.func74, Tryz.ntmps74
    go_wp2
    go_ret2
    exact ⟨rfl, rfl⟩
  by_cases e14 : op = 14
  · subst e14
    go_enter Tryz.func74, Tryz.ntmps74
    go_wp2
    go_ret2
    exact ⟨rfl, rfl⟩
  by_cases e15 : op = 15
  · subst e15
    go_enter Tryz.func74, Tryz.ntmps74
    go_wp2
    go_ret2
    exact ⟨rfl, rfl⟩
  have n11 : (op == 11) = false := by simpa using e11
  have n12 : (op == 12) = false := by simpa using e12
  have n13 : (op == 13) = false := by simpa using e13
  have n14 : (op == 14) = false := by simpa using e14
  have n15 : (op == 15) = false := by simpa using e15
  rw [shape_none (by omega)]
  clear h
  go_enter Tryz.func74, Tryz.ntmps74
  go_wp2
  go_ret2
  exact ⟨rfl, rfl⟩
set_option maxRecDepth 100000 in
theorem shape_any (op : Int) (w : World) : Calls Tryz.prog 49 #[.int .u8 op] w fun e w' => e = .returned (PairV (shapeL op)) ∧ w = w' := by
  by_cases e1 : op = 1
  · subst e1
    go_enter Tryz.func49, Tryz.ntmps49
    go_wp2
    go_ret2
    exact ⟨rfl, rfl⟩
  by_cases e2 : op = 2
  · subst e2
    go_enter Tryz.func49, Tryz.ntmps49
    go_wp2
    go_ret2
    exact ⟨rfl, rfl⟩
  by_cases e3 : op = 3
  · subst e3
    go_enter Tryz.func49, Tryz.ntmps49
    go_wp2
    go_ret2
    exact ⟨rfl, rfl⟩
  by_cases e4 : op = 4
  · subst e4
    go_enter Tryz.func49, Tryz.ntmps49
    go_wp2
    go_ret2
    exact ⟨rfl, rfl⟩
  by_cases e5 : op = 5
  · subst e5
    go_enter Tryz.func49, Tryz.ntmps49
    go_wp2
    go_ret2
    exact ⟨rfl, rfl⟩
  by_cases e6 : op = 6
  · subst e6
    go_enter Tryz.func49, Tryz.ntmps49
    go_wp2
    go_ret2
    exact ⟨rfl, rfl⟩
  by_cases e7 : op = 7
  · subst e7
    go_enter Tryz.func49, Tryz.ntmps49
    go_wp2
    go_ret2
    exact ⟨rfl, rfl⟩
  by_cases e8 : op = 8
  · subst e8
    go_enter Tryz.func49, Tryz.ntmps49
    go_wp2
    go_ret2
    exact ⟨rfl, rfl⟩
  by_cases e9 : op = 9
  · subst e9
    go_enter Tryz.func49, Tryz.ntmps49
    go_wp2
    go_ret2
    exact ⟨rfl, rfl⟩
  by_cases e10 : op = 10
  · subst e10
    go_enter Tryz.func49, Tryz.ntmps49
    go_wp2
    go_ret2
    exact ⟨rfl, rfl⟩
  have n1 : (op == 1) = false := by simpa using e1
  have n2 : (op == 2) = false := by simpa using e2
  have n3 : (op == 3) = false := by simpa using e3
  have n4 : (op == 4) = false := by simpa using e4
  have n5 : (op == 5) = false := by simpa using e5
  have n6 : (op == 6) = false := by simpa using e6
  have n7 : (op == 7) = false := by simpa using e7
  have n8 : (op == 8) = false := by simpa using e8
  have n9 : (op == 9) = false := by simpa using e9
  have n10 : (op == 10) = false := by simpa using e10
  have hr := rest_any op w (by omega)
  generalize shapeL op = x at hr ⊢
  obtain ⟨x, y⟩ := x
  unfold PairV at hr ⊢
  simp only at hr ⊢
  go_enter Tryz.func49, Tryz.ntmps49
  go_wp2_with (go_at_call 74; refine hr.mono ?_; rintro e w1 ⟨rfl, rfl⟩)
  go_ret2
  exact ⟨rfl, rfl⟩

set_option maxRecDepth 100000 in
theorem part_low (i : PIns) (c : UInt8) (w : World) (hi : OkI i) (h : c = 65 ∨ c = 66 ∨ c = 67 ∨ c = 78) : Calls Tryz.prog 78 #[insV i, .int .u8 (low c).toNat] w (AggPost w (.int .i64 (partL i c))) := by
  obtain ⟨x, a, b, c', n⟩ := i
  obtain ⟨o0, o1, a0, a1, b0, b1, c0, c1, n0, n1⟩ := hi
  simp only at *
  rcases h with rfl | rfl | rfl | rfl
  · rw [show (((low 65).toNat : Nat) : Int) = 97 from rfl, show partL ⟨x, a, b, c', n⟩ 65 = a from rfl]
    go_enter Tryz.func78, Tryz.ntmps78
    go_wp2
    go_ret
    exact ⟨rfl, (Below.refl _ _).alloc (Nat.le_refl _) _⟩
  · rw [show (((low 66).toNat : Nat) : Int) = 98 from rfl, show partL ⟨x, a, b, c', n⟩ 66 = b from rfl]
    go_enter Tryz.func78, Tryz.ntmps78
    go_wp2
    go_ret
    exact ⟨rfl, (Below.refl _ _).alloc (Nat.le_refl _) _⟩
  · rw [show (((low 67).toNat : Nat) : Int) = 99 from rfl, show partL ⟨x, a, b, c', n⟩ 67 = c' from rfl]
    go_enter Tryz.func78, Tryz.ntmps78
    go_wp2
    go_ret
    exact ⟨rfl, (Below.refl _ _).alloc (Nat.le_refl _) _⟩
  · rw [show (((low 78).toNat : Nat) : Int) = 110 from rfl, show partL ⟨x, a, b, c', n⟩ 78 = n from rfl]
    go_enter Tryz.func78, Tryz.ntmps78
    go_wp2
    go_ret
    exact ⟨rfl, (Below.refl _ _).alloc (Nat.le_refl _) _⟩

/-! ### letters, or -/
end Go.Proofs.YtapjgobkpehgfaaGreatDoor

/- The contract of the document's with. -/
namespace Go.Proofs.YtapjgobkpehgfaaGreatDoor
set_option linter.unusedSimpArgs false
set_option linter.unusedVariables false
open Go.RowKit

def WithPost (w : World) (j : PIns) (b : Bool) (e : Ending) (w' : World) : Prop := e = .returned (.tuple #[insV j, .bool b]) ∧ Below w.heap.size w w'
set_option maxRecDepth 100000 in
set_option maxHeartbeats 2000000 in
theorem with_n (i : PIns) (n : Int) (w : World) : Calls Tryz.prog 76 #[insV i, .int .u8 110, .int .i64 n] w (WithPost w (setL i 78 n) true) := by
  obtain ⟨x, a, b, c, m⟩ := i
  go_enter Tryz.func76, Tryz.ntmps76
  go_wp2
  refine bodyPost_ret (v := .tuple #[insV ⟨x, a, b, c, n⟩, .bool true]) ?_ rfl ⟨rfl, ((Below.refl _ _).alloc (Nat.le_refl _) _).alloc (by simp) _⟩
  have hb := blk_new (w.alloc (.cells (insC ⟨x, a, b, c, n⟩) 46)) (insC ⟨x, a, b, c, n⟩) 46
  rw [World.size_alloc] at hb
  rw [res_cell1 (p := 6) (u := 7) rfl _ _ (w.heap.size + 1) (insC ⟨x, a, b, c, n⟩) 46 _ rfl hb Tryz.underlying46 rfl ins_info]; rfl
set_option maxRecDepth 100000 in
set_option maxHeartbeats 2000000 in
theorem with_a (i : PIns) (n : Int) (w : World) (h0 : 0 ≤ n) (h1 : n ≤ 255) : Calls Tryz.prog 76 #[insV i, .int .u8 97, .int .i64 n] w (WithPost w (setL i 65 n) true) := by
  obtain ⟨x, a, b, c, m⟩ := i
  go_enter Tryz.func76, Tryz.ntmps76
  go_wp2
  refine bodyPost_ret (v := .tuple #[insV ⟨x, n, b, c, m⟩, .bool true]) ?_ rfl ⟨rfl, ((Below.refl _ _).alloc (Nat.le_refl _) _).alloc (by simp) _⟩
  have hb := blk_new (w.alloc (.cells (insC ⟨x, n, b, c, m⟩) 46)) (insC ⟨x, n, b, c, m⟩) 46
  rw [World.size_alloc] at hb
  rw [res_cell1 (p := 6) (u := 7) rfl _ _ (w.heap.size + 1) (insC ⟨x, n, b, c, m⟩) 46 _ rfl hb Tryz.underlying46 rfl ins_info]; rfl
set_option maxRecDepth 100000 in
set_option maxHeartbeats 2000000 in
theorem with_b (i : PIns) (n : Int) (w : World) (h0 : 0 ≤ n) (h1 : n ≤ 255) : Calls Tryz.prog 76 #[insV i, .int .u8 98, .int .i64 n] w (WithPost w (setL i 66 n) true) := by
  obtain ⟨x, a, b, c, m⟩ := i
  go_enter Tryz.func76, Tryz.ntmps76
  go_wp2
  refine bodyPost_ret (v := .tuple #[insV ⟨x, a, n, c, m⟩, .bool true]) ?_ rfl ⟨rfl, ((Below.refl _ _).alloc (Nat.le_refl _) _).alloc (by simp) _⟩
  have hb := blk_new (w.alloc (.cells (insC ⟨x, a, n, c, m⟩) 46)) (insC ⟨x, a, n, c, m⟩) 46
  rw [World.size_alloc] at hb
  rw [res_cell1 (p := 6) (u := 7) rfl _ _ (w.heap.size + 1) (insC ⟨x, a, n, c, m⟩) 46 _ rfl hb Tryz.underlying46 rfl ins_info]; rfl
set_option maxRecDepth 100000 in
set_option maxHeartbeats 2000000 in
theorem with_c (i : PIns) (n : Int) (w : World) (h0 : 0 ≤ n) (h1 : n ≤ 255) : Calls Tryz.prog 76 #[insV i, .int .u8 99, .int .i64 n] w (WithPost w (setL i 67 n) true) := by
  obtain ⟨x, a, b, c, m⟩ := i
  go_enter Tryz.func76, Tryz.ntmps76
  go_wp2
  refine bodyPost_ret (v := .tuple #[insV ⟨x, a, b, n, m⟩, .bool true]) ?_ rfl ⟨rfl, ((Below.refl _ _).alloc (Nat.le_refl _) _).alloc (by simp) _⟩
  have hb := blk_new (w.alloc (.cells (insC ⟨x, a, b, n, m⟩) 46)) (insC ⟨x, a, b, n, m⟩) 46
  rw [World.size_alloc] at hb
  rw [res_cell1 (p := 6) (u := 7) rfl _ _ (w.heap.size + 1) (insC ⟨x, a, b, n, m⟩) 46 _ rfl hb Tryz.underlying46 rfl ins_info]; rfl
set_option maxRecDepth 100000 in
set_option maxHeartbeats 2000000 in
theorem with_l97 (i : PIns) (n : Int) (w : World) (h0 : n < 0) : Calls Tryz.prog 76 #[insV i, .int .u8 97, .int .i64 n] w (WithPost w i false) := by
  obtain ⟨x, a, b, c, m⟩ := i
  go_enter Tryz.func76, Tryz.ntmps76
  go_wp2
  refine bodyPost_ret (v := .tuple #[insV ⟨x, a, b, c, m⟩, .bool false]) ?_ rfl ⟨rfl, ((Below.refl _ _).alloc (Nat.le_refl _) _).alloc (by simp) _⟩
  have hb := blk_new (w.alloc (.cells (insC ⟨x, a, b, c, m⟩) 46)) (insC ⟨x, a, b, c, m⟩) 46
  rw [World.size_alloc] at hb
  rw [res_cell1 (p := 6) (u := 7) rfl _ _ (w.heap.size + 1) (insC ⟨x, a, b, c, m⟩) 46 _ rfl hb Tryz.underlying46 rfl ins_info]; rfl
set_option maxRecDepth 100000 in
set_option maxHeartbeats 2000000 in
theorem with_g97 (i : PIns) (n : Int) (w : World) (h0 : 255 < n) : Calls Tryz.prog 76 #[insV i, .int .u8 97, .int .i64 n] w (WithPost w i false) := by
  obtain ⟨x, a, b, c, m⟩ := i
  go_enter Tryz.func76, Tryz.ntmps76
  go_wp2
  refine bodyPost_ret (v := .tuple #[insV ⟨x, a, b, c, m⟩, .bool false]) ?_ rfl ⟨rfl, ((Below.refl _ _).alloc (Nat.le_refl _) _).alloc (by simp) _⟩
  have hb := blk_new (w.alloc (.cells (insC ⟨x, a, b, c, m⟩) 46)) (insC ⟨x, a, b, c, m⟩) 46
  rw [World.size_alloc] at hb
  rw [res_cell1 (p := 6) (u := 7) rfl _ _ (w.heap.size + 1) (insC ⟨x, a, b, c, m⟩) 46 _ rfl hb Tryz.underlying46 rfl ins_info]; rfl
set_option maxRecDepth 100000 in
set_option maxHeartbeats 2000000 in
theorem with_l98 (i : PIns) (n : Int) (w : World) (h0 : n < 0) : Calls Tryz.prog 76 #[insV i, .int .u8 98, .int .i64 n] w (WithPost w i false) := by
  obtain ⟨x, a, b, c, m⟩ := i
  go_enter Tryz.func76, Tryz.ntmps76
  go_wp2
  refine bodyPost_ret (v := .tuple #[insV ⟨x, a, b, c, m⟩, .bool false]) ?_ rfl ⟨rfl, ((Below.refl _ _).alloc (Nat.le_refl _) _).alloc (by simp) _⟩
  have hb := blk_new (w.alloc (.cells (insC ⟨x, a, b, c, m⟩) 46)) (insC ⟨x, a, b, c, m⟩) 46
  rw [World.size_alloc] at hb
  rw [res_cell1 (p := 6) (u := 7) rfl _ _ (w.heap.size + 1) (insC ⟨x, a, b, c, m⟩) 46 _ rfl hb Tryz.underlying46 rfl ins_info]; rfl
set_option maxRecDepth 100000 in
set_option maxHeartbeats 2000000 in
theorem with_g98 (i : PIns) (n : Int) (w : World) (h0 : 255 < n) : Calls Tryz.prog 76 #[insV i, .int .u8 98, .int .i64 n] w (WithPost w i false) := by
  obtain ⟨x, a, b, c, m⟩ := i
  go_enter Tryz.func76, Tryz.ntmps76
  go_wp2
  refine bodyPost_ret (v := .tuple #[insV ⟨x, a, b, c, m⟩, .bool false]) ?_ rfl ⟨rfl, ((Below.refl _ _).alloc (Nat.le_refl _) _).alloc (by simp) _⟩
  have hb := blk_new (w.alloc (.cells (insC ⟨x, a, b, c, m⟩) 46)) (insC ⟨x, a, b, c, m⟩) 46
  rw [World.size_alloc] at hb
  rw [res_cell1 (p := 6) (u := 7) rfl _ _ (w.heap.size + 1) (insC ⟨x, a, b, c, m⟩) 46 _ rfl hb Tryz.underlying46 rfl ins_info]; rfl
set_option maxRecDepth 100000 in
set_option maxHeartbeats 2000000 in
theorem with_l99 (i : PIns) (n : Int) (w : World) (h0 : n < 0) : Calls Tryz.prog 76 #[insV i, .int .u8 99, .int .i64 n] w (WithPost w i false) := by
  obtain ⟨x, a, b, c, m⟩ := i
  go_enter Tryz.func76, Tryz.ntmps76
  go_wp2
  refine bodyPost_ret (v := .tuple #[insV ⟨x, a, b, c, m⟩, .bool false]) ?_ rfl ⟨rfl, ((Below.refl _ _).alloc (Nat.le_refl _) _).alloc (by simp) _⟩
  have hb := blk_new (w.alloc (.cells (insC ⟨x, a, b, c, m⟩) 46)) (insC ⟨x, a, b, c, m⟩) 46
  rw [World.size_alloc] at hb
  rw [res_cell1 (p := 6) (u := 7) rfl _ _ (w.heap.size + 1) (insC ⟨x, a, b, c, m⟩) 46 _ rfl hb Tryz.underlying46 rfl ins_info]; rfl
set_option maxRecDepth 100000 in
set_option maxHeartbeats 2000000 in
theorem with_g99 (i : PIns) (n : Int) (w : World) (h0 : 255 < n) : Calls Tryz.prog 76 #[insV i, .int .u8 99, .int .i64 n] w (WithPost w i false) := by
  obtain ⟨x, a, b, c, m⟩ := i
  go_enter Tryz.func76, Tryz.ntmps76
  go_wp2
  refine bodyPost_ret (v := .tuple #[insV ⟨x, a, b, c, m⟩, .bool false]) ?_ rfl ⟨rfl, ((Below.refl _ _).alloc (Nat.le_refl _) _).alloc (by simp) _⟩
  have hb := blk_new (w.alloc (.cells (insC ⟨x, a, b, c, m⟩) 46)) (insC ⟨x, a, b, c, m⟩) 46
  rw [World.size_alloc] at hb
  rw [res_cell1 (p := 6) (u := 7) rfl _ _ (w.heap.size + 1) (insC ⟨x, a, b, c, m⟩) 46 _ rfl hb Tryz.underlying46 rfl ins_info]; rfl

/-- May a letter be given this number? -/
def roomL (c : UInt8) (n : Int) : Bool := decide (c = 78) || (decide (0 ≤ n) && decide (n ≤ 255))
theorem with_any (i : PIns) (c : UInt8) (n : Int) (w : World) (h : c = 65 ∨ c = 66 ∨ c = 67 ∨ c = 78) :
    Calls Tryz.prog 76 #[insV i, .int .u8 (low c).toNat, .int .i64 n] w (WithPost w (if roomL c n then setL i c n else i) (roomL c n)) := by
  by_cases h78 : c = 78
  · subst h78; exact with_n i n w
  · have h' : c = 65 ∨ c = 66 ∨ c = 67 := by rcases h with h | h | h | h <;> simp_all
    by_cases h0 : 0 ≤ n
    · by_cases h1 : n ≤ 255
      · have e : roomL c n = true := by unfold roomL; simp [h0, h1]
        rw [e, if_pos rfl]
        rcases h' with rfl | rfl | rfl
        · exact with_a i n w h0 h1
        · exact with_b i n w h0 h1
        · exact with_c i n w h0 h1
      · have e : roomL c n = false := by unfold roomL; simp [h78, h1]
        rw [e, if_neg (by simp)]
        rcases h' with rfl | rfl | rfl
        · exact with_g97 i n w (by omega)
        · exact with_g98 i n w (by omega)
        · exact with_g99 i n w (by omega)
    · have e : roomL c n = false := by unfold roomL; simp [h78, h0]
      rw [e, if_neg (by simp)]
      rcases h' with rfl | rfl | rfl
      · exact with_l97 i n w (by omega)
      · exact with_l98 i n w (by omega)
      · exact with_l99 i n w (by omega)
theorem fit_room (c : UInt8) (w : Bs) : fitL c w = (decide ((numL w).2 = 0) && roomL c (numL w).1) := rfl
end Go.Proofs.YtapjgobkpehgfaaGreatDoor
