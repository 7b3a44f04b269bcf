/-
  The contract of namesFit.
-/
import Derived.Test.YtapjgobkpehgfaaGreatDoorUAL
import Derived.Test.YtapjgobkpehgfaaGreatDoorCRight
import Derived.Deep.RegionHeld3
namespace Go.Proofs.YtapjgobkpehgfaaGreatDoor
set_option linter.unusedSimpArgs false
set_option linter.unusedVariables false
open Go.RowKit

theorem one_of (w : World) (a : Int) (T : TypeId) : Hid (∀ j x, [a][j]? = some x → (w.alloc (.cells #[.int .u8 a] T)).cell? ⟨w.heap.size, j, none⟩ = some (.int .u8 x)) := Lib.hid fun j x h => by
  have hj : j < 1 := (List.getElem?_eq_some_iff.1 h).1
  obtain rfl : j = 0 := by omega
  obtain rfl : a = x := by simpa using h
  exact blk_cell (blk_new w #[.int .u8 a] T) 0 _ rfl
theorem three_of (w : World) (a b c : Int) (T : TypeId) : Hid (∀ j x, [a, b, c][j]? = some x → (w.alloc (.cells #[.int .u8 a, .int .u8 b, .int .u8 c] T)).cell? ⟨w.heap.size, j, none⟩ = some (.int .u8 x)) := Lib.hid fun j x h => by
  have hj : j < 3 := (List.getElem?_eq_some_iff.1 h).1
  have hc : j = 0 ∨ j = 1 ∨ j = 2 := by omega
  rcases hc with rfl | rfl | rfl
  · obtain rfl : a = x := by simpa using h
    exact blk_cell (blk_new w #[.int .u8 a, .int .u8 b, .int .u8 c] T) 0 _ rfl
  · obtain rfl : b = x := by simpa using h
    exact blk_cell (blk_new w #[.int .u8 a, .int .u8 b, .int .u8 c] T) 1 _ rfl
  · obtain rfl : c = x := by simpa using h
    exact blk_cell (blk_new w #[.int .u8 a, .int .u8 b, .int .u8 c] T) 2 _ rfl
theorem ints_1 (a : Int) (r : Bool) (T : TypeId) (w : World) (h0 : 0 ≤ a) (h1 : a ≤ 255) (hr : Hid (decide (a < 8) = r)) : Calls Tryz.prog 103 #[.slice (some ⟨w.heap.size, 0, none⟩) 1 1] (w.alloc (.cells #[.int .u8 a] T)) fun e w' => e = .returned (.bool r) ∧ w.alloc (.cells #[.int .u8 a] T) = w' :=
  ints_b w.heap.size [a] r _ (one_of w a T) (Lib.hid fun x hx => by simp at hx; subst hx; exact ⟨h0, h1⟩) (by simp) (Lib.hid (by rw [← hr.out]; simp))
theorem ints_3 (a b c : Int) (r : Bool) (T : TypeId) (w : World) (ha : 0 ≤ a ∧ a ≤ 255) (hb : 0 ≤ b ∧ b ≤ 255) (hc : 0 ≤ c ∧ c ≤ 255) (hr : Hid ((decide (a < 8) && decide (b < 8) && decide (c < 8)) = r)) : Calls Tryz.prog 103 #[.slice (some ⟨w.heap.size, 0, none⟩) 3 3] (w.alloc (.cells #[.int .u8 a, .int .u8 b, .int .u8 c] T)) fun e w' => e = .returned (.bool r) ∧ w.alloc (.cells #[.int .u8 a, .int .u8 b, .int .u8 c] T) = w' :=
  ints_b w.heap.size [a, b, c] r _ (three_of w a b c T) (Lib.hid fun x hx => by simp at hx; rcases hx with rfl | rfl | rfl <;> assumption) (by simp) (Lib.hid (by rw [← hr.out]; simp [Bool.and_assoc]))
theorem num_neg {ts : List Bs} {t n : Int} (h : t < 0) : numF ts t n = false := by
  unfold numF sizeP sizeI
  have : oneB (tsP ts) t = false := one_no.2 (.inl (.inl h))
  rw [this]
  by_cases h0 : 0 ≤ n
  · have : ¬ n < 0 := by omega
    simp [this]
  · simp [h0]
theorem toP_neg {ts : List Bs} {t n : Int} (h : t < 0) : toP ts t n = -1 := to_not (one_no.2 (.inl (.inl h)))
theorem same_neg {s : Int} : sameT s (-1) = false := by unfold sameT; rw [Bool.eq_false_iff]; simp; omega

theorem num_k (ts : List Bs) (t n : Int) : numF ts t n = (decide (0 ≤ t) && numF ts t n) := by
  by_cases h : 0 ≤ t
  · simp [h]
  · rw [num_neg (by omega)]; simp
theorem same_k (ts : List Bs) (s t n : Int) : sameT s (toP ts t n) = (decide (0 ≤ t) && sameT s (toP ts t n)) := by
  by_cases h : 0 ≤ t
  · simp [h]
  · rw [toP_neg (by omega), same_neg]; simp

set_option maxRecDepth 100000 in
set_option maxHeartbeats 4000000 in
theorem fit_at (w W0 : World) (p : PProg) (op a b c n la lb : Int) (x x' : Option Addr) (k k' : Nat) (r : Bool)
    (hW0 : W0 = ((w.alloc (.cells #[.slice x p.types.length k, str p.locals, str p.globs, .slice x' p.code.length k'] 25)).alloc (.cells #[.int .u8 op, .int .u8 a, .int .u8 b, .int .u8 c, .int .i64 n] 46)))
    (KP : Hid (Keep W0 w.heap.size (.slice x p.types.length k) (.slice x' p.code.length k') p)) (KI : Hid (blk W0 (w.heap.size + 1) #[.int .u8 op, .int .u8 a, .int .u8 b, .int .u8 c, .int .i64 n] 46)) (HS : Hid (Below w.heap.size w W0))
    (a0 : 0 ≤ a) (a1 : a ≤ 255) (b0 : 0 ≤ b) (b1 : b ≤ 255) (c0 : 0 ≤ c) (c1 : c ≤ 255) (n0 : -9223372036854775808 ≤ n) (n1 : n ≤ 9223372036854775807) (la0 : -1 ≤ la) (la1 : la ≤ 207) (lb0 : -1 ≤ lb) (lb1 : lb ≤ 207)
    (hop : op = 1 ∨ op = 2 ∨ op = 3 ∨ op = 4 ∨ op = 5 ∨ op = 6 ∨ op = 7 ∨ op = 8 ∨ op = 9 ∨ op = 10 ∨ op = 11 ∨ op = 12 ∨ op = 13 ∨ op = 14 ∨ op = 15)
    (HLA : Hid (∀ w1, Below W0.heap.size W0 w1 → Calls Tryz.prog 95 #[.agg #[.slice x p.types.length k, str p.locals, str p.globs, .slice x' p.code.length k'], .int .u8 a] w1 (AggPost w1 (.int .i64 la))))
    (HLB : Hid (∀ w1, Below W0.heap.size W0 w1 → Calls Tryz.prog 95 #[.agg #[.slice x p.types.length k, str p.locals, str p.globs, .slice x' p.code.length k'], .int .u8 b] w1 (AggPost w1 (.int .i64 lb))))
    (HLC : Hid (∀ w1, Below W0.heap.size W0 w1 → Calls Tryz.prog 95 #[.agg #[.slice x p.types.length k, str p.locals, str p.globs, .slice x' p.code.length k'], .int .u8 c] w1 (AggPost w1 (.int .i64 (localI p c)))))
    (HGL : Hid (∀ w1 a, Below W0.heap.size W0 w1 → 0 ≤ a → a ≤ 255 → Calls Tryz.prog 107 #[.agg #[.slice x p.types.length k, str p.locals, str p.globs, .slice x' p.code.length k'], .int .u8 a] w1 (AggPost w1 (.int .i64 (globI p a)))))
    (HNU : Hid (∀ w1 t, Below W0.heap.size W0 w1 → Calls Tryz.prog 105 #[.agg #[.slice x p.types.length k, str p.locals, str p.globs, .slice x' p.code.length k'], .int .i64 t, .int .i64 n] w1 (AggPost w1 (.bool (numF p.types t n)))))
    (HPT : Hid (∀ w1 t, Below W0.heap.size W0 w1 → Calls Tryz.prog 106 #[.agg #[.slice x p.types.length k, str p.locals, str p.globs, .slice x' p.code.length k'], .int .i64 t, .int .i64 n] w1 (AggPost w1 (.int .i64 (toP p.types t n)))))
    (hla : Hid (localI p a = la)) (hlb : Hid (localI p b = lb)) (hr : Hid ((intsB ⟨op, a, b, c, n⟩ && kindsB p ⟨op, a, b, c, n⟩) = r)) :
    Calls Tryz.prog 85 #[.agg #[.slice x p.types.length k, str p.locals, str p.globs, .slice x' p.code.length k'], .agg #[.int .u8 op, .int .u8 a, .int .u8 b, .int .u8 c, .int .i64 n]] w (AggPost w (.bool r)) := by
  have HB := Lib.hid (Below.refl W0.heap.size W0)
  have hop' := Lib.hid hop
  clear hop
  go_enter Tryz.func85, Tryz.ntmps85
  go_wp2_with (fail)
  rw [← hW0]
  clear hW0
  obtain ⟨p0, p1, p2, p3⟩ := KP.out.cells
  have i0 := blk_cell KI.out 0 _ rfl
  have i1 := blk_cell KI.out 1 _ rfl
  have i2 := blk_cell KI.out 2 _ rfl
  go_region_held3 (fun w' => w'.cell? ⟨w.heap.size, 0, none⟩ = some (.slice x p.types.length k) ∧ w'.cell? ⟨w.heap.size, 1, none⟩ = some (str p.locals) ∧ w'.cell? ⟨w.heap.size, 2, none⟩ = some (str p.globs) ∧ w'.cell? ⟨w.heap.size, 3, none⟩ = some (.slice x' p.code.length k') ∧ w'.cell? ⟨w.heap.size + 1, 1, none⟩ = some (.int .u8 a) ∧ w'.cell? ⟨w.heap.size + 1, 2, none⟩ = some (.int .u8 b)) (go_keep) (first
    | (go_at_call 95; ((with_reducible refine (HLA.out _ ?_).mono ?_); (first | exact HB.out.drew | exact HB.out); rintro e w5 ⟨rfl, hb⟩; have HB5 := Lib.hid (HB.out.drew.trans (hb.mono HB.out.size)); have KP5 := Lib.hid (Keep.below (W := W0.drew) (⟨KP.out.1, KP.out.2.below (Below.refl _ _).drew⟩) hb); have KI5 := Lib.hid (blk_below (show blk W0.drew (w.heap.size + 1) #[.int .u8 op, .int .u8 a, .int .u8 b, .int .u8 c, .int .i64 n] 46 from KI.out) hb); clear hb p0 p1 p2 p3 i0 i1 i2; obtain ⟨p0, p1, p2, p3⟩ := KP5.out.cells; have i1 := blk_cell KI5.out 1 _ rfl; have i2 := blk_cell KI5.out 2 _ rfl))
    | (go_at_call 95; ((with_reducible refine (HLB.out _ HB5.out).mono ?_); rintro e w6 ⟨rfl, hb⟩; have HB6 := Lib.hid (HB5.out.trans (hb.mono HB5.out.size)); have KP6 := Lib.hid (KP5.out.below hb); have KI6 := Lib.hid (blk_below KI5.out hb); clear hb p0 p1 p2 p3 i1 i2; obtain ⟨p0, p1, p2, p3⟩ := KP6.out.cells; have i1 := blk_cell KI6.out 1 _ rfl; have i2 := blk_cell KI6.out 2 _ rfl)))
  all_goals
    have j0 := blk_cell KI6.out 0 _ rfl
    have j3 := blk_cell KI6.out 3 _ rfl
    have j4 := blk_cell KI6.out 4 _ rfl
    clear HLA HLB KP5 KI5 HB5 HB
    have HB := Lib.hid HB6.out
    clear HB6
    have hla := hla.out
    have hlb := hlb.out
    rcases hop'.out with rfl | rfl | rfl | rfl | rfl | rfl | rfl | rfl | rfl | rfl | rfl | rfl | rfl | rfl | rfl
  -- set
  · clear hla hlb
    rcases h8 : decide (a < 8) with _ | _
    all_goals
      have H8 := Lib.hid h8
      clear h8
      go_wp2_with (go_at_call 103; refine (ints_1 a _ _ _ a0 a1 H8).mono ?_; rintro e w' ⟨rfl, rfl⟩)
      go_ret
      exact ⟨ret_bool (by rw [← hr.out]; unfold intsB kindsB; simp [H8.out]), HS.out.trans ((HB.out.alloc HB.out.size _).mono HS.out.size)⟩
  -- add
  · clear hla hlb
    rcases h8 : (decide (a < 8) && decide (b < 8) && decide (c < 8)) with _ | _
    all_goals
      have H8 := Lib.hid h8
      clear h8
      go_wp2_with (go_at_call 103; refine (ints_3 a b c _ _ _ ⟨a0, a1⟩ ⟨b0, b1⟩ ⟨c0, c1⟩ H8).mono ?_; rintro e w' ⟨rfl, rfl⟩)
      go_ret
      exact ⟨ret_bool (by rw [← hr.out]; unfold intsB kindsB; have := H8.out; simp at this ⊢; first | exact this | omega), HS.out.trans ((HB.out.alloc HB.out.size _).mono HS.out.size)⟩
  -- jump
  · clear hla hlb
    go_wp2
    go_ret
    exact ⟨ret_bool (by rw [← hr.out]; rfl), HS.out.trans (HB.out.mono HS.out.size)⟩
  -- zero
  · clear hla hlb
    rcases h8 : decide (a < 8) with _ | _
    all_goals
      have H8 := Lib.hid h8
      clear h8
      go_wp2_with (go_at_call 103; refine (ints_1 a _ _ _ a0 a1 H8).mono ?_; rintro e w' ⟨rfl, rfl⟩)
      go_ret
      exact ⟨ret_bool (by rw [← hr.out]; unfold intsB kindsB; simp [H8.out]), HS.out.trans ((HB.out.alloc HB.out.size _).mono HS.out.size)⟩
  -- new
  · have HLA := Lib.hid hla
    clear hla hlb
    by_cases hl : la = -1
    · have e1 : (la != -1) = false := by simp [hl]
      have HL := Lib.hid hl
      clear hl
      go_wp2
      go_ret
      exact ⟨ret_bool (by rw [← hr.out]; unfold intsB kindsB; simp [HLA.out, HL.out]), HS.out.trans (HB.out.mono HS.out.size)⟩
    · have e1 : (la != -1) = true := by simp [hl]
      have HL : Hid (0 ≤ la) := Lib.hid (by omega)
      clear hl
      go_wp2
      go_ret
      exact ⟨ret_bool (by rw [← hr.out]; unfold intsB kindsB; simp [HLA.out, HL.out]), HS.out.trans (HB.out.mono HS.out.size)⟩
  -- nil
  · have HLA := Lib.hid hla
    clear hla hlb
    by_cases hl : la = -1
    · have e1 : (la != -1) = false := by simp [hl]
      have HL := Lib.hid hl
      clear hl
      go_wp2
      go_ret
      exact ⟨ret_bool (by rw [← hr.out]; unfold intsB kindsB; simp [HLA.out, HL.out]), HS.out.trans (HB.out.mono HS.out.size)⟩
    · have e1 : (la != -1) = true := by simp [hl]
      have HL : Hid (0 ≤ la) := Lib.hid (by omega)
      clear hl
      go_wp2
      go_ret
      exact ⟨ret_bool (by rw [← hr.out]; unfold intsB kindsB; simp [HLA.out, HL.out]), HS.out.trans (HB.out.mono HS.out.size)⟩
  -- move
  · have HLA := Lib.hid hla
    have HLB := Lib.hid hlb
    clear hla hlb
    go_wp2_with (go_at_call 104; refine (alike_b la lb _ _ la0 rfl).mono ?_; rintro e w' ⟨rfl, rfl⟩)
    go_ret
    exact ⟨ret_bool (by rw [← hr.out]; unfold intsB kindsB; simp [HLA.out, HLB.out]), HS.out.trans (HB.out.mono HS.out.size)⟩
  -- loadi
  · have HT := Lib.hid hlb
    clear hla hlb
    rcases h8 : decide (a < 8) with _ | _
    · have H8 := Lib.hid h8
      clear h8
      go_wp2_with (go_at_call 103; refine (ints_1 a _ _ _ a0 a1 H8).mono ?_; rintro e w' ⟨rfl, rfl⟩)
      go_ret
      exact ⟨ret_bool (by rw [← hr.out]; unfold intsB kindsB; simp [H8.out]), HS.out.trans ((HB.out.alloc HB.out.size _).mono HS.out.size)⟩
    · have H8 := Lib.hid h8
      clear h8
      go_wp2_with (first
        | (go_at_call 103; refine (ints_1 a _ _ _ a0 a1 H8).mono ?_; rintro e w7 ⟨rfl, rfl⟩; have KP7 := Lib.hid (blk_alloc KP6.out.blk (.cells #[.int .u8 a] 5)); have KI7 := Lib.hid (blk_alloc KI6.out (.cells #[.int .u8 a] 5)); have q0 := blk_cell KP7.out 0 _ rfl; have q1 := blk_cell KP7.out 1 _ rfl; have q2 := blk_cell KP7.out 2 _ rfl; have q3 := blk_cell KP7.out 3 _ rfl; have m3 := blk_cell KI7.out 3 _ rfl; have m4 := blk_cell KI7.out 4 _ rfl)
        | (refine wpList_loadB rfl 25 _ rfl w.heap.size (progC (.slice x p.types.length k) p (.slice x' p.code.length k')) rfl 25 KP7.out _ Tryz.underlying25 rfl prog_info ?_)
        | (go_at_call 105; refine (HNU.out _ lb (HB.out.alloc HB.out.size _)).mono ?_; rintro e w8 ⟨rfl, hb8⟩))
      go_ret
      have hz := HB.out.size
      rw [World.size_alloc] at hb8
      exact ⟨ret_bool (by rw [← hr.out]; unfold intsB kindsB; simp only [H8.out, HT.out]; simp; intro h9; rw [num_k] at h9; simp at h9; exact h9.1), HS.out.trans (((HB.out.alloc HB.out.size _).trans (hb8.mono (by omega))).mono HS.out.size)⟩
  -- storei
  · have HT := Lib.hid hla
    clear hla hlb
    rcases h8 : decide (b < 8) with _ | _
    · have H8 := Lib.hid h8
      clear h8
      go_wp2_with (go_at_call 103; refine (ints_1 b _ _ _ b0 b1 H8).mono ?_; rintro e w' ⟨rfl, rfl⟩)
      go_ret
      exact ⟨ret_bool (by rw [← hr.out]; unfold intsB kindsB; simp [H8.out]), HS.out.trans ((HB.out.alloc HB.out.size _).mono HS.out.size)⟩
    · have H8 := Lib.hid h8
      clear h8
      go_wp2_with (first
        | (go_at_call 103; refine (ints_1 b _ _ _ b0 b1 H8).mono ?_; rintro e w7 ⟨rfl, rfl⟩; have KP7 := Lib.hid (blk_alloc KP6.out.blk (.cells #[.int .u8 b] 5)); have KI7 := Lib.hid (blk_alloc KI6.out (.cells #[.int .u8 b] 5)); have q0 := blk_cell KP7.out 0 _ rfl; have q1 := blk_cell KP7.out 1 _ rfl; have q2 := blk_cell KP7.out 2 _ rfl; have q3 := blk_cell KP7.out 3 _ rfl; have m3 := blk_cell KI7.out 3 _ rfl; have m4 := blk_cell KI7.out 4 _ rfl)
        | (refine wpList_loadB rfl 25 _ rfl w.heap.size (progC (.slice x p.types.length k) p (.slice x' p.code.length k')) rfl 25 KP7.out _ Tryz.underlying25 rfl prog_info ?_)
        | (go_at_call 105; refine (HNU.out _ la (HB.out.alloc HB.out.size _)).mono ?_; rintro e w8 ⟨rfl, hb8⟩))
      go_ret
      have hz := HB.out.size
      rw [World.size_alloc] at hb8
      exact ⟨ret_bool (by rw [← hr.out]; unfold intsB kindsB; simp only [H8.out, HT.out]; simp; intro h9; rw [num_k] at h9; simp at h9; exact h9.1), HS.out.trans (((HB.out.alloc HB.out.size _).trans (hb8.mono (by omega))).mono HS.out.size)⟩
  -- loadp
  · have HT := Lib.hid hlb
    have HX := Lib.hid hla
    clear hla hlb
    go_wp2_with (first
      | (refine wpList_loadB rfl 25 _ rfl w.heap.size (progC (.slice x p.types.length k) p (.slice x' p.code.length k')) rfl 25 KP6.out.blk _ Tryz.underlying25 rfl prog_info ?_)
      | (go_at_call 106; refine (HPT.out _ lb HB.out).mono ?_; rintro e w8 ⟨rfl, hb8⟩)
      | (go_at_call 104; refine (alike_b la _ _ _ la0 rfl).mono ?_; rintro e w' ⟨rfl, rfl⟩))
    go_ret
    have hz := HB.out.size
    exact ⟨ret_bool (by rw [← hr.out]; show _ = (true && (decide (0 ≤ localI p b) && sameT (localI p a) (toP p.types (localI p b) n))); rw [HT.out, HX.out, Bool.true_and]; exact same_k _ _ _ _), HS.out.trans ((HB.out.trans (hb8.mono hz)).mono HS.out.size)⟩
  -- storep
  · have HT := Lib.hid hla
    have HX := Lib.hid hlb
    clear hla hlb
    go_wp2_with (first
      | (refine wpList_loadB rfl 25 _ rfl w.heap.size (progC (.slice x p.types.length k) p (.slice x' p.code.length k')) rfl 25 KP6.out.blk _ Tryz.underlying25 rfl prog_info ?_)
      | (go_at_call 106; refine (HPT.out _ la HB.out).mono ?_; rintro e w8 ⟨rfl, hb8⟩)
      | (go_at_call 104; refine (alike_b lb _ _ _ lb0 rfl).mono ?_; rintro e w' ⟨rfl, rfl⟩))
    go_ret
    have hz := HB.out.size
    exact ⟨ret_bool (by rw [← hr.out]; show _ = (true && (decide (0 ≤ localI p a) && sameT (localI p b) (toP p.types (localI p a) n))); rw [HT.out, HX.out, Bool.true_and]; exact same_k _ _ _ _), HS.out.trans ((HB.out.trans (hb8.mono hz)).mono HS.out.size)⟩
  -- loadg
  · have HX := Lib.hid hla
    clear hla hlb
    go_wp2_with (first
      | (refine wpList_loadB rfl 25 _ rfl w.heap.size (progC (.slice x p.types.length k) p (.slice x' p.code.length k')) rfl 25 KP6.out.blk _ Tryz.underlying25 rfl prog_info ?_)
      | (go_at_call 107; refine (HGL.out _ b HB.out b0 b1).mono ?_; rintro e w8 ⟨rfl, hb8⟩)
      | (go_at_call 104; refine (alike_b la _ _ _ la0 rfl).mono ?_; rintro e w' ⟨rfl, rfl⟩))
    go_ret
    have hz := HB.out.size
    exact ⟨ret_bool (by rw [← hr.out]; unfold intsB kindsB; simp [HX.out]), HS.out.trans ((HB.out.trans (hb8.mono hz)).mono HS.out.size)⟩
  -- storeg
  · have HX := Lib.hid hlb
    clear hla hlb
    go_wp2_with (first
      | (refine wpList_loadB rfl 25 _ rfl w.heap.size (progC (.slice x p.types.length k) p (.slice x' p.code.length k')) rfl 25 KP6.out.blk _ Tryz.underlying25 rfl prog_info ?_)
      | (go_at_call 107; refine (HGL.out _ a HB.out a0 a1).mono ?_; rintro e w8 ⟨rfl, hb8⟩)
      | (go_at_call 104; refine (alike_b lb _ _ _ lb0 rfl).mono ?_; rintro e w' ⟨rfl, rfl⟩))
    go_ret
    have hz := HB.out.size
    exact ⟨ret_bool (by rw [← hr.out]; unfold intsB kindsB; simp [HX.out]), HS.out.trans ((HB.out.trans (hb8.mono hz)).mono HS.out.size)⟩
  -- print
  · clear hla hlb
    rcases h8 : decide (a < 8) with _ | _
    all_goals
      have H8 := Lib.hid h8
      clear h8
      go_wp2_with (go_at_call 103; refine (ints_1 a _ _ _ a0 a1 H8).mono ?_; rintro e w' ⟨rfl, rfl⟩)
      go_ret
      exact ⟨ret_bool (by rw [← hr.out]; unfold intsB kindsB; simp [H8.out]), HS.out.trans ((HB.out.alloc HB.out.size _).mono HS.out.size)⟩
  -- same
  · have HX := Lib.hid hlb
    clear hla hlb
    rcases h8 : decide (a < 8) with _ | _
    · have H8 := Lib.hid h8
      clear h8
      go_wp2_with (go_at_call 103; refine (ints_1 a _ _ _ a0 a1 H8).mono ?_; rintro e w' ⟨rfl, rfl⟩)
      go_ret
      exact ⟨ret_bool (by rw [← hr.out]; unfold intsB kindsB; simp [H8.out]), HS.out.trans ((HB.out.alloc HB.out.size _).mono HS.out.size)⟩
    · have H8 := Lib.hid h8
      clear h8
      go_wp2_with (first
        | (go_at_call 103; refine (ints_1 a _ _ _ a0 a1 H8).mono ?_; rintro e w7 ⟨rfl, rfl⟩; have KP7 := Lib.hid (blk_alloc KP6.out.blk (.cells #[.int .u8 a] 5)); have KI7 := Lib.hid (blk_alloc KI6.out (.cells #[.int .u8 a] 5)); have q0 := blk_cell KP7.out 0 _ rfl; have q1 := blk_cell KP7.out 1 _ rfl; have q2 := blk_cell KP7.out 2 _ rfl; have q3 := blk_cell KP7.out 3 _ rfl; have m3 := blk_cell KI7.out 3 _ rfl; have m4 := blk_cell KI7.out 4 _ rfl)
        | (refine wpList_loadB rfl 25 _ rfl w.heap.size (progC (.slice x p.types.length k) p (.slice x' p.code.length k')) rfl 25 KP7.out _ Tryz.underlying25 rfl prog_info ?_)
        | (go_at_call 95; refine (HLC.out _ (HB.out.alloc HB.out.size _)).mono ?_; rintro e w8 ⟨rfl, hb8⟩)
        | (go_at_call 104; refine (alike_b lb _ _ _ lb0 rfl).mono ?_; rintro e w' ⟨rfl, rfl⟩))
      go_ret
      have hz := HB.out.size
      rw [World.size_alloc] at hb8
      exact ⟨ret_bool (by rw [← hr.out]; unfold intsB kindsB; simp [H8.out, HX.out]), HS.out.trans (((HB.out.alloc HB.out.size _).trans (hb8.mono (by omega))).mono HS.out.size)⟩

theorem byOp_cases {op : Int} {o : Int × Bs × Bs} (h : byOpL op = some o) : op = 1 ∨ op = 2 ∨ op = 3 ∨ op = 4 ∨ op = 5 ∨ op = 6 ∨ op = 7 ∨ op = 8 ∨ op = 9 ∨ op = 10 ∨ op = 11 ∨ op = 12 ∨ op = 13 ∨ op = 14 ∨ op = 15 := by
  obtain ⟨hm, rfl⟩ := byOp_mem h
  have h0 : OPS.all (fun o => decide (1 ≤ o.1) && decide (o.1 ≤ 15)) = true := by decide
  have := List.all_eq_true.1 h0 o hm
  simp only [Bool.and_eq_true, decide_eq_true_eq] at this
  omega
theorem right_op {i : PIns} (h : rightL i = true) : i.op = 1 ∨ i.op = 2 ∨ i.op = 3 ∨ i.op = 4 ∨ i.op = 5 ∨ i.op = 6 ∨ i.op = 7 ∨ i.op = 8 ∨ i.op = 9 ∨ i.op = 10 ∨ i.op = 11 ∨ i.op = 12 ∨ i.op = 13 ∨ i.op = 14 ∨ i.op = 15 := by
  unfold rightL at h
  rcases ho : byOpL i.op with _ | o
  · rw [ho] at h; cases h
  · exact byOp_cases ho
theorem fit_b (v : Value) (p : PProg) (i : PIns) (r : Bool) (w : World) (h : ProgAt w v p) (hs : OkP p) (hi : OkI i) (hR : rightL i = true) (hr : (intsB i && kindsB p i) = r) : Calls Tryz.prog 85 #[v, insV i] w (AggPost w (.bool r)) := by
  have hop := right_op hR
  obtain ⟨vt, vc, rfl, ht, hc⟩ := id h
  obtain ⟨x, k, rfl, -, -, -⟩ := id ht.elems
  obtain ⟨x', k', rfl, -, -, -⟩ := id hc
  obtain ⟨op, a, b, c, n⟩ := i
  obtain ⟨o0, o1, a0, a1, b0, b1, c0, c1, n0, n1⟩ := hi
  simp only at *
  have hsz : (w.alloc (.cells #[.slice x p.types.length k, str p.locals, str p.globs, .slice x' p.code.length k'] 25)).heap.size = w.heap.size + 1 := World.size_alloc _ _
  have hwb : Below w.heap.size w ((w.alloc (.cells #[.slice x p.types.length k, str p.locals, str p.globs, .slice x' p.code.length k'] 25)).alloc (.cells #[.int .u8 op, .int .u8 a, .int .u8 b, .int .u8 c, .int .i64 n] 46)) := ((Below.refl _ _).alloc (Nat.le_refl _) _).alloc (by omega) _
  have kp : Keep ((w.alloc (.cells #[.slice x p.types.length k, str p.locals, str p.globs, .slice x' p.code.length k'] 25)).alloc (.cells #[.int .u8 op, .int .u8 a, .int .u8 b, .int .u8 c, .int .i64 n] 46)) w.heap.size (.slice x p.types.length k) (.slice x' p.code.length k') p := (keep_new h).below ((Below.refl _ _).alloc (Nat.le_refl _) _)
  have ki : blk ((w.alloc (.cells #[.slice x p.types.length k, str p.locals, str p.globs, .slice x' p.code.length k'] 25)).alloc (.cells #[.int .u8 op, .int .u8 a, .int .u8 b, .int .u8 c, .int .i64 n] 46)) (w.heap.size + 1) #[.int .u8 op, .int .u8 a, .int .u8 b, .int .u8 c, .int .i64 n] 46 := by rw [← hsz]; exact blk_new _ _ _
  generalize hW0 : ((w.alloc (.cells #[.slice x p.types.length k, str p.locals, str p.globs, .slice x' p.code.length k'] 25)).alloc (.cells #[.int .u8 op, .int .u8 a, .int .u8 b, .int .u8 c, .int .i64 n] 46)) = W0 at hwb kp ki
  have hp := kp.at'
  exact fit_at w W0 p op a b c n (localI p a) (localI p b) x x' k k' r hW0.symm (Lib.hid kp) (Lib.hid ki) (Lib.hid hwb) a0 a1 b0 b1 c0 c1 n0 n1 names_le.1 names_le.2 names_le.1 names_le.2 hop
    (Lib.hid fun w1 hb => local_any _ p a w1 (hp.below hb) hs a0 a1) (Lib.hid fun w1 hb => local_any _ p b w1 (hp.below hb) hs b0 b1) (Lib.hid fun w1 hb => local_any _ p c w1 (hp.below hb) hs c0 c1)
    (Lib.hid fun w1 a hb h0 h1 => glob_any _ p a w1 (hp.below hb) hs h0 h1) (Lib.hid fun w1 t hb => numF_b _ p t n _ w1 (hp.below hb) hs rfl) (Lib.hid fun w1 t hb => ptsTo_n _ p t n _ w1 (hp.below hb) hs rfl)
    (Lib.hid rfl) (Lib.hid rfl) (Lib.hid hr)
end Go.Proofs.YtapjgobkpehgfaaGreatDoor
