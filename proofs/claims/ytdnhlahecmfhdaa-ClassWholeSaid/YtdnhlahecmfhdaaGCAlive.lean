/-
  Layer 13: the contract of alive: answers that the document fixes.
-/
import Derived.Test.YtdnhlahecmfhdaaGCProg
import Derived.Test.YtdnhlahecmfhdaaGCSame
namespace Go.Proofs.Ytdnhlahecmfhdaa
open Go.RowKit

set_option maxRecDepth 100000 in
set_option maxHeartbeats 4000000 in
theorem gcalive_n (w : World) : Calls Try.prog 8 #[] w (AggPost w (.bool true)) := by
  have H1 := Lib.hid fun w1 => clof_n 3 w1 (by decide) (by decide)
  have H2 := Lib.hid fun w1 => clwords_n 2 w1 (by decide) (by decide)
  have H3 := Lib.hid fun w1 => clof_n 9 w1 (by decide) (by decide)
  have H4 := Lib.hid fun w1 => clblocks_n 1 2 w1 (by decide) (by decide) (by decide) (by decide)
  have H5 := Lib.hid fun w1 => clin_n 13 w1 (by decide) (by decide)
  have H6 := Lib.hid fun w1 => clbegins_n 13 2 w1 (by decide) (by decide) (by decide) (by decide)
  have H7 := Lib.hid fun w1 => clbegins_n 14 2 w1 (by decide) (by decide) (by decide) (by decide)
  rw [show ofZ 3 = 2 by decide] at H1
  rw [show wordsZ 2 = 4 by decide] at H2
  rw [show ofZ 9 = -1 by decide] at H3
  rw [show blocksZ 1 2 = [9, 13] by decide] at H4
  rw [show inZ 13 = 1 by decide] at H5
  rw [show beginsZ 13 2 = true by decide] at H6
  rw [show beginsZ 14 2 = false by decide] at H7
  have HB := Lib.hid (Below.refl w.heap.size w)
  go_enter Try.func8, Try.ntmps8
  go_wp2_with (first
    | (go_at_call 9; ((with_reducible refine (H1.out _).mono ?_); rintro e w1 ⟨rfl, hb⟩; have HB := Lib.hid (HB.out.trans (hb.mono HB.out.size)); clear hb))
    | (go_at_call 11; ((with_reducible refine (H2.out _).mono ?_); rintro e w2 ⟨rfl, hb⟩; have HB := Lib.hid (HB.out.trans (hb.mono HB.out.size)); clear hb))
    | (go_at_call 9; ((with_reducible refine (H3.out _).mono ?_); rintro e w3 ⟨rfl, hb⟩; have HB := Lib.hid (HB.out.trans (hb.mono HB.out.size)); clear hb))
    | (go_at_call 14; ((with_reducible refine (H4.out _).mono ?_); rintro e w4 ⟨v4, rfl, hr, hb⟩; have HB := Lib.hid (HB.out.trans (hb.mono HB.out.size)); have HR := Lib.hid (hr.below ((Below.refl _ _).alloc (Nat.le_refl _) (.cells #[.int .i64 9, .int .i64 13] 3))); have HA : Hid (RowAt (w4.alloc (.cells #[.int .i64 9, .int .i64 13] 3)) (.slice (some ⟨w4.heap.size, 0, none⟩) 2 2) (i64s [9, 13])) := Lib.hid (RowAt.of_own (own_new w4 [9, 13] 3 (Nat.le_refl _) (by decide))); have HBA := Lib.hid (HB.out.trans (((Below.refl _ _).alloc (Nat.le_refl _) (.cells #[.int .i64 9, .int .i64 13] 3)).mono HB.out.size)); clear hr hb))
    | (go_at_call 13; ((with_reducible refine (same13_n _ _ _ _ true _ HR.out HA.out (by decide)).mono ?_); rintro e w5 ⟨rfl, hb⟩; have HB := Lib.hid (HBA.out.trans (hb.mono HBA.out.size)); clear hb HR HA))
    | (go_at_call 16; ((with_reducible refine (H5.out _).mono ?_); rintro e w6 ⟨rfl, hb⟩; have HB := Lib.hid (HB.out.trans (hb.mono HB.out.size)); clear hb))
    | (go_at_call 18; ((with_reducible refine (H6.out _).mono ?_); rintro e w7 ⟨rfl, hb⟩; have HB := Lib.hid (HB.out.trans (hb.mono HB.out.size)); clear hb))
    | (go_at_call 18; ((with_reducible refine (H7.out _).mono ?_); rintro e w8 ⟨rfl, hb⟩; have HB := Lib.hid (HB.out.trans (hb.mono HB.out.size)); clear hb)))
  go_ret
  exact ⟨rfl, HB.out⟩
end Go.Proofs.Ytdnhlahecmfhdaa
