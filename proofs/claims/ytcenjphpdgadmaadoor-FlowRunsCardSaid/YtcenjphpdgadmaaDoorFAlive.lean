/-
  Layer 7: the contract of alive: answers that the document fixes.
-/
import Derived.Test.YtcenjphpdgadmaaDoorFPg
namespace Go.Proofs.YtcenjphpdgadmaaDoor
set_option linter.unusedSimpArgs false
set_option linter.unusedVariables false
open Go.RowKit

def FA : PProg := ⟨[[105]], [], [], [⟨1, 0, 0, 0, 0⟩, ⟨4, 0, 0, 0, 0⟩, ⟨14, 0, 0, 0, 0⟩]⟩
theorem fa_ok : OkP FA := ⟨by intro t ht; simp [FA] at ht; subst ht; decide, by decide, by decide, by intro i hi; simp [FA] at hi; rcases hi with rfl | rfl | rfl <;> (constructor <;> decide)⟩
theorem fa_in : InP FA := by intro i hi; simp [FA] at hi; rcases hi with rfl | rfl | rfl <;> (simp [FA])
theorem fa_next : nextV FA 1 = [0, 2] := by kernel_rfl
theorem fa_safe1 : safeV FA 1 = true := by kernel_rfl
theorem fa_safe0 : safeV FA 0 = false := by kernel_rfl
theorem fa_loop0 : loopV FA 0 = true := by kernel_rfl
theorem fa_loop2 : loopV FA 2 = false := by kernel_rfl
theorem fa_way : (wayV FA 0).length = 4 := by kernel_rfl
abbrev faC : Array Value := #[.int .u8 1, .int .u8 0, .int .u8 0, .int .u8 0, .int .i64 0, .int .u8 4, .int .u8 0, .int .u8 0, .int .u8 0, .int .i64 0, .int .u8 14, .int .u8 0, .int .u8 0, .int .u8 0, .int .i64 0]
set_option maxRecDepth 100000 in
set_option maxHeartbeats 4000000 in
theorem falive_at (w W0 : World) (hW0 : W0 = ((w.alloc (.cells #[.string ⟨#[105]⟩] 9)).alloc (.cells faC 46)).alloc (.cells #[.slice (some ⟨w.heap.size, 0, none⟩) 1 1, .string ⟨#[]⟩, .string ⟨#[]⟩, .slice (some ⟨w.heap.size + 1, 0, none⟩) 3 3] 25))
    (KP : Hid (Keep W0 (w.heap.size + 1 + 1) (.slice (some ⟨w.heap.size, 0, none⟩) 1 1) (.slice (some ⟨w.heap.size + 1, 0, none⟩) 3 3) FA)) (HB : Hid (Below w.heap.size w W0)) :
    Calls Tryd.prog 9 #[] w (AggPost w (.bool true)) := by
  have Csafe1 : Hid (∀ w1, ProgAt w1 (.agg (progC (.slice (some ⟨w.heap.size, 0, none⟩) 1 1) FA (.slice (some ⟨w.heap.size + 1, 0, none⟩) 3 3))) FA → Calls Tryd.prog 16 #[(.agg (progC (.slice (some ⟨w.heap.size, 0, none⟩) 1 1) FA (.slice (some ⟨w.heap.size + 1, 0, none⟩) 3 3))), .int .i64 1] w1 (AggPost w1 (.bool true))) := Lib.hid fun w1 h1 => fsafe_n _ FA _ 1 true h1 fa_ok fa_in (by decide) fa_safe1
  have Csafe0 : Hid (∀ w1, ProgAt w1 (.agg (progC (.slice (some ⟨w.heap.size, 0, none⟩) 1 1) FA (.slice (some ⟨w.heap.size + 1, 0, none⟩) 3 3))) FA → Calls Tryd.prog 16 #[(.agg (progC (.slice (some ⟨w.heap.size, 0, none⟩) 1 1) FA (.slice (some ⟨w.heap.size + 1, 0, none⟩) 3 3))), .int .i64 0] w1 (AggPost w1 (.bool false))) := Lib.hid fun w1 h1 => fsafe_n _ FA _ 0 false h1 fa_ok fa_in (by decide) fa_safe0
  have Cloop0 : Hid (∀ w1, ProgAt w1 (.agg (progC (.slice (some ⟨w.heap.size, 0, none⟩) 1 1) FA (.slice (some ⟨w.heap.size + 1, 0, none⟩) 3 3))) FA → Calls Tryd.prog 18 #[(.agg (progC (.slice (some ⟨w.heap.size, 0, none⟩) 1 1) FA (.slice (some ⟨w.heap.size + 1, 0, none⟩) 3 3))), .int .i64 0] w1 (AggPost w1 (.bool true))) := Lib.hid fun w1 h1 => floops_n _ FA _ 0 true h1 fa_ok fa_in (by decide) fa_loop0
  have Cloop2 : Hid (∀ w1, ProgAt w1 (.agg (progC (.slice (some ⟨w.heap.size, 0, none⟩) 1 1) FA (.slice (some ⟨w.heap.size + 1, 0, none⟩) 3 3))) FA → Calls Tryd.prog 18 #[(.agg (progC (.slice (some ⟨w.heap.size, 0, none⟩) 1 1) FA (.slice (some ⟨w.heap.size + 1, 0, none⟩) 3 3))), .int .i64 2] w1 (AggPost w1 (.bool false))) := Lib.hid fun w1 h1 => floops_n _ FA _ 2 false h1 fa_ok fa_in (by decide) fa_loop2
  have Cway : Hid (∀ w1, ProgAt w1 (.agg (progC (.slice (some ⟨w.heap.size, 0, none⟩) 1 1) FA (.slice (some ⟨w.heap.size + 1, 0, none⟩) 3 3))) FA → Calls Tryd.prog 11 #[(.agg (progC (.slice (some ⟨w.heap.size, 0, none⟩) 1 1) FA (.slice (some ⟨w.heap.size + 1, 0, none⟩) 3 3))), .int .i64 0] w1 (BoolsAPost w1 (wayV FA 0))) := Lib.hid fun w1 h1 => freach_n _ FA _ 0 h1 fa_ok fa_in (by decide)
  go_enter Tryd.func9, Tryd.ntmps9
  go_upto_region 2 with (fail)
  rw [← hW0]
  clear hW0
  go_upto_region 3 with (first
    | (refine wpList_loadB rfl 25 _ rfl (w.heap.size + 1 + 1) (progC (.slice (some ⟨w.heap.size, 0, none⟩) 1 1) FA (.slice (some ⟨w.heap.size + 1, 0, none⟩) 3 3)) rfl 25 KP.out.blk _ Tryd.underlying25 rfl prog_info ?_)
    | (go_at_call 14; refine (fnext_n _ FA _ 1 KP.out.at' fa_ok fa_in (by decide)).mono ?_; rintro e w1 ⟨v1, rfl, hr, hb⟩; rw [fa_next] at hr; obtain ⟨ad, cap, hv1, hc1, hc2, hcell⟩ := rowA_form hr; subst hv1
       obtain ⟨b, o, had, hbl, q0⟩ := hcell 0 _ rfl
       obtain ⟨b', o', had', hbl', q1⟩ := hcell 1 _ rfl
       subst had
       simp only [Option.some.injEq, Addr.mk.injEq, and_true] at had'
       obtain ⟨rfl, rfl⟩ := had'
       have KP := Lib.hid (KP.out.below hb)
       have HB := Lib.hid (HB.out.trans (hb.mono HB.out.size))
       clear hr hb hcell hbl hbl'
       obtain ⟨p0, p1, p2, p3⟩ := KP.out.cells))
  rw [Nat.add_zero] at q0
  have hc1 : 2 ≤ cap := hc1
  go_wp2_with (first
    | (go_at_call 16; ((with_reducible refine (Csafe1.out _ KP.out.at').mono ?_); rintro e w2 ⟨rfl, hb⟩; clear q0 q1; have KP := Lib.hid (KP.out.below hb); have HB := Lib.hid (HB.out.trans (hb.mono HB.out.size)); clear hb p0 p1 p2 p3; obtain ⟨p0, p1, p2, p3⟩ := KP.out.cells))
    | (go_at_call 16; ((with_reducible refine (Csafe0.out _ KP.out.at').mono ?_); rintro e w3 ⟨rfl, hb⟩; have KP := Lib.hid (KP.out.below hb); have HB := Lib.hid (HB.out.trans (hb.mono HB.out.size)); clear hb p0 p1 p2 p3; obtain ⟨p0, p1, p2, p3⟩ := KP.out.cells))
    | (go_at_call 18; ((with_reducible refine (Cloop0.out _ KP.out.at').mono ?_); rintro e w4 ⟨rfl, hb⟩; have KP := Lib.hid (KP.out.below hb); have HB := Lib.hid (HB.out.trans (hb.mono HB.out.size)); clear hb p0 p1 p2 p3; obtain ⟨p0, p1, p2, p3⟩ := KP.out.cells))
    | (go_at_call 18; ((with_reducible refine (Cloop2.out _ KP.out.at').mono ?_); rintro e w5 ⟨rfl, hb⟩; have KP := Lib.hid (KP.out.below hb); have HB := Lib.hid (HB.out.trans (hb.mono HB.out.size)); clear hb p0 p1 p2 p3; obtain ⟨p0, p1, p2, p3⟩ := KP.out.cells))
    | (go_at_call 11; ((with_reducible refine (Cway.out _ KP.out.at').mono ?_); rintro e w6 ⟨v6, rfl, hr, hb⟩; obtain ⟨ad6, cap6, hv6, -, -, -⟩ := boolsA_form hr; rw [fa_way] at hv6; subst hv6; have HB := Lib.hid (HB.out.trans (hb.mono HB.out.size)); clear hr hb p0 p1 p2 p3)))
  go_ret
  exact ⟨rfl, HB.out⟩
theorem falive_n (w : World) : Calls Tryd.prog 9 #[] w (AggPost w (.bool true)) := by
  have hwb : Below w.heap.size w (((w.alloc (.cells #[.string ⟨#[105]⟩] 9)).alloc (.cells faC 46)).alloc (.cells #[.slice (some ⟨w.heap.size, 0, none⟩) 1 1, .string ⟨#[]⟩, .string ⟨#[]⟩, .slice (some ⟨w.heap.size + 1, 0, none⟩) 3 3] 25)) := (((Below.refl _ _).alloc (Nat.le_refl _) _).alloc (by simp) _).alloc (by simp; omega) _
  have s1 : (w.alloc (.cells #[.string ⟨#[105]⟩] 9)).heap.size = w.heap.size + 1 := World.size_alloc _ _
  have s2 : ((w.alloc (.cells #[.string ⟨#[105]⟩] 9)).alloc (.cells faC 46)).heap.size = w.heap.size + 1 + 1 := by rw [World.size_alloc, s1]
  have k1 : blk (w.alloc (.cells #[.string ⟨#[105]⟩] 9)) w.heap.size #[.string ⟨#[105]⟩] 9 := blk_new _ _ _
  have k2 : blk ((w.alloc (.cells #[.string ⟨#[105]⟩] 9)).alloc (.cells faC 46)) (w.heap.size + 1) faC 46 := by rw [← s1]; exact blk_new _ _ _
  have hp : ProgAt ((w.alloc (.cells #[.string ⟨#[105]⟩] 9)).alloc (.cells faC 46)) (.agg (progC (.slice (some ⟨w.heap.size, 0, none⟩) 1 1) FA (.slice (some ⟨w.heap.size + 1, 0, none⟩) 3 3))) FA :=
    ⟨_, _, rfl, row_blk (blk_alloc k1 _) (by decide), insRow_blk (is := FA.code) k2 rfl (by decide)⟩
  have kp := keep_new hp
  rw [s2] at kp
  exact falive_at w _ rfl (Lib.hid kp) (Lib.hid hwb)
end Go.Proofs.YtcenjphpdgadmaaDoor
