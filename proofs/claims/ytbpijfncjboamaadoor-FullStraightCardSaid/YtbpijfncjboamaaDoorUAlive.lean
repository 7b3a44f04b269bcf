/-
  Layer 10: the contract of alive: answers that the document fixes.
-/
import Derived.Test.YtbpijfncjboamaaDoorUProg
import Derived.Test.YtbpijfncjboamaaDoorFSafe
namespace Go.Proofs.YtbpijfncjboamaaDoor
set_option linter.unusedSimpArgs false
set_option linter.unusedVariables false
open Go.RowKit

def UA : PProg := ⟨[[105, 48]], [48, 48], [], [⟨5, 0, 0, 0, 0⟩, ⟨9, 0, 0, 0, 0⟩, ⟨6, 1, 0, 0, 0⟩, ⟨11, 0, 1, 0, 1⟩, ⟨5, 0, 0, 0, 0⟩]⟩
theorem ua_ok : OkP UA := ⟨by intro t ht; simp [UA] at ht; subst ht; decide, by decide, by decide, by intro i hi; simp [UA] at hi; rcases hi with rfl | rfl | rfl | rfl | rfl <;> (constructor <;> decide)⟩
theorem ua_check : (checkL UA).2 = 0 := by kernel_rfl
theorem ua_0 : lastV UA 0 = 3 := by kernel_rfl
theorem ua_1 : lastV UA 1 = -1 := by kernel_rfl
theorem ua_4 : lastV UA 4 = -1 := by kernel_rfl
abbrev uaC : Array Value := #[.int .u8 5, .int .u8 0, .int .u8 0, .int .u8 0, .int .i64 0, .int .u8 9, .int .u8 0, .int .u8 0, .int .u8 0, .int .i64 0, .int .u8 6, .int .u8 1, .int .u8 0, .int .u8 0, .int .i64 0, .int .u8 11, .int .u8 0, .int .u8 1, .int .u8 0, .int .i64 1, .int .u8 5, .int .u8 0, .int .u8 0, .int .u8 0, .int .i64 0]
set_option maxRecDepth 100000 in
set_option maxHeartbeats 8000000 in
theorem ualive_at (w W0 : World) (hW0 : W0 = ((w.alloc (.cells #[.string ⟨#[105, 48]⟩] 9)).alloc (.cells uaC 39)).alloc (.cells #[(.slice (some ⟨w.heap.size, 0, none⟩) 1 1), .string ⟨#[48, 48]⟩, .string ⟨#[]⟩, (.slice (some ⟨w.heap.size + 1, 0, none⟩) 5 5)] 25))
    (KP : Hid (Keep W0 (w.heap.size + 1 + 1) (.slice (some ⟨w.heap.size, 0, none⟩) 1 1) (.slice (some ⟨w.heap.size + 1, 0, none⟩) 5 5) UA)) (HB : Hid (Below w.heap.size w W0)) :
    Calls Tryd.prog 8 #[] w (AggPost w (.bool true)) := by
  have HL0 : Hid (∀ w1, ProgAt w1 (.agg (progC (.slice (some ⟨w.heap.size, 0, none⟩) 1 1) UA (.slice (some ⟨w.heap.size + 1, 0, none⟩) 5 5))) UA → Calls Tryd.prog 11 #[.agg (progC (.slice (some ⟨w.heap.size, 0, none⟩) 1 1) UA (.slice (some ⟨w.heap.size + 1, 0, none⟩) 5 5)), .int .i64 0] w1 (AggPost w1 (.int .i64 3))) := Lib.hid fun w1 h1 => by have h := ulast_n _ UA w1 0 h1 ua_ok ua_check; rw [ua_0] at h; exact h
  have HL1 : Hid (∀ w1, ProgAt w1 (.agg (progC (.slice (some ⟨w.heap.size, 0, none⟩) 1 1) UA (.slice (some ⟨w.heap.size + 1, 0, none⟩) 5 5))) UA → Calls Tryd.prog 11 #[.agg (progC (.slice (some ⟨w.heap.size, 0, none⟩) 1 1) UA (.slice (some ⟨w.heap.size + 1, 0, none⟩) 5 5)), .int .i64 1] w1 (AggPost w1 (.int .i64 (-1)))) := Lib.hid fun w1 h1 => by have h := ulast_n _ UA w1 1 h1 ua_ok ua_check; rw [ua_1] at h; exact h
  have HL4 : Hid (∀ w1, ProgAt w1 (.agg (progC (.slice (some ⟨w.heap.size, 0, none⟩) 1 1) UA (.slice (some ⟨w.heap.size + 1, 0, none⟩) 5 5))) UA → Calls Tryd.prog 11 #[.agg (progC (.slice (some ⟨w.heap.size, 0, none⟩) 1 1) UA (.slice (some ⟨w.heap.size + 1, 0, none⟩) 5 5)), .int .i64 4] w1 (AggPost w1 (.int .i64 (-1)))) := Lib.hid fun w1 h1 => by have h := ulast_n _ UA w1 4 h1 ua_ok ua_check; rw [ua_4] at h; exact h
  have HF0 : Hid (∀ w1, ProgAt w1 (.agg (progC (.slice (some ⟨w.heap.size, 0, none⟩) 1 1) UA (.slice (some ⟨w.heap.size + 1, 0, none⟩) 5 5))) UA → Calls Tryd.prog 12 #[.agg (progC (.slice (some ⟨w.heap.size, 0, none⟩) 1 1) UA (.slice (some ⟨w.heap.size + 1, 0, none⟩) 5 5)), .int .i64 0] w1 (AggPost w1 (.bool true))) := Lib.hid fun w1 h1 => by have h := ufull_n _ UA w1 0 h1 ua_ok ua_check; rw [ua_0] at h; exact h
  have HF4 : Hid (∀ w1, ProgAt w1 (.agg (progC (.slice (some ⟨w.heap.size, 0, none⟩) 1 1) UA (.slice (some ⟨w.heap.size + 1, 0, none⟩) 5 5))) UA → Calls Tryd.prog 12 #[.agg (progC (.slice (some ⟨w.heap.size, 0, none⟩) 1 1) UA (.slice (some ⟨w.heap.size + 1, 0, none⟩) 5 5)), .int .i64 4] w1 (AggPost w1 (.bool false))) := Lib.hid fun w1 h1 => by have h := ufull_n _ UA w1 4 h1 ua_ok ua_check; rw [ua_4] at h; exact h
  go_enter Tryd.func8, Tryd.ntmps8
  go_upto_region 2 with (fail)
  rw [← hW0]
  clear hW0
  go_wp2_with (first
    | (refine wpList_loadB rfl 25 _ rfl (w.heap.size + 1 + 1) (progC (.slice (some ⟨w.heap.size, 0, none⟩) 1 1) UA (.slice (some ⟨w.heap.size + 1, 0, none⟩) 5 5)) rfl 25 KP.out.blk _ Tryd.underlying25 rfl prog_info ?_)
    | (refine wpList_loadBw (by rfl) 25 _ rfl (w.heap.size + 1 + 1) (progC (.slice (some ⟨w.heap.size, 0, none⟩) 1 1) UA (.slice (some ⟨w.heap.size + 1, 0, none⟩) 5 5)) rfl 25 KP.out.blk _ Tryd.underlying25 rfl prog_info ?_)
    | (go_at_call 11; ((with_reducible refine (HL0.out _ KP.out.at').mono ?_); rintro e wq ⟨rfl, hb⟩; have KP := Lib.hid (KP.out.below hb); have HB := Lib.hid (HB.out.trans (hb.mono HB.out.size)); clear hb))
    | (go_at_call 11; ((with_reducible refine (HL1.out _ KP.out.at').mono ?_); rintro e wq ⟨rfl, hb⟩; have KP := Lib.hid (KP.out.below hb); have HB := Lib.hid (HB.out.trans (hb.mono HB.out.size)); clear hb))
    | (go_at_call 11; ((with_reducible refine (HL4.out _ KP.out.at').mono ?_); rintro e wq ⟨rfl, hb⟩; have KP := Lib.hid (KP.out.below hb); have HB := Lib.hid (HB.out.trans (hb.mono HB.out.size)); clear hb))
    | (go_at_call 12; ((with_reducible refine (HF0.out _ KP.out.at').mono ?_); rintro e wq ⟨rfl, hb⟩; have KP := Lib.hid (KP.out.below hb); have HB := Lib.hid (HB.out.trans (hb.mono HB.out.size)); clear hb))
    | (go_at_call 12; ((with_reducible refine (HF4.out _ KP.out.at').mono ?_); rintro e wq ⟨rfl, hb⟩; have KP := Lib.hid (KP.out.below hb); have HB := Lib.hid (HB.out.trans (hb.mono HB.out.size)); clear hb)))
  go_ret
  exact ⟨rfl, HB.out⟩
theorem ualive_n (w : World) : Calls Tryd.prog 8 #[] w (AggPost w (.bool true)) := by
  have hwb : Below w.heap.size w (((w.alloc (.cells #[.string ⟨#[105, 48]⟩] 9)).alloc (.cells uaC 39)).alloc (.cells #[(.slice (some ⟨w.heap.size, 0, none⟩) 1 1), .string ⟨#[48, 48]⟩, .string ⟨#[]⟩, (.slice (some ⟨w.heap.size + 1, 0, none⟩) 5 5)] 25)) := (((Below.refl _ _).alloc (Nat.le_refl _) _).alloc (by simp) _).alloc (by simp; omega) _
  have s1 : (w.alloc (.cells #[.string ⟨#[105, 48]⟩] 9)).heap.size = w.heap.size + 1 := World.size_alloc _ _
  have s2 : ((w.alloc (.cells #[.string ⟨#[105, 48]⟩] 9)).alloc (.cells uaC 39)).heap.size = w.heap.size + 1 + 1 := by rw [World.size_alloc, s1]
  have k1 : blk (w.alloc (.cells #[.string ⟨#[105, 48]⟩] 9)) w.heap.size #[.string ⟨#[105, 48]⟩] 9 := blk_new _ _ _
  have k2 : blk ((w.alloc (.cells #[.string ⟨#[105, 48]⟩] 9)).alloc (.cells uaC 39)) (w.heap.size + 1) uaC 39 := by rw [← s1]; exact blk_new _ _ _
  have hp : ProgAt ((w.alloc (.cells #[.string ⟨#[105, 48]⟩] 9)).alloc (.cells uaC 39)) (.agg (progC (.slice (some ⟨w.heap.size, 0, none⟩) 1 1) UA (.slice (some ⟨w.heap.size + 1, 0, none⟩) 5 5))) UA :=
    ⟨_, _, rfl, row_blk (blk_alloc k1 _) (by decide), insRow_blk (is := UA.code) k2 rfl (by decide)⟩
  have kp := keep_new hp
  rw [s2] at kp
  exact ualive_at w _ rfl (Lib.hid kp) (Lib.hid hwb)
end Go.Proofs.YtbpijfncjboamaaDoor
