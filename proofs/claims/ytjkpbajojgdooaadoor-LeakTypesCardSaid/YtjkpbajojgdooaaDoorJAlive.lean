/-
  Layer 11: the contract of alive: answers that the document fixes.
-/
import Derived.Test.YtjkpbajojgdooaaDoorJProg
import Derived.Test.YtjkpbajojgdooaaDoorFLU
namespace Go.Proofs.YtjkpbajojgdooaaDoor
set_option linter.unusedSimpArgs false
set_option linter.unusedVariables false
open Go.RowKit

def JA : PProg := ⟨[[105, 48]], [48, 48, 48], [], [⟨5, 0, 0, 0, 0⟩, ⟨7, 1, 0, 0, 0⟩, ⟨5, 2, 0, 0, 0⟩, ⟨11, 2, 1, 0, 1⟩]⟩
theorem ja_ok : OkP JA := ⟨by intro t ht; simp [JA] at ht; subst ht; decide, by decide, by decide, by intro i hi; simp [JA] at hi; rcases hi with rfl | rfl | rfl | rfl <;> (constructor <;> decide)⟩
theorem ja_check : (checkL JA).2 = 0 := by kernel_rfl
theorem ja_new {a : Int} {k : Nat} (h : MayR JA a k) : (k = 0 ∧ (a = 0 ∨ a = 1)) ∨ (k = 2 ∧ a = 2) := by
  induction h with
  | @new k i hi h5 =>
    have hlt := (List.getElem?_eq_some_iff.1 hi).1
    have hl : k < 4 := hlt
    obtain rfl | rfl | rfl | rfl : k = 0 ∨ k = 1 ∨ k = 2 ∨ k = 3 := by omega
    · cases hi; exact .inl ⟨rfl, .inl rfl⟩
    · cases hi; cases h5
    · cases hi; exact .inr ⟨rfl, rfl⟩
    · cases hi; cases h5
  | @move k i hm h7 _ ih =>
    simp [JA] at hm
    rcases hm with rfl | rfl | rfl | rfl
    · cases h7
    · rcases ih with ⟨h1, h2⟩ | ⟨h1, h2⟩
      · exact .inl ⟨h1, .inr rfl⟩
      · cases h2
    · cases h7
    · cases h7
theorem ja_m0 : MayR JA 0 0 := .new (i := ⟨5, 0, 0, 0, 0⟩) rfl rfl
theorem ja_m1 : MayR JA 1 0 := .move (i := ⟨7, 1, 0, 0, 0⟩) (by simp [JA]) rfl ja_m0
theorem ja_10 : mayB JA ((1 : Nat) : Int) 0 = true := mayB_iff.2 ja_m1
theorem ja_12 : mayB JA ((1 : Nat) : Int) 2 = false := mayB_no.2 fun h => by rcases ja_new h with ⟨h1, h2⟩ | ⟨h1, h2⟩ <;> omega
theorem ja_l0 : leakV JA 0 = true := by
  rw [show (0 : Int) = ((0 : Nat) : Int) from rfl, leakV_nat]
  exact leakB_iff.2 ⟨⟨11, 2, 1, 0, 1⟩, by simp [JA], .inl rfl, ja_m1⟩
theorem ja_l2 : leakV JA 2 = false := by
  rw [show (2 : Int) = ((2 : Nat) : Int) from rfl, leakV_nat]
  refine leakB_no.2 ?_
  rintro ⟨i, hm, ho, h⟩
  simp [JA] at hm
  rcases hm with rfl | rfl | rfl | rfl
  · simp at ho
  · simp at ho
  · simp at ho
  · rcases ja_new h with ⟨h1, h2⟩ | ⟨h1, h2⟩
    · omega
    · cases h2
abbrev jaC : Array Value := #[.int .u8 5, .int .u8 0, .int .u8 0, .int .u8 0, .int .i64 0, .int .u8 7, .int .u8 1, .int .u8 0, .int .u8 0, .int .i64 0, .int .u8 5, .int .u8 2, .int .u8 0, .int .u8 0, .int .i64 0, .int .u8 11, .int .u8 2, .int .u8 1, .int .u8 0, .int .i64 1]
set_option maxRecDepth 100000 in
set_option maxHeartbeats 8000000 in
theorem jalive_at (w W0 : World) (hW0 : W0 = ((w.alloc (.cells #[.string ⟨#[105, 48]⟩] 9)).alloc (.cells jaC 45)).alloc (.cells #[(.slice (some ⟨w.heap.size, 0, none⟩) 1 1), .string ⟨#[48, 48, 48]⟩, .string ⟨#[]⟩, (.slice (some ⟨w.heap.size + 1, 0, none⟩) 4 4)] 25))
    (KP : Hid (Keep W0 (w.heap.size + 1 + 1) (.slice (some ⟨w.heap.size, 0, none⟩) 1 1) (.slice (some ⟨w.heap.size + 1, 0, none⟩) 4 4) JA)) (HB : Hid (Below w.heap.size w W0)) :
    Calls Tryd.prog 7 #[] w (AggPost w (.bool true)) := by
  have HL0 : Hid (∀ w1, ProgAt w1 (.agg (progC (.slice (some ⟨w.heap.size, 0, none⟩) 1 1) JA (.slice (some ⟨w.heap.size + 1, 0, none⟩) 4 4))) JA → Calls Tryd.prog 10 #[.agg (progC (.slice (some ⟨w.heap.size, 0, none⟩) 1 1) JA (.slice (some ⟨w.heap.size + 1, 0, none⟩) 4 4)), .int .i64 0] w1 (AggPost w1 (.bool true))) := Lib.hid fun w1 h1 => by have h := jleaks_n _ JA w1 0 h1 ja_ok ja_check; rw [ja_l0] at h; exact h
  have HL2 : Hid (∀ w1, ProgAt w1 (.agg (progC (.slice (some ⟨w.heap.size, 0, none⟩) 1 1) JA (.slice (some ⟨w.heap.size + 1, 0, none⟩) 4 4))) JA → Calls Tryd.prog 10 #[.agg (progC (.slice (some ⟨w.heap.size, 0, none⟩) 1 1) JA (.slice (some ⟨w.heap.size + 1, 0, none⟩) 4 4)), .int .i64 2] w1 (AggPost w1 (.bool false))) := Lib.hid fun w1 h1 => by have h := jleaks_n _ JA w1 2 h1 ja_ok ja_check; rw [ja_l2] at h; exact h
  have HMY : Hid (∀ w1, ProgAt w1 (.agg (progC (.slice (some ⟨w.heap.size, 0, none⟩) 1 1) JA (.slice (some ⟨w.heap.size + 1, 0, none⟩) 4 4))) JA → Calls Tryd.prog 8 #[.agg (progC (.slice (some ⟨w.heap.size, 0, none⟩) 1 1) JA (.slice (some ⟨w.heap.size + 1, 0, none⟩) 4 4))] w1 (MayPost w1 JA)) := Lib.hid fun w1 h1 => jmay_n _ JA w1 h1 ja_ok ja_check
  go_enter Tryd.func7, Tryd.ntmps7
  go_upto_region 2 with (fail)
  rw [← hW0]
  clear hW0
  go_upto_region 3 with (first
    | (refine wpList_loadB rfl 25 _ rfl (w.heap.size + 1 + 1) (progC (.slice (some ⟨w.heap.size, 0, none⟩) 1 1) JA (.slice (some ⟨w.heap.size + 1, 0, none⟩) 4 4)) rfl 25 KP.out.blk _ Tryd.underlying25 rfl prog_info ?_)
    | (refine wpList_loadBw (by rfl) 25 _ rfl (w.heap.size + 1 + 1) (progC (.slice (some ⟨w.heap.size, 0, none⟩) 1 1) JA (.slice (some ⟨w.heap.size + 1, 0, none⟩) 4 4)) rfl 25 KP.out.blk _ Tryd.underlying25 rfl prog_info ?_)
    | (go_at_call 8; ((with_reducible refine (HMY.out _ KP.out.at').mono ?_); rintro e wm ⟨vm, rfl, hm, hb⟩; have KP := Lib.hid (KP.out.below hb); have HB := Lib.hid (HB.out.trans (hb.mono HB.out.size)); clear hb; have HM := Lib.hid hm; clear hm)))
  obtain ⟨xm, cm, rfl, hc1, hc2⟩ : ∃ x c, vm = .slice x 3 c ∧ 3 ≤ c ∧ c ≤ 9223372036854775807 := HM.out.form
  clear HMY
  go_wp2_with (first
    | (refine wpList_loadB rfl 25 _ rfl (w.heap.size + 1 + 1) (progC (.slice (some ⟨w.heap.size, 0, none⟩) 1 1) JA (.slice (some ⟨w.heap.size + 1, 0, none⟩) 4 4)) rfl 25 KP.out.blk _ Tryd.underlying25 rfl prog_info ?_)
    | (refine wpList_loadBw (by rfl) 25 _ rfl (w.heap.size + 1 + 1) (progC (.slice (some ⟨w.heap.size, 0, none⟩) 1 1) JA (.slice (some ⟨w.heap.size + 1, 0, none⟩) 4 4)) rfl 25 KP.out.blk _ Tryd.underlying25 rfl prog_info ?_)
    | (go_at_call 10; ((with_reducible refine (HL0.out _ KP.out.at').mono ?_); rintro e wq ⟨rfl, hb⟩; have KP := Lib.hid (KP.out.below hb); have HB := Lib.hid (HB.out.trans (hb.mono HB.out.size)); have HM := Lib.hid (HM.out.below hb); clear hb))
    | (go_at_call 10; ((with_reducible refine (HL2.out _ KP.out.at').mono ?_); rintro e wr ⟨rfl, hb⟩; have KP := Lib.hid (KP.out.below hb); have HB := Lib.hid (HB.out.trans (hb.mono HB.out.size)); have HM := Lib.hid (HM.out.below hb); clear hb; (obtain ⟨b, o, b2, o2, c2, rfl, hb1, hb2, hc3, hc4, hcell, hrow⟩ : ∃ b o b2 o2 c2, xm = some ⟨b, o, none⟩ ∧ b < wr.heap.size ∧ b2 < wr.heap.size ∧ 5 ≤ c2 ∧ c2 ≤ 9223372036854775807 ∧ wr.cell? ⟨b, o + 1, none⟩ = some (.slice (some ⟨b2, o2, none⟩) 5 c2) ∧ ∀ k, k ≤ 4 → wr.cell? ⟨b2, o2 + k, none⟩ = some (.bool (mayB JA ((1 : Nat) : Int) k)) := HM.out.row (a := 1) (by decide)); have d0 : wr.cell? ⟨b2, o2, none⟩ = some (.bool (mayB JA ((1 : Nat) : Int) 0)) := hrow 0 (by omega); have d2 := hrow 2 (by omega); rw [ja_10] at d0; rw [ja_12] at d2; clear hrow hb1 hb2)))

  go_ret
  exact ⟨rfl, HB.out⟩
theorem jalive_n (w : World) : Calls Tryd.prog 7 #[] w (AggPost w (.bool true)) := by
  have hwb : Below w.heap.size w (((w.alloc (.cells #[.string ⟨#[105, 48]⟩] 9)).alloc (.cells jaC 45)).alloc (.cells #[(.slice (some ⟨w.heap.size, 0, none⟩) 1 1), .string ⟨#[48, 48, 48]⟩, .string ⟨#[]⟩, (.slice (some ⟨w.heap.size + 1, 0, none⟩) 4 4)] 25)) := (((Below.refl _ _).alloc (Nat.le_refl _) _).alloc (by simp) _).alloc (by simp; omega) _
  have s1 : (w.alloc (.cells #[.string ⟨#[105, 48]⟩] 9)).heap.size = w.heap.size + 1 := World.size_alloc _ _
  have s2 : ((w.alloc (.cells #[.string ⟨#[105, 48]⟩] 9)).alloc (.cells jaC 45)).heap.size = w.heap.size + 1 + 1 := by rw [World.size_alloc, s1]
  have k1 : blk (w.alloc (.cells #[.string ⟨#[105, 48]⟩] 9)) w.heap.size #[.string ⟨#[105, 48]⟩] 9 := blk_new _ _ _
  have k2 : blk ((w.alloc (.cells #[.string ⟨#[105, 48]⟩] 9)).alloc (.cells jaC 45)) (w.heap.size + 1) jaC 45 := by rw [← s1]; exact blk_new _ _ _
  have hp : ProgAt ((w.alloc (.cells #[.string ⟨#[105, 48]⟩] 9)).alloc (.cells jaC 45)) (.agg (progC (.slice (some ⟨w.heap.size, 0, none⟩) 1 1) JA (.slice (some ⟨w.heap.size + 1, 0, none⟩) 4 4))) JA :=
    ⟨_, _, rfl, row_blk (blk_alloc k1 _) (by decide), insRow_blk (is := JA.code) k2 rfl (by decide)⟩
  have kp := keep_new hp
  rw [s2] at kp
  exact jalive_at w _ rfl (Lib.hid kp) (Lib.hid hwb)
end Go.Proofs.YtjkpbajojgdooaaDoor
