/-
  The contract of alive: answers that the document fixes.
-/
import Derived.Test.YtclkccbihnccgaaDoorHNeed
namespace Go.Proofs.YtclkccbihnccgaaDoor
open Go.RowKit

def PA : PProg := ⟨[[105, 48]], [48], [48], [⟨5, 0, 0, 0, 0⟩, ⟨11, 0, 0, 0, 1⟩, ⟨13, 0, 0, 0, 0⟩, ⟨8, 0, 0, 0, 0⟩]⟩
def PB : PProg := ⟨[[105, 48]], [48], [48], [⟨5, 0, 0, 0, 0⟩, ⟨11, 0, 0, 0, 1⟩, ⟨13, 0, 0, 0, 0⟩, ⟨8, 0, 0, 0, 1⟩]⟩
theorem pa_check : checkL PA = (-1, 0) := by kernel_rfl
theorem pb_check : checkL PB = (3, 5) := by kernel_rfl
theorem pb_l0 : localI PB 0 = 0 := by kernel_rfl
theorem pb_l1 : localI PB 1 = -1 := by kernel_rfl
theorem pb_g0 : globI PB 0 = 0 := by kernel_rfl
theorem pb_need : needI PB.types = 2 := by kernel_rfl
theorem pa_ok : OkP PA := ⟨by intro t ht; simp [PA] at ht; subst ht; decide, by decide, by decide, by intro i hi; simp [PA] at hi; rcases hi with rfl | rfl | rfl | rfl <;> (constructor <;> decide)⟩
theorem pb_ok : OkP PB := ⟨by intro t ht; simp [PB] at ht; subst ht; decide, by decide, by decide, by intro i hi; simp [PB] at hi; rcases hi with rfl | rfl | rfl | rfl <;> (constructor <;> decide)⟩
theorem keep_put {w : World} {b g : Nat} {vt : Value} {p q : PProg} {cs cs' : Array Value} (h : Keep w b vt (.slice (some ⟨g, 0, none⟩) p.code.length p.code.length) p) (hg : blk w g cs 32) (hne : b ≠ g) (ht : RowAt (putB w g cs' 32) vt (q.types.map str)) (e1 : q.locals = p.locals) (e2 : q.globs = p.globs) (e3 : q.code.length = p.code.length) (hc : cs'.toList = codeCells q.code) (hl : q.code.length ≤ maxLen) :
    Keep (putB w g cs' 32) b vt (.slice (some ⟨g, 0, none⟩) p.code.length p.code.length) q := by
  have hb : blk (putB w g cs' 32) b (progC vt p (.slice (some ⟨g, 0, none⟩) p.code.length p.code.length)) 25 := by unfold blk; rw [putB_ne _ hne]; exact h.blk
  have he : progC vt p (.slice (some ⟨g, 0, none⟩) p.code.length p.code.length) = progC vt q (.slice (some ⟨g, 0, none⟩) p.code.length p.code.length) := by unfold progC; rw [e1, e2]
  refine ⟨by rw [← he]; exact hb, vt, _, rfl, ht, ?_⟩
  have := insRow_blk (is := q.code) (putB_at hg cs' 32) hc hl
  rw [e3] at this
  exact this
abbrev alC (n : Int) : Array Value := #[.int .u8 5, .int .u8 0, .int .u8 0, .int .u8 0, .int .i64 0, .int .u8 11, .int .u8 0, .int .u8 0, .int .u8 0, .int .i64 1, .int .u8 13, .int .u8 0, .int .u8 0, .int .u8 0, .int .i64 0, .int .u8 8, .int .u8 0, .int .u8 0, .int .u8 0, .int .i64 n]
theorem al_put {w1 : World} {B : Nat} (h : Keep w1 (B + 1 + 1) (.slice (some ⟨B, 0, none⟩) 1 1) (.slice (some ⟨B + 1, 0, none⟩) 4 4) PA) (hc : blk w1 (B + 1) (alC 0) 32) (ht : blk w1 B #[.string ⟨#[105, 48]⟩] 9) :
    Keep (w1.setCell ⟨B + 1, 19, none⟩ (.int .i64 1)) (B + 1 + 1) (.slice (some ⟨B, 0, none⟩) 1 1) (.slice (some ⟨B + 1, 0, none⟩) 4 4) PB := by
  rw [setCell_putB hc]
  have ht' : blk (putB w1 (B + 1) (alC 1) 32) B #[.string ⟨#[105, 48]⟩] 9 := by unfold blk; rw [putB_ne _ (by omega)]; exact ht
  exact keep_put (p := PA) (q := PB) (cs' := alC 1) h hc (by omega) (row_blk ht' (by decide)) rfl rfl rfl rfl (by decide)
theorem local_n (v : Value) (p : PProg) (a z : Int) (w : World) (h : ProgAt w v p) (hs : OkP p) (h0 : 0 ≤ a) (ha : a ≤ 255) (hz : localI p a = z) : Calls Tryd.prog 11 #[v, .int .u8 a] w (AggPost w (.int .i64 z)) := by
  subst hz; exact local_any v p a w h hs h0 ha
theorem glob_n (v : Value) (p : PProg) (a z : Int) (w : World) (h : ProgAt w v p) (hs : OkP p) (h0 : 0 ≤ a) (ha : a ≤ 255) (hz : globI p a = z) : Calls Tryd.prog 12 #[v, .int .u8 a] w (AggPost w (.int .i64 z)) := by
  subst hz; exact glob_any v p a w h hs h0 ha
set_option maxRecDepth 100000 in
set_option maxHeartbeats 400000 in
theorem alive_at (w W0 : World) (hW0 : W0 = ((w.alloc (.cells #[.string ⟨#[105, 48]⟩] 9)).alloc (.cells (alC 0) 32)).alloc (.cells #[.slice (some ⟨w.heap.size, 0, none⟩) 1 1, .string ⟨#[48]⟩, .string ⟨#[48]⟩, .slice (some ⟨w.heap.size + 1, 0, none⟩) 4 4] 25))
    (KP : Hid (Keep W0 (w.heap.size + 1 + 1) (.slice (some ⟨w.heap.size, 0, none⟩) 1 1) (.slice (some ⟨w.heap.size + 1, 0, none⟩) 4 4) PA)) (KC : Hid (blk W0 (w.heap.size + 1) (alC 0) 32)) (HS : Hid (Below w.heap.size w W0)) (HO : Hid (HasO w)) (KT : Hid (blk W0 w.heap.size #[.string ⟨#[105, 48]⟩] 9)) :
    Calls Tryd.prog 8 #[] w (AggPost w (.bool true)) := by
  have HC1 := Lib.hid (check_n _ PA (-1) 0 W0 KP.out.at' pa_ok (HO.out.below HS.out) (by rw [pa_check]) (by rw [pa_check]; rfl))
  go_enter Tryd.func8, Tryd.ntmps8
  go_wp2_with (fail)
  rw [← hW0]
  clear hW0
  go_wp2_with (first
    | (refine wpList_loadB rfl 25 _ rfl (w.heap.size + 1 + 1) (progC (.slice (some ⟨w.heap.size, 0, none⟩) 1 1) PA (.slice (some ⟨w.heap.size + 1, 0, none⟩) 4 4)) rfl 25 KP.out.blk _ Tryd.underlying25 rfl prog_info ?_)
    | (refine wpList_loadB rfl 25 _ rfl (w.heap.size + 1 + 1) (progC (.slice (some ⟨w.heap.size, 0, none⟩) 1 1) PB (.slice (some ⟨w.heap.size + 1, 0, none⟩) 4 4)) rfl 25 K2.out.blk _ Tryd.underlying25 rfl prog_info ?_)
    | (go_at_call 10; refine HC1.out.mono ?_; rintro e w1 ⟨rfl, hb⟩; clear HC1; have K1 := Lib.hid (KP.out.below hb); have KC1 := Lib.hid (blk_below KC.out hb); have KT1 := Lib.hid (blk_below KT.out hb); have HB1 := Lib.hid (HS.out.trans (hb.mono HS.out.size)); clear hb; have p3 := blk_cell K1.out.blk 3 _ rfl; have c19 : w1.cell? ⟨w.heap.size + 1, 19, none⟩ = some (.int .i64 0) := blk_cell KC1.out 19 _ rfl; have f19 := blk_frozen KC1.out 19; have K2 := Lib.hid (al_put K1.out KC1.out KT1.out); have HB2 := Lib.hid (HB1.out.setCell (p := ⟨w.heap.size + 1, 19, none⟩) (Nat.le_succ _) (.int .i64 1)))
    | (go_at_call 10; refine (check_n _ PB 3 5 _ K2.out.at' pb_ok (HO.out.below HB2.out) (by rw [pb_check]) (by rw [pb_check]; rfl)).mono ?_; rintro e w2 ⟨rfl, hb⟩; have K2 := Lib.hid (K2.out.below hb); have HB2 := Lib.hid (HB2.out.trans (hb.mono HB2.out.size)); clear hb p3 c19 f19; obtain ⟨p0, p1, p2, p3⟩ := K2.out.cells)
    | (go_at_call 11; (with_reducible refine (local_n _ PB 0 0 _ K2.out.at' pb_ok (by decide) (by decide) pb_l0).mono ?_); rintro e w3 ⟨rfl, hb⟩; have K2 := Lib.hid (K2.out.below hb); have HB2 := Lib.hid (HB2.out.trans (hb.mono HB2.out.size)); clear hb p0 p1 p2 p3; obtain ⟨p0, p1, p2, p3⟩ := K2.out.cells)
    | (go_at_call 11; (with_reducible refine (local_n _ PB 1 (-1) _ K2.out.at' pb_ok (by decide) (by decide) pb_l1).mono ?_); rintro e w4 ⟨rfl, hb⟩; have K2 := Lib.hid (K2.out.below hb); have HB2 := Lib.hid (HB2.out.trans (hb.mono HB2.out.size)); clear hb p0 p1 p2 p3; obtain ⟨p0, p1, p2, p3⟩ := K2.out.cells)
    | (go_at_call 12; refine (glob_n _ PB 0 0 _ K2.out.at' pb_ok (by decide) (by decide) pb_g0).mono ?_; rintro e w5 ⟨rfl, hb⟩; have K2 := Lib.hid (K2.out.below hb); have HB2 := Lib.hid (HB2.out.trans (hb.mono HB2.out.size)); clear hb p0 p1 p2 p3; obtain ⟨p0, p1, p2, p3⟩ := K2.out.cells)
    | (go_at_call 13; refine (need_n _ PB 2 _ K2.out.at' pb_ok pb_need).mono ?_; rintro e w6 ⟨rfl, hb⟩; have HB2 := Lib.hid (HB2.out.trans (hb.mono HB2.out.size)); clear hb))
  go_ret
  exact ⟨rfl, HB2.out⟩
theorem alive_any (w : World) (h : HasO w) : Calls Tryd.prog 8 #[] w (AggPost w (.bool true)) := by
  have hwb : Below w.heap.size w (((w.alloc (.cells #[.string ⟨#[105, 48]⟩] 9)).alloc (.cells (alC 0) 32)).alloc (.cells #[.slice (some ⟨w.heap.size, 0, none⟩) 1 1, .string ⟨#[48]⟩, .string ⟨#[48]⟩, .slice (some ⟨w.heap.size + 1, 0, none⟩) 4 4] 25)) := (((Below.refl _ _).alloc (Nat.le_refl _) _).alloc (by simp) _).alloc (by simp; omega) _
  have s1 : (w.alloc (.cells #[.string ⟨#[105, 48]⟩] 9)).heap.size = w.heap.size + 1 := World.size_alloc _ _
  have s2 : ((w.alloc (.cells #[.string ⟨#[105, 48]⟩] 9)).alloc (.cells (alC 0) 32)).heap.size = w.heap.size + 1 + 1 := by rw [World.size_alloc, s1]
  have k1 : blk (w.alloc (.cells #[.string ⟨#[105, 48]⟩] 9)) w.heap.size #[.string ⟨#[105, 48]⟩] 9 := blk_new _ _ _
  have k2 : blk ((w.alloc (.cells #[.string ⟨#[105, 48]⟩] 9)).alloc (.cells (alC 0) 32)) (w.heap.size + 1) (alC 0) 32 := by rw [← s1]; exact blk_new _ _ _
  have hp : ProgAt ((w.alloc (.cells #[.string ⟨#[105, 48]⟩] 9)).alloc (.cells (alC 0) 32)) (.agg (progC (.slice (some ⟨w.heap.size, 0, none⟩) 1 1) PA (.slice (some ⟨w.heap.size + 1, 0, none⟩) 4 4))) PA :=
    ⟨_, _, rfl, row_blk (blk_alloc k1 _) (by decide), insRow_blk (is := PA.code) k2 rfl (by decide)⟩
  have kp := keep_new hp
  rw [s2] at kp
  exact alive_at w _ rfl (Lib.hid kp) (Lib.hid (blk_alloc k2 _)) (Lib.hid hwb) (Lib.hid h) (Lib.hid (blk_alloc (blk_alloc k1 _) _))
end Go.Proofs.YtclkccbihnccgaaDoor
