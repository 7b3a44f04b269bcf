/-
  Layer 6: the contract of alive: answers that the document fixes.
-/
import Derived.Test.YtmnoohpkjgjphaaDoorPRun
import Derived.Test.YtmnoohpkjgjphaaDoorMNums
namespace Go.Proofs.YtmnoohpkjgjphaaDoor
set_option linter.unusedSimpArgs false
set_option linter.unusedVariables false
open Go.RowKit

def MA : PProg := ⟨[[105]], [48], [], [⟨1, 0, 0, 0, 5⟩, ⟨5, 0, 0, 0, 0⟩, ⟨9, 0, 0, 0, 0⟩, ⟨8, 1, 0, 0, 0⟩, ⟨14, 1, 0, 0, 0⟩]⟩
def MB : PProg := ⟨[[105]], [48], [], [⟨1, 0, 0, 0, 5⟩, ⟨6, 0, 0, 0, 0⟩, ⟨9, 0, 0, 0, 0⟩, ⟨8, 1, 0, 0, 0⟩, ⟨14, 1, 0, 0, 0⟩]⟩
theorem ma_5 : runL MA 5 = ([5], 0) := by kernel_rfl
theorem ma_4 : runL MA 4 = ([], 10) := by kernel_rfl
theorem mb_9 : runL MB 9 = ([], 9) := by kernel_rfl
theorem ma_ok : OkP MA := ⟨by intro t ht; simp [MA] at ht; subst ht; decide, by decide, by decide, by intro i hi; simp [MA] at hi; rcases hi with rfl | rfl | rfl | rfl | rfl <;> (constructor <;> decide)⟩
theorem mb_ok : OkP MB := ⟨by intro t ht; simp [MB] at ht; subst ht; decide, by decide, by decide, by intro i hi; simp [MB] at hi; rcases hi with rfl | rfl | rfl | rfl | rfl <;> (constructor <;> decide)⟩
theorem keep_putM {w : World} {b g : Nat} {vt : Value} {p q : PProg} {cs cs' : Array Value} (h : Keep w b vt (.slice (some ⟨g, 0, none⟩) p.code.length p.code.length) p) (hg : blk w g cs 55) (hne : b ≠ g) (ht : RowAt (putB w g cs' 55) vt (q.types.map str)) (e1 : q.locals = p.locals) (e2 : q.globs = p.globs) (e3 : q.code.length = p.code.length) (hc : cs'.toList = codeCells q.code) (hl : q.code.length ≤ maxLen) :
    Keep (putB w g cs' 55) b vt (.slice (some ⟨g, 0, none⟩) p.code.length p.code.length) q := by
  have hb : blk (putB w g cs' 55) b (progC vt p (.slice (some ⟨g, 0, none⟩) p.code.length p.code.length)) 25 := by unfold blk; rw [putB_ne _ hne]; exact h.blk
  have he : progC vt p (.slice (some ⟨g, 0, none⟩) p.code.length p.code.length) = progC vt q (.slice (some ⟨g, 0, none⟩) p.code.length p.code.length) := by unfold progC; rw [e1, e2]
  refine ⟨by rw [← he]; exact hb, vt, _, rfl, ht, ?_⟩
  have := insRow_blk (is := q.code) (putB_at hg cs' 55) hc hl
  rw [e3] at this
  exact this
abbrev maC (n : Int) : Array Value := #[.int .u8 1, .int .u8 0, .int .u8 0, .int .u8 0, .int .i64 5, .int .u8 n, .int .u8 0, .int .u8 0, .int .u8 0, .int .i64 0, .int .u8 9, .int .u8 0, .int .u8 0, .int .u8 0, .int .i64 0, .int .u8 8, .int .u8 1, .int .u8 0, .int .u8 0, .int .i64 0, .int .u8 14, .int .u8 1, .int .u8 0, .int .u8 0, .int .i64 0]
theorem ma_put {w1 : World} {B : Nat} (h : Keep w1 (B + 1 + 1) (.slice (some ⟨B, 0, none⟩) 1 1) (.slice (some ⟨B + 1, 0, none⟩) 5 5) MA) (hc : blk w1 (B + 1) (maC 5) 55) (ht : blk w1 B #[.string ⟨#[105]⟩] 9) :
    Keep (w1.setCell ⟨B + 1, 5, none⟩ (.int .u8 6)) (B + 1 + 1) (.slice (some ⟨B, 0, none⟩) 1 1) (.slice (some ⟨B + 1, 0, none⟩) 5 5) MB := by
  rw [setCell_putB hc]
  have ht' : blk (putB w1 (B + 1) (maC 6) 55) B #[.string ⟨#[105]⟩] 9 := by unfold blk; rw [putB_ne _ (by omega)]; exact ht
  exact keep_putM (p := MA) (q := MB) (cs' := maC 6) h hc (by omega) (row_blk ht' (by decide)) rfl rfl rfl rfl (by decide)
theorem cell_setC {w : World} {b b' o o' : Nat} {u v : Value} (hne : b ≠ b' ∨ o' ≠ o) (h : w.cell? ⟨b', o', none⟩ = some u) : (w.setCell ⟨b, o, none⟩ v).cell? ⟨b', o', none⟩ = some u := by
  by_cases hb : b = b'
  · subst hb
    have ho : o' ≠ o := hne.resolve_left (by simp)
    unfold World.cell? at h ⊢
    unfold World.setCell
    simp only [Array.getElem?_modify, if_true] at h ⊢
    revert h
    rcases w.heap[b]? with _ | x
    · simp
    · cases x <;> simp
      intro h
      rw [Array.getElem?_setIfInBounds, if_neg (fun e => ho e.symm)]
      exact h
  · rw [World.cell?_setCell_far w _ _ _ hb]; exact h
theorem row_five {w : World} {v : Value} (h : RowN w v (i64s [5])) : ∃ b o c, v = .slice (some ⟨b, o, none⟩) 1 c ∧ 1 ≤ c ∧ c ≤ 9223372036854775807 ∧ b < w.heap.size ∧ w.cell? ⟨b, o, none⟩ = some (.int .i64 5) := by
  rcases h.cases with ⟨h0, _⟩ | ⟨_, b, o, c, rfl, g1, g2, hl, hc⟩
  · simp at h0
  · exact ⟨b, o, c, rfl, by simpa using g1, by unfold maxLen at g2; omega, hl, hc 0 _ rfl⟩
theorem run_z (v : Value) (p : PProg) (w : World) (fuel : Int) (l : List Int) (z : Nat) (h : ProgAt w v p) (hs : OkP p) (ho : HasO w) (hf : fuel ≤ 1000000) (hr : runL p fuel = (l, z)) : Calls Tryd.prog 15 #[v, .int .i64 fuel] w (RunPost w l z) := by
  have := mrun_n v p w fuel h hs ho hf
  rw [hr] at this
  exact this
set_option maxRecDepth 100000 in
set_option maxHeartbeats 2000000 in
theorem malive_at (w W0 : World) (hW0 : W0 = ((w.alloc (.cells #[.string ⟨#[105]⟩] 9)).alloc (.cells (maC 5) 55)).alloc (.cells #[.slice (some ⟨w.heap.size, 0, none⟩) 1 1, .string ⟨#[48]⟩, .string ⟨#[]⟩, .slice (some ⟨w.heap.size + 1, 0, none⟩) 5 5] 25))
    (KP : Hid (Keep W0 (w.heap.size + 1 + 1) (.slice (some ⟨w.heap.size, 0, none⟩) 1 1) (.slice (some ⟨w.heap.size + 1, 0, none⟩) 5 5) MA)) (KC : Hid (blk W0 (w.heap.size + 1) (maC 5) 55)) (HS : Hid (Below w.heap.size w W0)) (HO : Hid (HasO w)) (KT : Hid (blk W0 w.heap.size #[.string ⟨#[105]⟩] 9)) :
    Calls Tryd.prog 11 #[] w (AggPost w (.bool true)) := by
  go_enter Tryd.func11, Tryd.ntmps11
  go_wp2_with (fail)
  rw [← hW0]
  clear hW0
  have HF1 := Lib.hid ma_5
  have HF2 := Lib.hid ma_4
  have HF3 := Lib.hid mb_9
  go_wp2_with (first
    | (refine wpList_loadB rfl 25 _ rfl (w.heap.size + 1 + 1) (progC (.slice (some ⟨w.heap.size, 0, none⟩) 1 1) MA (.slice (some ⟨w.heap.size + 1, 0, none⟩) 5 5)) rfl 25 K1.out.blk _ Tryd.underlying25 rfl prog_info ?_)
    | (refine wpList_loadB rfl 25 _ rfl (w.heap.size + 1 + 1) (progC (.slice (some ⟨w.heap.size, 0, none⟩) 1 1) MB (.slice (some ⟨w.heap.size + 1, 0, none⟩) 5 5)) rfl 25 K3.out.blk _ Tryd.underlying25 rfl prog_info ?_)
    | (go_at_call 15; refine (run_z _ MA _ 5 [5] 0 KP.out.at' ma_ok (HO.out.below HS.out) (by decide) HF1.out).mono ?_; rintro e w1 ⟨vt1, rfl, hn1, hb⟩; clear HF1; obtain ⟨b1, o1, c1, hv1, g1, g2, hl1, hc1⟩ := row_five hn1; subst hv1; have K1 := Lib.hid (KP.out.below hb); have KC1 := Lib.hid (blk_below KC.out hb); have KT1 := Lib.hid (blk_below KT.out hb); have HB1 := Lib.hid (HS.out.trans (hb.mono HS.out.size)); have HL1 := Lib.hid hl1; have HC1 := Lib.hid hc1; clear hb hn1 hl1 hc1)
    | (go_at_call 15; refine (run_z _ MA _ 4 [] 10 K1.out.at' ma_ok (HO.out.below HB1.out) (by decide) HF2.out).mono ?_; rintro e w2 ⟨vt2, rfl, hn2, hb⟩; clear HF2
       have KK := Lib.hid (K1.out.below hb); have KC2 := Lib.hid (blk_below KC1.out hb); have KT2 := Lib.hid (blk_below KT1.out hb); have HB2 := Lib.hid (HB1.out.trans (hb.mono HB1.out.size))
       have HL2 := Lib.hid (Nat.lt_of_lt_of_le HL1.out hb.size)
       have HC2 : Hid (w2.cell? ⟨b1, o1, none⟩ = some (.int .i64 5)) := Lib.hid (by rw [hb.cell (p := ⟨b1, o1, none⟩) HL1.out]; exact HC1.out)
       clear hb hn2 K1 HL1 HC1 KC1 KT1 HB1
       have p3 := blk_cell KK.out.blk 3 _ rfl
       have c5 : w2.cell? ⟨w.heap.size + 1, 5, none⟩ = some (.int .u8 5) := blk_cell KC2.out 5 _ rfl
       have f5 := blk_frozen KC2.out 5
       have K3 := Lib.hid (ma_put KK.out KC2.out KT2.out)
       have HB3 := Lib.hid (HB2.out.setCell (p := ⟨w.heap.size + 1, 5, none⟩) (Nat.le_succ _) (.int .u8 6))
       have HC3 : Hid ((w2.setCell ⟨w.heap.size + 1, 5, none⟩ (.int .u8 6)).cell? ⟨b1, o1, none⟩ = some (.int .i64 5)) := Lib.hid (by
         have hne : w.heap.size + 1 ≠ b1 ∨ o1 ≠ 5 := by
           by_cases h : w.heap.size + 1 = b1
           · right; rintro rfl; have := HC2.out; rw [← h, c5] at this; simp at this
           · exact .inl h
         exact cell_setC hne HC2.out)
       have HL3 : Hid (b1 < (w2.setCell ⟨w.heap.size + 1, 5, none⟩ (.int .u8 6)).heap.size) := Lib.hid (by simpa using HL2.out))
    | (go_at_call 15; refine (run_z _ MB _ 9 [] 9 K3.out.at' mb_ok (HO.out.below HB3.out) (by decide) HF3.out).mono ?_; rintro e w3 ⟨vt3, rfl, hn3, hb⟩; clear HF3
       have HB4 := Lib.hid (HB3.out.trans (hb.mono HB3.out.size))
       have c0 : w3.cell? ⟨b1, o1, none⟩ = some (.int .i64 5) := by rw [hb.cell (p := ⟨b1, o1, none⟩) HL3.out]; exact HC3.out
       clear hb hn3 K3 HB3 HC3 HL3))
  go_ret
  exact ⟨rfl, HB4.out⟩
theorem malive_n (w : World) (h : HasO w) : Calls Tryd.prog 11 #[] w (AggPost w (.bool true)) := by
  have hwb : Below w.heap.size w (((w.alloc (.cells #[.string ⟨#[105]⟩] 9)).alloc (.cells (maC 5) 55)).alloc (.cells #[.slice (some ⟨w.heap.size, 0, none⟩) 1 1, .string ⟨#[48]⟩, .string ⟨#[]⟩, .slice (some ⟨w.heap.size + 1, 0, none⟩) 5 5] 25)) := (((Below.refl _ _).alloc (Nat.le_refl _) _).alloc (by simp) _).alloc (by simp; omega) _
  have s1 : (w.alloc (.cells #[.string ⟨#[105]⟩] 9)).heap.size = w.heap.size + 1 := World.size_alloc _ _
  have s2 : ((w.alloc (.cells #[.string ⟨#[105]⟩] 9)).alloc (.cells (maC 5) 55)).heap.size = w.heap.size + 1 + 1 := by rw [World.size_alloc, s1]
  have k1 : blk (w.alloc (.cells #[.string ⟨#[105]⟩] 9)) w.heap.size #[.string ⟨#[105]⟩] 9 := blk_new _ _ _
  have k2 : blk ((w.alloc (.cells #[.string ⟨#[105]⟩] 9)).alloc (.cells (maC 5) 55)) (w.heap.size + 1) (maC 5) 55 := by rw [← s1]; exact blk_new _ _ _
  have hp : ProgAt ((w.alloc (.cells #[.string ⟨#[105]⟩] 9)).alloc (.cells (maC 5) 55)) (.agg (progC (.slice (some ⟨w.heap.size, 0, none⟩) 1 1) MA (.slice (some ⟨w.heap.size + 1, 0, none⟩) 5 5))) MA :=
    ⟨_, _, rfl, row_blk (blk_alloc k1 _) (by decide), insRow_blk (is := MA.code) k2 rfl (by decide)⟩
  have kp := keep_new hp
  rw [s2] at kp
  exact malive_at w _ rfl (Lib.hid kp) (Lib.hid (blk_alloc k2 _)) (Lib.hid hwb) (Lib.hid h) (Lib.hid (blk_alloc (blk_alloc k1 _) _))
end Go.Proofs.YtmnoohpkjgjphaaDoor
