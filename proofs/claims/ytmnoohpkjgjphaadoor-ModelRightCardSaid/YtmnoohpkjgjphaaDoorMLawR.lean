/-
  Layer 6: the contract of alive: answers that the document fixes.
  ModelFurther: the walk.
  ModelPieces: the walk.
  Arrays of numbers, compared with themselves.
  The document's Same of a state with itself, wherever the two lie.
  ModelRight: what a range over letters needs; one pointer of a state.
  ModelEnd: the walk.
  ModelRight: the walk.
-/
import Derived.Test.YtmnoohpkjgjphaaDoorPRun
import Derived.Test.YtmnoohpkjgjphaaDoorMNums
import Derived.Deep.CutRange
import Derived.Deep.LoopGhost
import Derived.Deep.CutBlock
import Derived.Test.YtmnoohpkjgjphaaDoorMState
import Derived.ChangeKeysEq
import Derived.Test.YtmnoohpkjgjphaaDoorPGet
import Derived.StillTailTactics
import Derived.Test.YtmnoohpkjgjphaaDoorMChk
import Derived.Test.YtmnoohpkjgjphaaDoorZAll
import Derived.Laws.RangeString
import Derived.Deep.RegionHeld3

/- Layer 6: the contract of alive: answers that the document fixes. -/
namespace Go.Proofs.YtmnoohpkjgjphaaDoor
set_option linter.unusedSimpArgs false
set_option linter.unusedVariables false
open Go.RowKit

def MA : PProg := ⟨[[105]], [48], [], [⟨1, 0, 0, 0, 5⟩, ⟨5, 0, 0, 0, 0⟩, ⟨9, 0, 0, 0, 0⟩, ⟨8, 1, 0, 0, 0⟩, ⟨14, 1, 0, 0, 0⟩]⟩
def MB : PProg := ⟨[[105]], [48], [], [⟨1, 0, 0, 0, 5⟩, ⟨6, 0, 0, 0, 0⟩, ⟨9, 0, 0, 0, 0⟩, ⟨8, 1, 0, 0, 0⟩, ⟨14, 1, 0, 0, 0⟩]⟩
theorem ma_5 : runL MA 5 = ([5], 0) := by kernel_rfl
theorem ma_4 : runL MA 4 = ([], 10) := by kernel_rfl
theorem mb_9 : runL MB 9 = ([], 9) := by kernel_rfl
theorem ma_ok : OkP MA := ⟨by intro t ht; simp [MA] at ht; subst ht; decide, by decide, by decide, by intro i hi; simp [MA] at hi; rcases hi with rfl | rfl | rfl | rfl | rfl <;> (constructor <;> decide)⟩
theorem mb_ok : OkP MB := ⟨by intro t ht; simp [MB] at ht; subst ht; decide, by decide, by decide, by intro i hi; simp [MB] at hi; rcases hi with rfl | rfl | rfl | rfl | rfl <;> (constructor <;> decide)⟩
theorem keep_putM {w : World} {b g : Nat} {vt : Value} {p q : PProg} {cs cs' : Array Value} (h : Keep w b vt (.slice (some ⟨g, 0, none⟩) p.code.length p.code.length) p) (hg : blk w g cs 55) (hne : b ≠ g) (ht : RowAt (putB w g cs' 55) vt (q.types.map str)) (e1 : q.locals = p.locals) (e2 : q.globs = p.globs) (e3 : q.code.length = p.code.length) (hc : cs'.toList = codeCells q.code) (hl : q.code.length ≤ maxLen) :
    Keep (putB w g cs' 55) b vt (.slice (some ⟨g, 0, none⟩) p.code.length p.code.length) q := by
  have hb : blk (putB w g cs' 55) b (progC vt p (.slice (some ⟨g, 0, none⟩) p.code.length p.code.length)) 25 := by unfold blk; rw [putB_ne _ hne]; exact h.blk
  have he : progC vt p (.slice (some ⟨g, 0, none⟩) p.code.length p.code.length) = progC vt q (.slice (some ⟨g, 0, none⟩) p.code.length p.code.length) := by unfold progC; rw [e1, e2]
  refine ⟨by rw [← he]; exact hb, vt, _, rfl, ht, ?_⟩
  have := insRow_blk (is := q.code) (putB_at hg cs' 55) hc hl
  rw [e3] at this
  exact this
abbrev maC (n : Int) : Array Value := #[.int .u8 1, .int .u8 0, .int .u8 0, .int .u8 0, .int .i64 5, .int .u8 n, .int .u8 0, .int .u8 0, .int .u8 0, .int .i64 0, .int .u8 9, .int .u8 0, .int .u8 0, .int .u8 0, .int .i64 0, .int .u8 8, .int .u8 1, .int .u8 0, .int .u8 0, .int .i64 0, .int .u8 14, .int .u8 1, .int .u8 0, .int .u8 0, .int .i64 0]
theorem ma_put {w1 : World} {B : Nat} (h : Keep w1 (B + 1 + 1) (.slice (some ⟨B, 0, none⟩) 1 1) (.slice (some ⟨B + 1, 0, none⟩) 5 5) MA) (hc : blk w1 (B + 1) (maC 5) 55) (ht : blk w1 B #[.string ⟨#[105]⟩] 9) :
    Keep (w1.setCell ⟨B + 1, 5, none⟩ (.int .u8 6)) (B + 1 + 1) (.slice (some ⟨B, 0, none⟩) 1 1) (.slice (some ⟨B + 1, 0, none⟩) 5 5) MB := by
  rw [setCell_putB hc]
  have ht' : blk (putB w1 (B + 1) (maC 6) 55) B #[.string ⟨#[105]⟩] 9 := by unfold blk; rw [putB_ne _ (by omega)]; exact ht
  exact keep_putM (p := MA) (q := MB) (cs' := maC 6) h hc (by omega) (row_blk ht' (by decide)) rfl rfl rfl rfl (by decide)
theorem cell_setC {w : World} {b b' o o' : Nat} {u v : Value} (hne : b ≠ b' ∨ o' ≠ o) (h : w.cell? ⟨b', o', none⟩ = some u) : (w.setCell ⟨b, o, none⟩ v).cell? ⟨b', o', none⟩ = some u := by
  by_cases hb : b = b'
  · subst hb
    have ho : o' ≠ o := hne.resolve_left (by simp)
    unfold World.cell? at h ⊢
    unfold World.setCell
    simp only [Array.getElem?_modify, if_true] at h ⊢
    revert h
    rcases w.heap[b]? with _ | x
    · simp
    · cases x <;> simp
      intro h
      rw [Array.getElem?_setIfInBounds, if_neg (fun e => ho e.symm)]
      exact h
  · rw [World.cell?_setCell_far w _ _ _ hb]; exact h
theorem row_five {w : World} {v : Value} (h : RowN w v (i64s [5])) : ∃ b o c, v = .slice (some ⟨b, o, none⟩) 1 c ∧ 1 ≤ c ∧ c ≤ 9223372036854775807 ∧ b < w.heap.size ∧ w.cell? ⟨b, o, none⟩ = some (.int .i64 5) := by
  rcases h.cases with ⟨h0, _⟩ | ⟨_, b, o, c, rfl, g1, g2, hl, hc⟩
  · simp at h0
  · exact ⟨b, o, c, rfl, by simpa using g1, by unfold maxLen at g2; omega, hl, hc 0 _ rfl⟩
theorem run_z (v : Value) (p : PProg) (w : World) (fuel : Int) (l : List Int) (z : Nat) (h : ProgAt w v p) (hs : OkP p) (ho : HasO w) (hf : fuel ≤ 1000000) (hr : runL p fuel = (l, z)) : Calls Tryd.prog 15 #[v, .int .i64 fuel] w (RunPost w l z) := by
  have := mrun_n v p w fuel h hs ho hf
  rw [hr] at this
  exact this
set_option maxRecDepth 100000 in
set_option maxHeartbeats 2000000 in
theorem malive_at (w W0 : World) (hW0 : W0 = ((w.alloc (.cells #[.string ⟨#[105]⟩] 9)).alloc (.cells (maC 5) 55)).alloc (.cells #[.slice (some ⟨w.heap.size, 0, none⟩) 1 1, .string ⟨#[48]⟩, .string ⟨#[]⟩, .slice (some ⟨w.heap.size + 1, 0, none⟩) 5 5] 25))
    (KP : Hid (Keep W0 (w.heap.size + 1 + 1) (.slice (some ⟨w.heap.size, 0, none⟩) 1 1) (.slice (some ⟨w.heap.size + 1, 0, none⟩) 5 5) MA)) (KC : Hid (blk W0 (w.heap.size + 1) (maC 5) 55)) (HS : Hid (Below w.heap.size w W0)) (HO : Hid (HasO w)) (KT : Hid (blk W0 w.heap.size #[.string ⟨#[105]⟩] 9)) :
    Calls Tryd.prog 11 #[] w (AggPost w (.bool true)) := by
  go_enter Tryd.func11, Tryd.ntmps11
  go_wp2_with (fail)
  rw [← hW0]
  clear hW0
  have HF1 := Lib.hid ma_5
  have HF2 := Lib.hid ma_4
  have HF3 := Lib.hid mb_9
  go_wp2_with (first
    | (refine wpList_loadB rfl 25 _ rfl (w.heap.size + 1 + 1) (progC (.slice (some ⟨w.heap.size, 0, none⟩) 1 1) MA (.slice (some ⟨w.heap.size + 1, 0, none⟩) 5 5)) rfl 25 K1.out.blk _ Tryd.underlying25 rfl prog_info ?_)
    | (refine wpList_loadB rfl 25 _ rfl (w.heap.size + 1 + 1) (progC (.slice (some ⟨w.heap.size, 0, none⟩) 1 1) MB (.slice (some ⟨w.heap.size + 1, 0, none⟩) 5 5)) rfl 25 K3.out.blk _ Tryd.underlying25 rfl prog_info ?_)
    | (go_at_call 15; refine (run_z _ MA _ 5 [5] 0 KP.out.at' ma_ok (HO.out.below HS.out) (by decide) HF1.out).mono ?_; rintro e w1 ⟨vt1, rfl, hn1, hb⟩; clear HF1; obtain ⟨b1, o1, c1, hv1, g1, g2, hl1, hc1⟩ := row_five hn1; subst hv1; have K1 := Lib.hid (KP.out.below hb); have KC1 := Lib.hid (blk_below KC.out hb); have KT1 := Lib.hid (blk_below KT.out hb); have HB1 := Lib.hid (HS.out.trans (hb.mono HS.out.size)); have HL1 := Lib.hid hl1; have HC1 := Lib.hid hc1; clear hb hn1 hl1 hc1)
    | (go_at_call 15; refine (run_z _ MA _ 4 [] 10 K1.out.at' ma_ok (HO.out.below HB1.out) (by decide) HF2.out).mono ?_; rintro e w2 ⟨vt2, rfl, hn2, hb⟩; clear HF2
       have KK := Lib.hid (K1.out.below hb); have KC2 := Lib.hid (blk_below KC1.out hb); have KT2 := Lib.hid (blk_below KT1.out hb); have HB2 := Lib.hid (HB1.out.trans (hb.mono HB1.out.size))
       have HL2 := Lib.hid (Nat.lt_of_lt_of_le HL1.out hb.size)
       have HC2 : Hid (w2.cell? ⟨b1, o1, none⟩ = some (.int .i64 5)) := Lib.hid (by rw [hb.cell (p := ⟨b1, o1, none⟩) HL1.out]; exact HC1.out)
       clear hb hn2 K1 HL1 HC1 KC1 KT1 HB1
       have p3 := blk_cell KK.out.blk 3 _ rfl
       have c5 : w2.cell? ⟨w.heap.size + 1, 5, none⟩ = some (.int .u8 5) := blk_cell KC2.out 5 _ rfl
       have f5 := blk_frozen KC2.out 5
       have K3 := Lib.hid (ma_put KK.out KC2.out KT2.out)
       have HB3 := Lib.hid (HB2.out.setCell (p := ⟨w.heap.size + 1, 5, none⟩) (Nat.le_succ _) (.int .u8 6))
       have HC3 : Hid ((w2.setCell ⟨w.heap.size + 1, 5, none⟩ (.int .u8 6)).cell? ⟨b1, o1, none⟩ = some (.int .i64 5)) := Lib.hid (by
         have hne : w.heap.size + 1 ≠ b1 ∨ o1 ≠ 5 := by
           by_cases h : w.heap.size + 1 = b1
           · right; rintro rfl; have := HC2.out; rw [← h, c5] at this; simp at this
           · exact .inl h
         exact cell_setC hne HC2.out)
       have HL3 : Hid (b1 < (w2.setCell ⟨w.heap.size + 1, 5, none⟩ (.int .u8 6)).heap.size) := Lib.hid (by simpa using HL2.out))
    | (go_at_call 15; refine (run_z _ MB _ 9 [] 9 K3.out.at' mb_ok (HO.out.below HB3.out) (by decide) HF3.out).mono ?_; rintro e w3 ⟨vt3, rfl, hn3, hb⟩; clear HF3
       have HB4 := Lib.hid (HB3.out.trans (hb.mono HB3.out.size))
       have c0 : w3.cell? ⟨b1, o1, none⟩ = some (.int .i64 5) := by rw [hb.cell (p := ⟨b1, o1, none⟩) HL3.out]; exact HC3.out
       clear hb hn3 K3 HB3 HC3 HL3))
  go_ret
  exact ⟨rfl, HB4.out⟩
theorem malive_n (w : World) (h : HasO w) : Calls Tryd.prog 11 #[] w (AggPost w (.bool true)) := by
  have hwb : Below w.heap.size w (((w.alloc (.cells #[.string ⟨#[105]⟩] 9)).alloc (.cells (maC 5) 55)).alloc (.cells #[.slice (some ⟨w.heap.size, 0, none⟩) 1 1, .string ⟨#[48]⟩, .string ⟨#[]⟩, .slice (some ⟨w.heap.size + 1, 0, none⟩) 5 5] 25)) := (((Below.refl _ _).alloc (Nat.le_refl _) _).alloc (by simp) _).alloc (by simp; omega) _
  have s1 : (w.alloc (.cells #[.string ⟨#[105]⟩] 9)).heap.size = w.heap.size + 1 := World.size_alloc _ _
  have s2 : ((w.alloc (.cells #[.string ⟨#[105]⟩] 9)).alloc (.cells (maC 5) 55)).heap.size = w.heap.size + 1 + 1 := by rw [World.size_alloc, s1]
  have k1 : blk (w.alloc (.cells #[.string ⟨#[105]⟩] 9)) w.heap.size #[.string ⟨#[105]⟩] 9 := blk_new _ _ _
  have k2 : blk ((w.alloc (.cells #[.string ⟨#[105]⟩] 9)).alloc (.cells (maC 5) 55)) (w.heap.size + 1) (maC 5) 55 := by rw [← s1]; exact blk_new _ _ _
  have hp : ProgAt ((w.alloc (.cells #[.string ⟨#[105]⟩] 9)).alloc (.cells (maC 5) 55)) (.agg (progC (.slice (some ⟨w.heap.size, 0, none⟩) 1 1) MA (.slice (some ⟨w.heap.size + 1, 0, none⟩) 5 5))) MA :=
    ⟨_, _, rfl, row_blk (blk_alloc k1 _) (by decide), insRow_blk (is := MA.code) k2 rfl (by decide)⟩
  have kp := keep_new hp
  rw [s2] at kp
  exact malive_at w _ rfl (Lib.hid kp) (Lib.hid (blk_alloc k2 _)) (Lib.hid hwb) (Lib.hid h) (Lib.hid (blk_alloc (blk_alloc k1 _) _))
end Go.Proofs.YtmnoohpkjgjphaaDoor

/- ModelFurther: the walk. -/
namespace Go.Proofs.YtmnoohpkjgjphaaDoor
set_option linter.unusedSimpArgs false
set_option linter.unusedVariables false
open Go.RowKit

theorem rowN_form {w : World} {v : Value} {l : List Int} (h : RowN w v (i64s l)) : ∃ a c, v = .slice a l.length c ∧ l.length ≤ c ∧ c ≤ 9223372036854775807 := by
  obtain ⟨⟨a, c, rfl, h1, h2, h3⟩, -⟩ := h
  unfold maxLen at h2
  rw [i64s_len] at h1 ⊢
  exact ⟨a, c, rfl, h1, by omega⟩
theorem row_pre {w : World} {a : Option Addr} {n c : Nat} {l e : List Int} (h : RowAt w (.slice a n c) (i64s (l ++ e))) : RowAt w (.slice a l.length c) (i64s l) := by
  obtain ⟨a', c', he, h1, h2, h3⟩ := h
  simp only [Value.slice.injEq] at he
  obtain ⟨rfl, -, rfl⟩ := he
  refine ⟨a, c, by rw [i64s_len], by rw [i64s_len] at h1 ⊢; rw [List.length_append] at h1; omega, h2, ?_⟩
  rcases h3 with h3 | ⟨b, o, rfl, hb, hc⟩
  · left
    have := congrArg List.length h3
    simp at this
    simp [this.1]
  · exact .inr ⟨b, o, rfl, hb, fun j x hx => hc j x (by rw [show i64s (l ++ e) = i64s l ++ i64s e by simp]; rw [List.getElem?_append_left (List.getElem?_eq_some_iff.1 hx).1]; exact hx)⟩
set_option maxRecDepth 100000 in
set_option maxHeartbeats 2000000 in
theorem further_at (w W0 : World) (p : PProg) (a b : Nat) (l e : List Int) (z1 z2 : Nat) (f : Bool) (x x' : Option Addr) (k k' : Nat)
    (hW0 : W0 = w.alloc (.cells #[.slice x p.types.length k, str p.locals, str p.globs, .slice x' p.code.length k'] 25))
    (KP : Hid (Keep W0 w.heap.size (.slice x p.types.length k) (.slice x' p.code.length k') p)) (HS : Hid (Below w.heap.size w W0))
    (HAL : Hid (∀ w1, Below W0.heap.size W0 w1 → Calls Tryd.prog 11 #[] w1 (AggPost w1 (.bool true))))
    (HF : Hid (∀ w1, Below W0.heap.size W0 w1 → Calls Tryd.prog 10 #[.agg (progC (.slice x p.types.length k) p (.slice x' p.code.length k'))] w1 (AggPost w1 (.bool f))))
    (HR1 : Hid (∀ w1, Below W0.heap.size W0 w1 → Calls Tryd.prog 15 #[.agg (progC (.slice x p.types.length k) p (.slice x' p.code.length k')), .int .i64 a] w1 (RunPost w1 l z1)))
    (HR2 : Hid (∀ w1, Below W0.heap.size W0 w1 → Calls Tryd.prog 15 #[.agg (progC (.slice x p.types.length k) p (.slice x' p.code.length k')), .int .i64 ((a : Int) + b)] w1 (RunPost w1 (l ++ e) z2)))
    (ha : a ≤ 255) (hb : b ≤ 255) (hz : z1 ≠ 10 → z2 = z1 ∧ e = []) :
    Calls Tryd.prog 5 #[.agg (progC (.slice x p.types.length k) p (.slice x' p.code.length k')), .int .u8 a, .int .u8 b] w (AggPost w (.bool true)) := by
  have HB := Lib.hid (Below.refl W0.heap.size W0)
  go_enter Tryd.func5, Tryd.ntmps5
  go_wp2_with (fail)
  rw [← hW0]
  clear hW0
  rcases f with _ | _
  · go_wp2_with (first
      | (refine wpList_loadB rfl 25 _ rfl w.heap.size (progC (.slice x p.types.length k) p (.slice x' p.code.length k')) rfl 25 KP.out.blk _ Tryd.underlying25 rfl prog_info ?_)
      | (go_at_call 11; refine (HAL.out _ HB.out).mono ?_; rintro e1 w1 ⟨rfl, hb⟩; have HB := Lib.hid (HB.out.trans (hb.mono HB.out.size)); have KP := Lib.hid (KP.out.below hb); clear hb)
      | (go_at_call 10; refine (HF.out _ HB.out).mono ?_; rintro e1 w1 ⟨rfl, hb⟩; have HB := Lib.hid (HB.out.trans (hb.mono HB.out.size)); clear hb))
    go_ret
    exact ⟨rfl, HS.out.trans (HB.out.mono HS.out.size)⟩
  have HZ := Lib.hid hz
  clear hz
  go_upto_region 9 with (first
    | (refine wpList_loadB rfl 25 _ rfl w.heap.size (progC (.slice x p.types.length k) p (.slice x' p.code.length k')) rfl 25 KP.out.blk _ Tryd.underlying25 rfl prog_info ?_)
    | (go_at_call 11; refine (HAL.out _ HB.out).mono ?_; rintro e1 w1 ⟨rfl, hb⟩; have HB := Lib.hid (HB.out.trans (hb.mono HB.out.size)); have KP := Lib.hid (KP.out.below hb); clear hb)
    | (go_at_call 10; refine (HF.out _ HB.out).mono ?_; rintro e1 w2 ⟨rfl, hb⟩; have HB := Lib.hid (HB.out.trans (hb.mono HB.out.size)); have KP := Lib.hid (KP.out.below hb); clear hb)
    | (go_at_call 15; refine (HR1.out _ HB.out).mono ?_; rintro e1 w3 ⟨v1, rfl, hn1, hb⟩; clear HR1; have HB := Lib.hid (HB.out.trans (hb.mono HB.out.size)); have KP := Lib.hid (KP.out.below hb); clear hb; obtain ⟨a1, c1, hv1, g1, g2⟩ := rowN_form hn1; subst hv1; have HN1 := Lib.hid hn1.1; clear hn1)
    | (go_at_call 15; refine (HR2.out _ HB.out).mono ?_; rintro e1 w4 ⟨v2, rfl, hn2, hb⟩; clear HR2; have HB := Lib.hid (HB.out.trans (hb.mono HB.out.size)); have HN1 := Lib.hid (HN1.out.below hb); clear hb; obtain ⟨a2, c2, hv2, k1, k2⟩ := rowN_form hn2; subst hv2; have HN2 := Lib.hid (row_pre hn2.1); clear hn2; rw [List.length_append] at k1; have k3 := k1; have k4 : l.length ≤ l.length + e.length := Nat.le_add_right _ _; have k5 : l.length ≤ c2 := by omega)
    | (go_at_call 17; refine (nums_n _ _ l l true _ HN1.out HN2.out (by simp)).mono ?_; rintro e1 w5 ⟨rfl, hb⟩; have HB := Lib.hid (HB.out.trans (hb.mono HB.out.size)); clear hb))
  by_cases h10 : z1 = 10
  · have e10 : ((z1 : Int) == 10) = true := by simp [h10]
    clear h10
    go_wp2
    go_ret
    exact ⟨rfl, HS.out.trans (HB.out.mono HS.out.size)⟩
  · obtain ⟨hz2, he⟩ := HZ.out h10
    have e10 : ((z1 : Int) == 10) = false := by simp; omega
    subst hz2 he
    clear h10
    go_wp2
    go_ret
    exact ⟨rfl, HS.out.trans (HB.out.mono HS.out.size)⟩
theorem further_walk (v : Value) (p : PProg) (a b : Int) (w : World) (h : ProgAt w v p) (hs : OkP p) (ha0 : 0 ≤ a) (ha : a ≤ 255) (hb0 : 0 ≤ b) (hb : b ≤ 255) (ho : HasO w) : Calls Tryd.prog 5 #[v, .int .u8 a, .int .u8 b] w fun e w' => e = .returned (.bool true) ∧ Below w.heap.size w w' := by
  obtain ⟨vt, vc, rfl, ht, hc⟩ := id h
  have hwb : Below w.heap.size w (w.alloc (.cells (progC vt p vc) 25)) := (Below.refl _ _).alloc (Nat.le_refl _) _
  have HK := keep_new h
  obtain ⟨x, c, rfl, -, -, -⟩ := id ht.elems
  obtain ⟨x', c', rfl, -, -, -⟩ := id hc
  obtain ⟨ka, rfl⟩ : ∃ ka : Nat, a = ka := ⟨a.toNat, by omega⟩
  obtain ⟨kb, rfl⟩ : ∃ kb : Nat, b = kb := ⟨b.toNat, by omega⟩
  have ho' : ∀ {w1}, Below (w.alloc (.cells (progC (.slice x p.types.length c) p (.slice x' p.code.length c')) 25)).heap.size (w.alloc (.cells (progC (.slice x p.types.length c) p (.slice x' p.code.length c')) 25)) w1 → HasO w1 := fun hb1 => (ho.below hwb).below hb1
  have hp' : ∀ {w1}, Below (w.alloc (.cells (progC (.slice x p.types.length c) p (.slice x' p.code.length c')) 25)).heap.size (w.alloc (.cells (progC (.slice x p.types.length c) p (.slice x' p.code.length c')) 25)) w1 → ProgAt w1 _ p := fun hb1 => (h.below hwb).below hb1
  obtain ⟨⟨e, h1⟩, h2⟩ := law_further hs.ins ka kb (by omega)
  refine further_at w _ p ka kb (runL p ka).1 e (runL p ka).2 (runL p (ka + kb : Nat)).2 (fewP p) x x' c c' rfl (Lib.hid HK) (Lib.hid hwb) (Lib.hid fun w1 hb1 => malive_n w1 (ho' hb1)) (Lib.hid fun w1 hb1 => few_b _ p _ w1 (hp' hb1) hs rfl)
    (Lib.hid fun w1 hb1 => run_z _ p w1 ka _ _ (hp' hb1) hs (ho' hb1) (by omega) rfl) (Lib.hid fun w1 hb1 => run_z _ p w1 ((ka : Int) + kb) _ _ (hp' hb1) hs (ho' hb1) (by omega) ?_) (by omega) (by omega) (fun h10 => ?_)
  · rw [show ((ka : Int) + kb) = ((ka + kb : Nat) : Int) by omega, ← h1]
  · have := h2 h10
    refine ⟨by rw [this], ?_⟩
    rw [this] at h1
    have := congrArg List.length h1
    simp at this
    exact this
end Go.Proofs.YtmnoohpkjgjphaaDoor

/- ModelPieces: the walk. -/
namespace Go.Proofs.YtmnoohpkjgjphaaDoor
set_option linter.unusedSimpArgs false
set_option linter.unusedVariables false
open Go.RowKit

theorem state_size {s : PSt} {vo vt : Value} (h : LenS s) : (Tryd.prog.info? 34).map (·.size) = some (stC s vo vt).size := by rw [stC_size h]; exact state_info
theorem GridN.form {w : World} {v : Value} {xss : List (List Int)} (h : GridN w v xss) : ∃ a c, v = .slice a xss.length c ∧ xss.length ≤ c ∧ c ≤ 9223372036854775807 := by
  obtain ⟨rows, h1, ⟨⟨a, c, rfl, g1, g2, _⟩, _, _⟩, _⟩ := h
  unfold maxLen at g2
  exact ⟨a, c, by rw [h1], by omega, by omega⟩
theorem StN.one {w : World} {vo vt : Value} {s : PSt} (h : StN w vo vt s) : (stC s vo vt).all (·.oneCell') = true := by
  obtain ⟨a, c, rfl, _⟩ := h.objs.form
  obtain ⟨a', c', rfl, _⟩ := rowN_form h.out
  exact stC_one s rfl rfl
theorem size_run {p : PProg} {s : PSt} {ts : List Nat} {k : Nat} (hc : (checkL p).2 = 0) (h : RunOk p s ts k) (hk : k ≤ 1000000) : SizeOk s := by
  obtain ⟨hh, h1, h2, _⟩ := check_ok hc
  have hl := h.inv.lo
  have h3 := h.lt
  have h4 := h.lo
  refine ⟨by omega, by omega, fun xs hx => ?_, by have := h.pc; omega⟩
  obtain ⟨j, hj⟩ := List.getElem?_of_mem hx
  have hlt := (List.getElem?_eq_some_iff.1 hj).1
  have := h.inv.os j (by omega)
  rw [List.getD_eq_getElem?_getD, hj] at this
  have h6 : sizeP p.types (ts.getD j 0 : Nat) ≤ 6 := sizeI_le.2
  simp only [Option.getD_some] at this
  omega
theorem size_0 : SizeOk st0 := ⟨by decide, by decide, fun xs hx => by simp [st0] at hx, by decide⟩
/-- The world in a law that goes step by step: the program's block, the state's. -/
structure LwW (w wr : World) (b : Nat) (vt' vc : Value) (p : PProg) (s : PSt) (vo vt : Value) : Prop where
  below : Below w.heap.size w wr
  prog : blk wr w.heap.size (progC vt' p vc) 25
  st : blk wr b (stC s vo vt) 34
  at' : StN wr vo vt s
theorem LwW.put {w wr : World} {b : Nat} {vt' vc : Value} {p : PProg} {s t : PSt} {vo vt vo2 vt2 : Value} (h : LwW w wr b vt' vc p s vo vt) (ht : StN wr vo2 vt2 t) (hne : b ≠ w.heap.size) (hge : w.heap.size ≤ b) : LwW w (putB wr b (stC t vo2 vt2) 34) b vt' vc p t vo2 vt2 :=
  ⟨h.below.trans (putB_below _ hge _ _), by unfold blk; rw [putB_ne _ (fun e => hne e.symm)]; exact h.prog, putB_at h.st _ _, ht.putS h.st⟩
theorem LwW.next {w wr w' : World} {b : Nat} {vt' vc : Value} {p : PProg} {s : PSt} {vo vt : Value} (h : LwW w wr b vt' vc p s vo vt) (hb : Below wr.heap.size wr w') : LwW w w' b vt' vc p s vo vt :=
  ⟨h.below.trans (hb.mono h.below.size), blk_below h.prog hb, blk_below h.st hb, h.at'.below hb⟩
set_option maxRecDepth 100000 in
set_option maxHeartbeats 4000000 in
theorem pieces_at (w W0 : World) (p : PProg) (fuel : Nat) (l : List Int) (z : Nat) (f : Bool) (x x' : Option Addr) (k k' : Nat)
    (hW0 : W0 = w.alloc (.cells #[.slice x p.types.length k, str p.locals, str p.globs, .slice x' p.code.length k'] 25))
    (KP : Hid (Keep W0 w.heap.size (.slice x p.types.length k) (.slice x' p.code.length k') p)) (HS : Hid (Below w.heap.size w W0))
    (HAL : Hid (∀ w1, Below W0.heap.size W0 w1 → Calls Tryd.prog 11 #[] w1 (AggPost w1 (.bool true))))
    (HF : Hid (∀ w1, Below W0.heap.size W0 w1 → Calls Tryd.prog 10 #[.agg (progC (.slice x p.types.length k) p (.slice x' p.code.length k'))] w1 (AggPost w1 (.bool f))))
    (HR1 : Hid (∀ w1, Below W0.heap.size W0 w1 → Calls Tryd.prog 15 #[.agg (progC (.slice x p.types.length k) p (.slice x' p.code.length k')), .int .i64 fuel] w1 (RunPost w1 l z)))
    (HST : Hid (∀ w1 s vo vt ts n, Below w.heap.size w w1 → StN w1 vo vt s → SizeOk s → n ≤ 1000000 → ((checkL p).2 = 0 → RunOk p s ts n) → Calls Tryd.prog 12 #[.agg (progC (.slice x p.types.length k) p (.slice x' p.code.length k')), .agg (stC s vo vt)] w1 (StepPost w1 (stepL p s))))
    (ha : fuel ≤ 255) (HOK : Hid (OkP p)) (HG : Hid (((checkL p).2 = 0 → l = (goL p fuel st0).1.out ∧ z = (goL p fuel st0).2) ∧ ((checkL p).2 ≠ 0 → l = [] ∧ z = 2))) :
    Calls Tryd.prog 8 #[.agg (progC (.slice x p.types.length k) p (.slice x' p.code.length k')), .int .u8 fuel] w (AggPost w (.bool true)) := by
  have HB := Lib.hid (Below.refl W0.heap.size W0)
  go_enter Tryd.func8, Tryd.ntmps8
  go_wp2_with (fail)
  rw [← hW0]
  clear hW0
  rcases f with _ | _
  · go_wp2_with (first
      | (refine wpList_loadB rfl 25 _ rfl w.heap.size (progC (.slice x p.types.length k) p (.slice x' p.code.length k')) rfl 25 KP.out.blk _ Tryd.underlying25 rfl prog_info ?_)
      | (go_at_call 11; refine (HAL.out _ HB.out).mono ?_; rintro e1 w1 ⟨rfl, hb⟩; have HB := Lib.hid (HB.out.trans (hb.mono HB.out.size)); have KP := Lib.hid (KP.out.below hb); clear hb)
      | (go_at_call 10; refine (HF.out _ HB.out).mono ?_; rintro e1 w1 ⟨rfl, hb⟩; have HB := Lib.hid (HB.out.trans (hb.mono HB.out.size)); clear hb))
    go_ret
    exact ⟨rfl, HS.out.trans (HB.out.mono HS.out.size)⟩
  go_upto_region 6 with (first
    | (refine wpList_loadB rfl 25 _ rfl w.heap.size (progC (.slice x p.types.length k) p (.slice x' p.code.length k')) rfl 25 KP.out.blk _ Tryd.underlying25 rfl prog_info ?_)
    | (go_at_call 11; refine (HAL.out _ HB.out).mono ?_; rintro e1 w1 ⟨rfl, hb⟩; have HB := Lib.hid (HB.out.trans (hb.mono HB.out.size)); have KP := Lib.hid (KP.out.below hb); clear hb)
    | (go_at_call 10; refine (HF.out _ HB.out).mono ?_; rintro e1 w2 ⟨rfl, hb⟩; have HB := Lib.hid (HB.out.trans (hb.mono HB.out.size)); have KP := Lib.hid (KP.out.below hb); clear hb)
    | (go_at_call 15; refine (HR1.out _ HB.out).mono ?_; rintro e1 w3 ⟨v1, rfl, hn1, hb⟩; clear HR1; have HB := Lib.hid (HB.out.trans (hb.mono HB.out.size)); have KP := Lib.hid (KP.out.below hb); clear hb; obtain ⟨a1, c1, hv1, g1, g2⟩ := rowN_form hn1; subst hv1; have HN1 := Lib.hid hn1; clear hn1))
  have HBW := Lib.hid (HS.out.trans (HB.out.mono HS.out.size))
  clear HAL HF HB HS
  have HW0 : Hid (LwW w (w3.alloc (.cells zeroS 34)) w3.heap.size (.slice x p.types.length k) (.slice x' p.code.length k') p st0 (.slice none 0 0) (.slice none 0 0)) := Lib.hid ⟨HBW.out.alloc HBW.out.size _, blk_alloc KP.out.blk _, blk_new _ _ _, st0_n _⟩
  have HN0 : Hid (RowN (w3.alloc (.cells zeroS 34)) (.slice a1 l.length c1) (i64s l)) := Lib.hid (HN1.out.below ((Below.refl _ _).alloc (Nat.le_refl _) _))
  have hbne : w3.heap.size ≠ w.heap.size := by have := blk_lt KP.out.blk; omega
  have hbge : w.heap.size ≤ w3.heap.size := HBW.out.size
  obtain ⟨b, hb⟩ : ∃ b, b = w3.heap.size := ⟨_, rfl⟩
  go_upto_block 0 with (fail)
  rw [← hb] at HW0 hbne hbge ⊢
  obtain ⟨wb, hwb⟩ : ∃ wb, wb = w3.alloc (.cells zeroS 34) := ⟨_, rfl⟩
  rw [← hwb] at HW0 HN0 ⊢
  clear hb hwb KP HBW HN1
  go_wp2_with (fail)
  go_loopw [8, 9] (fun e i wr => ∃ (n : Nat) (s : PSt) (ts : List Nat) (vo vt : Value), n ≤ fuel + 1 ∧ i = .int .i64 n ∧ e = .int .i64 10 ∧ Hid (LwW w wr b (.slice x p.types.length k) (.slice x' p.code.length k') p s vo vt) ∧ Hid (RowN wr (.slice a1 l.length c1) (i64s l)) ∧
      Hid ((n ≤ fuel ∧ ((checkL p).2 ≠ 0 → n = 0 ∧ s = st0) ∧ ((checkL p).2 = 0 → RunOk p s ts n ∧ goL p (fuel - n) s = goL p fuel st0)) ∨ (n = fuel + 1 ∧ (checkL p).2 = 0 ∧ goL p fuel st0 = (s, 10) ∧ s.steps ≤ fuel))) (fun e i _ => fuel + 1 - (intOf i).toNat)
  case atStart => exact ⟨0, st0, [], _, _, Nat.zero_le _, rfl, rfl, HW0, HN0, Lib.hid (.inl ⟨Nat.zero_le _, fun _ => ⟨rfl, rfl⟩, fun _ => ⟨run_0 p, rfl⟩⟩)⟩
  case round =>
    obtain ⟨n, s, ts, vo, vt, hn, rfl, rfl, HW, HN, HQ⟩ := hrel
    clear HW0 HN0
    rcases HQ.out with ⟨hnf, hbad, hok⟩ | ⟨rfl, hc, hg, hsf⟩
    · have HSP : Hid (∀ w1, Below w.heap.size w w1 → StN w1 vo vt s → Calls Tryd.prog 12 #[.agg (progC (.slice x p.types.length k) p (.slice x' p.code.length k')), .agg (stC s vo vt)] w1 (StepPost w1 (stepL p s))) := Lib.hid fun w1 hb1 hs1 => by
        by_cases hc : (checkL p).2 = 0
        · exact HST.out w1 s vo vt ts n hb1 hs1 (size_run hc (hok hc).1 (by omega)) (by omega) (fun _ => (hok hc).1)
        · obtain ⟨_, rfl⟩ := hbad hc
          exact HST.out w1 st0 vo vt [] 0 hb1 hs1 size_0 (by omega) (fun h => absurd h hc)
      have hcase : (∃ (d : Bool) (z' : Nat), stepL p s = (s, d, z') ∧ (d = true ∨ z' ≠ 0) ∧ l = s.out ∧ z = z' ∧ s.steps ≤ fuel) ∨
          (∃ t ts', stepL p s = (t, false, 0) ∧ (checkL p).2 = 0 ∧ RunOk p t ts' (n + 1) ∧ (n < fuel → goL p (fuel - (n + 1)) t = goL p fuel st0) ∧ (n = fuel → goL p fuel st0 = (s, 10) ∧ s.steps ≤ fuel)) := by
        by_cases hc : (checkL p).2 = 0
        · obtain ⟨hr, hg⟩ := hok hc
          obtain ⟨hl, hz⟩ := HG.out.1 hc
          have hst := hr.st
          rcases step_one hc hr with ⟨_, he⟩ | ⟨i, hi, _, ⟨hd, he⟩ | ⟨t, hd, he⟩⟩
          · have hgo := go_end (fuel - n) he
            rw [hg] at hgo
            exact .inl ⟨true, 0, he, .inl rfl, by rw [hl, hgo], by rw [hz, hgo], by omega⟩
          · have hgo := go_zero (fuel - n) he
            rw [hg] at hgo
            exact .inl ⟨false, 9, he, .inr (by decide), by rw [hl, hgo], by rw [hz, hgo], by omega⟩
          · obtain ⟨ts', hrn, _⟩ := run_next hc HOK.out.ins (by omega) hr hi hd
            refine .inr ⟨t, ts', he, hc, hrn, fun hlt => ?_, fun heq => ?_⟩
            · rw [← hg, show fuel - n = (fuel - (n + 1)) + 1 by omega, go_step' _ he]
            · rw [heq, Nat.sub_self] at hg
              exact ⟨by rw [← hg]; exact go_fuel he, by omega⟩
        · obtain ⟨_, rfl⟩ := hbad hc
          obtain ⟨hl, hz⟩ := HG.out.2 hc
          exact .inl ⟨false, 2, step_bad hc, .inr (by decide), hl, hz, Nat.zero_le _⟩
      clear hbad hok HQ
      obtain ⟨av, cv, hvt, -, -⟩ := rowN_form HW.out.at'.out
      subst hvt
      have hsi : ∀ h : s.steps ≤ fuel, (s.steps : Int) ≤ (fuel : Int) := fun h => by omega
      rcases hcase with ⟨d, z', hs, hdz, hl, hz, hsf⟩ | ⟨t, ts', hs, hc, hrn, hlt', heq'⟩
      · rw [hs] at HSP
        subst hl hz
        have hsi := hsi hsf
        have HDZ := Lib.hid hdz
        clear hs hdz
        rcases d with _ | _
        · have ez : ((z : Int) != 0) = true := by have := HDZ.out.resolve_left (by decide); simp; omega
          go_wp2_with (first
          | (refine wpList_loadB rfl 25 _ rfl w.heap.size (progC (.slice x p.types.length k) p (.slice x' p.code.length k')) rfl 25 HW.out.prog _ Tryd.underlying25 rfl prog_info ?_)
          | (refine wpList_loadB rfl 34 _ rfl b (stC s vo (.slice av s.out.length cv)) rfl 34 HW.out.st _ Tryd.underlying34 rfl (state_size HW.out.at'.len) ?_)
          | (go_at_call 12; refine (HSP.out _ (HW.out.below) HW.out.at').mono ?_; rintro e1 w4 ⟨vo2, vt2, rfl, hst2, hb⟩; have HT := Lib.hid hst2; have HW := Lib.hid (HW.out.next hb); have HN := Lib.hid (HN.out.below hb); clear hb hst2)
          | (have HBT : Hid (Below w4.heap.size w4 (putB (w4.alloc (.cells zeroS 34)) w4.heap.size (stC s vo2 vt2) 34)) := Lib.hid (((Below.refl _ _).alloc (Nat.le_refl _) _).trans (putB_below _ (Nat.le_refl _) _ _))
             refine wpList_putB rfl 34 _ _ rfl w4.heap.size (stC s vo2 vt2) rfl rfl 34 zeroS (blk_new w4 zeroS 34) (state_size HT.out.len) (by rw [stC_size HT.out.len]; rfl) HT.out.one ?_
             have HW := Lib.hid (HW.out.next HBT.out)
             have HN := Lib.hid (HN.out.below HBT.out)
             have HT := Lib.hid (HT.out.below HBT.out)
             have KT := Lib.hid (putB_at (blk_new w4 zeroS 34) (stC s vo2 vt2) 34)
             clear HBT
             obtain ⟨-, c21, -, c23⟩ := stC_rest (vo := vo) (vt := .slice av s.out.length cv) HW.out.at'.len
             have c21 := blk_cell HW.out.st _ _ c21
             have c23 := blk_cell HW.out.st _ _ c23)
          | (go_at_call 17; refine (nums_n _ _ s.out s.out true _ HN.out.1 HW.out.at'.out.1 (by simp)).mono ?_; rintro e1 w5 ⟨rfl, hb⟩; have HW := Lib.hid (HW.out.next hb); clear hb c21 c23; obtain ⟨-, c21, -, c23⟩ := stC_rest (vo := vo) (vt := .slice av s.out.length cv) HW.out.at'.len; have c23 := blk_cell HW.out.st _ _ c23))
          go_ret
          exact ⟨rfl, HW.out.below⟩
        · go_wp2_with (first
          | (refine wpList_loadB rfl 25 _ rfl w.heap.size (progC (.slice x p.types.length k) p (.slice x' p.code.length k')) rfl 25 HW.out.prog _ Tryd.underlying25 rfl prog_info ?_)
          | (refine wpList_loadB rfl 34 _ rfl b (stC s vo (.slice av s.out.length cv)) rfl 34 HW.out.st _ Tryd.underlying34 rfl (state_size HW.out.at'.len) ?_)
          | (go_at_call 12; refine (HSP.out _ (HW.out.below) HW.out.at').mono ?_; rintro e1 w4 ⟨vo2, vt2, rfl, hst2, hb⟩; have HT := Lib.hid hst2; have HW := Lib.hid (HW.out.next hb); have HN := Lib.hid (HN.out.below hb); clear hb hst2)
          | (have HBT : Hid (Below w4.heap.size w4 (putB (w4.alloc (.cells zeroS 34)) w4.heap.size (stC s vo2 vt2) 34)) := Lib.hid (((Below.refl _ _).alloc (Nat.le_refl _) _).trans (putB_below _ (Nat.le_refl _) _ _))
             refine wpList_putB rfl 34 _ _ rfl w4.heap.size (stC s vo2 vt2) rfl rfl 34 zeroS (blk_new w4 zeroS 34) (state_size HT.out.len) (by rw [stC_size HT.out.len]; rfl) HT.out.one ?_
             have HW := Lib.hid (HW.out.next HBT.out)
             have HN := Lib.hid (HN.out.below HBT.out)
             have HT := Lib.hid (HT.out.below HBT.out)
             have KT := Lib.hid (putB_at (blk_new w4 zeroS 34) (stC s vo2 vt2) 34)
             clear HBT
             obtain ⟨-, c21, -, c23⟩ := stC_rest (vo := vo) (vt := .slice av s.out.length cv) HW.out.at'.len
             have c21 := blk_cell HW.out.st _ _ c21
             have c23 := blk_cell HW.out.st _ _ c23)
          | (go_at_call 17; refine (nums_n _ _ s.out s.out true _ HN.out.1 HW.out.at'.out.1 (by simp)).mono ?_; rintro e1 w5 ⟨rfl, hb⟩; have HW := Lib.hid (HW.out.next hb); clear hb c21 c23; obtain ⟨-, c21, -, c23⟩ := stC_rest (vo := vo) (vt := .slice av s.out.length cv) HW.out.at'.len; have c23 := blk_cell HW.out.st _ _ c23))
          go_ret
          exact ⟨rfl, HW.out.below⟩
      · rw [hs] at HSP
        clear hs hsi
        have HRN := Lib.hid hrn
        have HLT := Lib.hid hlt'
        have HEQ := Lib.hid heq'
        have HC := Lib.hid hc
        clear hrn hlt' heq' hc
        by_cases hnf' : n = fuel
        · go_wp2_with (first
          | (refine wpList_loadB rfl 25 _ rfl w.heap.size (progC (.slice x p.types.length k) p (.slice x' p.code.length k')) rfl 25 HW.out.prog _ Tryd.underlying25 rfl prog_info ?_)
          | (refine wpList_loadB rfl 34 _ rfl b (stC s vo (.slice av s.out.length cv)) rfl 34 HW.out.st _ Tryd.underlying34 rfl (state_size HW.out.at'.len) ?_)
          | (go_at_call 12; refine (HSP.out _ (HW.out.below) HW.out.at').mono ?_; rintro e1 w4 ⟨vo2, vt2, rfl, hst2, hb⟩; have HT := Lib.hid hst2; have HW := Lib.hid (HW.out.next hb); have HN := Lib.hid (HN.out.below hb); clear hb hst2)
          | (have HBT : Hid (Below w4.heap.size w4 (putB (w4.alloc (.cells zeroS 34)) w4.heap.size (stC t vo2 vt2) 34)) := Lib.hid (((Below.refl _ _).alloc (Nat.le_refl _) _).trans (putB_below _ (Nat.le_refl _) _ _))
             refine wpList_putB rfl 34 _ _ rfl w4.heap.size (stC t vo2 vt2) rfl rfl 34 zeroS (blk_new w4 zeroS 34) (state_size HT.out.len) (by rw [stC_size HT.out.len]; rfl) HT.out.one ?_
             have HW := Lib.hid (HW.out.next HBT.out)
             have HN := Lib.hid (HN.out.below HBT.out)
             have HT := Lib.hid (HT.out.below HBT.out)
             have KT := Lib.hid (putB_at (blk_new w4 zeroS 34) (stC t vo2 vt2) 34)
             clear HBT
             obtain ⟨-, c21, -, c23⟩ := stC_rest (vo := vo) (vt := .slice av s.out.length cv) HW.out.at'.len
             have c21 := blk_cell HW.out.st _ _ c21
             have c23 := blk_cell HW.out.st _ _ c23))
          obtain ⟨hge, hse⟩ := HEQ.out hnf'
          have HQ2 : Hid ((n + 1 ≤ fuel ∧ ((checkL p).2 ≠ 0 → n + 1 = 0 ∧ s = st0) ∧ ((checkL p).2 = 0 → RunOk p s ts (n + 1) ∧ goL p (fuel - (n + 1)) s = goL p fuel st0)) ∨ (n + 1 = fuel + 1 ∧ (checkL p).2 = 0 ∧ goL p fuel st0 = (s, 10) ∧ s.steps ≤ fuel)) := Lib.hid (.inr ⟨by omega, HC.out, hge, hse⟩)
          go_roundw
          case rel => exact ⟨n + 1, s, ts, _, _, by omega, by go_num, rfl, HW, HN, HQ2⟩
          case measure => simp [intOf]; omega
        · have hnl : n < fuel := by omega
          go_wp2_with (first
          | (refine wpList_loadB rfl 25 _ rfl w.heap.size (progC (.slice x p.types.length k) p (.slice x' p.code.length k')) rfl 25 HW.out.prog _ Tryd.underlying25 rfl prog_info ?_)
          | (refine wpList_loadB rfl 34 _ rfl b (stC s vo (.slice av s.out.length cv)) rfl 34 HW.out.st _ Tryd.underlying34 rfl (state_size HW.out.at'.len) ?_)
          | (go_at_call 12; refine (HSP.out _ (HW.out.below) HW.out.at').mono ?_; rintro e1 w4 ⟨vo2, vt2, rfl, hst2, hb⟩; have HT := Lib.hid hst2; have HW := Lib.hid (HW.out.next hb); have HN := Lib.hid (HN.out.below hb); clear hb hst2)
          | (have HBT : Hid (Below w4.heap.size w4 (putB (w4.alloc (.cells zeroS 34)) w4.heap.size (stC t vo2 vt2) 34)) := Lib.hid (((Below.refl _ _).alloc (Nat.le_refl _) _).trans (putB_below _ (Nat.le_refl _) _ _))
             refine wpList_putB rfl 34 _ _ rfl w4.heap.size (stC t vo2 vt2) rfl rfl 34 zeroS (blk_new w4 zeroS 34) (state_size HT.out.len) (by rw [stC_size HT.out.len]; rfl) HT.out.one ?_
             have HW := Lib.hid (HW.out.next HBT.out)
             have HN := Lib.hid (HN.out.below HBT.out)
             have HT := Lib.hid (HT.out.below HBT.out)
             have KT := Lib.hid (putB_at (blk_new w4 zeroS 34) (stC t vo2 vt2) 34)
             clear HBT
             obtain ⟨-, c21, -, c23⟩ := stC_rest (vo := vo) (vt := .slice av s.out.length cv) HW.out.at'.len
             have c21 := blk_cell HW.out.st _ _ c21
             have c23 := blk_cell HW.out.st _ _ c23)
          | (refine wpList_loadB rfl 34 _ rfl w4.heap.size (stC t vo2 vt2) rfl 34 KT.out _ Tryd.underlying34 rfl (state_size HT.out.len) ?_)
          | (refine wpList_putB rfl 34 _ _ rfl b (stC t vo2 vt2) rfl rfl 34 _ HW.out.st (state_size HT.out.len) (by rw [stC_size HW.out.at'.len, stC_size HT.out.len]) HT.out.one ?_; have HWB := Lib.hid HW.out.st; have HW := Lib.hid (HW.out.put HT.out hbne hbge); have HN := Lib.hid (HN.out.putS (xs' := stC t vo2 vt2) HWB.out); clear HT KT))
          have HQ2 : Hid ((n + 1 ≤ fuel ∧ ((checkL p).2 ≠ 0 → n + 1 = 0 ∧ t = st0) ∧ ((checkL p).2 = 0 → RunOk p t ts' (n + 1) ∧ goL p (fuel - (n + 1)) t = goL p fuel st0)) ∨ (n + 1 = fuel + 1 ∧ (checkL p).2 = 0 ∧ goL p fuel st0 = (t, 10) ∧ t.steps ≤ fuel)) := Lib.hid (.inl ⟨by omega, fun h => absurd HC.out h, fun _ => ⟨HRN.out, HLT.out (by omega)⟩⟩)
          go_roundw
          case rel => exact ⟨n + 1, t, ts', _, _, by omega, by go_num, rfl, HW, HN, HQ2⟩
          case measure => simp [intOf]; omega
    · clear HQ
      obtain ⟨hl, hz⟩ := HG.out.1 hc
      rw [hg] at hl hz
      subst hl hz
      obtain ⟨av, cv, hvt, -, -⟩ := rowN_form HW.out.at'.out
      subst hvt
      have hsi : (s.steps : Int) ≤ (fuel : Int) := by omega
      obtain ⟨-, c21, -, c23⟩ := stC_rest (vo := vo) (vt := .slice av s.out.length cv) HW.out.at'.len
      have c21 := blk_cell HW.out.st _ _ c21
      have c23 := blk_cell HW.out.st _ _ c23
      go_wp2_with (go_at_call 17; refine (nums_n _ _ s.out s.out true _ HN.out.1 HW.out.at'.out.1 (by simp)).mono ?_; rintro e1 w5 ⟨rfl, hb⟩; have HW := Lib.hid (HW.out.next hb); clear hb c21 c23; obtain ⟨-, c21, -, c23⟩ := stC_rest (vo := vo) (vt := .slice av s.out.length cv) HW.out.at'.len; have c23 := blk_cell HW.out.st _ _ c23)
      go_ret
      exact ⟨rfl, HW.out.below⟩
theorem pieces_walk (v : Value) (p : PProg) (a : Int) (w : World) (h : ProgAt w v p) (hs : OkP p) (ha0 : 0 ≤ a) (ha : a ≤ 255) (ho : HasO w) : Calls Tryd.prog 8 #[v, .int .u8 a] w fun e w' => e = .returned (.bool true) ∧ Below w.heap.size w w' := by
  obtain ⟨vt, vc, rfl, ht, hc⟩ := id h
  have hwb : Below w.heap.size w (w.alloc (.cells (progC vt p vc) 25)) := (Below.refl _ _).alloc (Nat.le_refl _) _
  have HK := keep_new h
  obtain ⟨x, c, rfl, -, -, -⟩ := id ht.elems
  obtain ⟨x', c', rfl, -, -, -⟩ := id hc
  obtain ⟨ka, rfl⟩ : ∃ ka : Nat, a = ka := ⟨a.toNat, by omega⟩
  have ho' : ∀ {w1}, Below (w.alloc (.cells (progC (.slice x p.types.length c) p (.slice x' p.code.length c')) 25)).heap.size (w.alloc (.cells (progC (.slice x p.types.length c) p (.slice x' p.code.length c')) 25)) w1 → HasO w1 := fun hb1 => (ho.below hwb).below hb1
  have hp' : ∀ {w1}, Below (w.alloc (.cells (progC (.slice x p.types.length c) p (.slice x' p.code.length c')) 25)).heap.size (w.alloc (.cells (progC (.slice x p.types.length c) p (.slice x' p.code.length c')) 25)) w1 → ProgAt w1 _ p := fun hb1 => (h.below hwb).below hb1
  refine pieces_at w _ p ka (runL p ka).1 (runL p ka).2 (fewP p) x x' c c' rfl (Lib.hid HK) (Lib.hid hwb) (Lib.hid fun w1 hb1 => malive_n w1 (ho' hb1)) (Lib.hid fun w1 hb1 => few_b _ p _ w1 (hp' hb1) hs rfl)
    (Lib.hid fun w1 hb1 => run_z _ p w1 ka _ _ (hp' hb1) hs (ho' hb1) (by omega) rfl) (Lib.hid fun w1 s vo vt ts n hb1 hs1 hz hn hr => mstep_n _ p w1 s vo vt ts n (h.below hb1) hs (ho.below hb1) hs1 hz hn hr) (by omega) (Lib.hid hs) (Lib.hid ⟨fun hc0 => ?_, fun hc0 => ?_⟩)
  · unfold runL
    rw [if_neg (by omega), Int.toNat_natCast]
    exact ⟨rfl, rfl⟩
  · unfold runL
    rw [if_pos (.inl hc0)]
    exact ⟨rfl, rfl⟩
end Go.Proofs.YtmnoohpkjgjphaaDoor

/- Arrays of numbers, compared with themselves. -/
namespace Go.Proofs.YtmnoohpkjgjphaaDoor
set_option linter.unusedSimpArgs false
set_option linter.unusedVariables false
open Go.RowKit

section
variable {P : Program}
theorem part_int (w : World) (e : TypeId) (xs : List Int) (j : Nat) (x : Int) (he : P.plainKey e = true) (hx : xs[j]? = some x) : (part e (i64s xs).toArray j).run P w = .ok (.int .i64 x) w :=
  run_part_plain w he (by simpa using i64s_get hx)
theorem items_same (w : World) (d : Nat) (e : TypeId) (xs : List Int) (hk : P.underlying e = some (.int .i64)) (he : P.plainKey e = true) : ∀ is : List Nat, (∀ i ∈ is, i < xs.length) → (Op.eqItems (d + 1) e 1 (i64s xs).toArray (i64s xs).toArray is).run P w = .ok true w
  | [], _ => by simp [Op.eqItems]
  | i :: is, h => by
    have hi := h i (by simp)
    obtain ⟨x, hx⟩ : ∃ x, xs[i]? = some x := ⟨_, List.getElem?_eq_getElem hi⟩
    have hp := part_int w e xs i x he hx
    rw [show i = i * 1 by omega] at hp
    simp only [Op.eqItems, Sem.run_bind, hp, Result.andThen_ok, run_equalIn_int w d e .i64 .i64 x x hk, beq_self_eq_true, Bool.not_true, Bool.false_eq_true, if_false]
    exact items_same w d e xs hk he is (fun j hj => h j (by simp [hj]))
/-- An array of numbers is itself. -/
theorem arr_same (w : World) {t e : TypeId} {n : Nat} {i : TypeInfo} (xs : List Int) (hu : P.underlying t = some (.array n e)) (hi : P.info? e = some i) (hc : P.cellsOf e = 1) (hk : P.underlying e = some (.int .i64)) (he : P.plainKey e = true) (hl : n ≤ xs.length) :
    (binOp .neq t (.agg (i64s xs).toArray) (.agg (i64s xs).toArray)).run P w = .ok (.bool false) w := by
  rw [run_neq_struct, show (10000 : Nat) = 9999 + 1 from rfl, run_equalIn_array w 9999 _ _ hu hi, hc, show (9999 : Nat) = 9998 + 1 from rfl, items_same w 9998 e xs hk he (List.range n) (fun j hj => by have := List.mem_range.1 hj; omega)]
  rfl
end
theorem info_some {t : TypeId} {z : Option Value × Nat × Nat} (h : (Tryd.prog.info? t).map (fun i => (i.zero, i.size, i.bytes)) = some z) : ∃ i, Tryd.prog.info? t = some i := by
  obtain ⟨i, hi, _⟩ := Option.map_eq_some_iff.1 h
  exact ⟨i, hi⟩
theorem info3 : (Tryd.prog.info? 3).map (fun i => (i.zero, i.size, i.bytes)) = some (some (.int .i64 0), 1, 8) := by kernel_rfl
theorem info2 : (Tryd.prog.info? 2).map (fun i => (i.zero, i.size, i.bytes)) = some (some (.int .i64 0), 1, 8) := by kernel_rfl
theorem infoX : (Tryd.prog.info? 28).map (·.size) = some 8 := by kernel_rfl
theorem infoP : (Tryd.prog.info? 29).map (·.size) = some 8 := by kernel_rfl
theorem infoG : (Tryd.prog.info? 30).map (·.size) = some 4 := by kernel_rfl
theorem same_X (w : World) (xs : List Int) (h : xs.length = 8) : (binOp .neq 28 (.agg (i64s xs).toArray) (.agg (i64s xs).toArray)).run Tryd.prog w = .ok (.bool false) w := by
  obtain ⟨i, hi⟩ := info_some info2
  exact arr_same w xs Tryd.underlying28 hi (by kernel_rfl) Tryd.underlying2 (by kernel_rfl) (by omega)
theorem same_P (w : World) (xs : List Int) (h : xs.length = 8) : (binOp .neq 29 (.agg (i64s xs).toArray) (.agg (i64s xs).toArray)).run Tryd.prog w = .ok (.bool false) w := by
  obtain ⟨i, hi⟩ := info_some info3
  exact arr_same w xs Tryd.underlying29 hi (by kernel_rfl) Tryd.underlying3 (by kernel_rfl) (by omega)
theorem same_G (w : World) (xs : List Int) (h : xs.length = 4) : (binOp .neq 30 (.agg (i64s xs).toArray) (.agg (i64s xs).toArray)).run Tryd.prog w = .ok (.bool false) w := by
  obtain ⟨i, hi⟩ := info_some info3
  exact arr_same w xs Tryd.underlying30 hi (by kernel_rfl) Tryd.underlying3 (by kernel_rfl) (by omega)
end Go.Proofs.YtmnoohpkjgjphaaDoor

/- The document's Same of a state with itself, wherever the two lie. -/
namespace Go.Proofs.YtmnoohpkjgjphaaDoor
set_option linter.unusedSimpArgs false
set_option linter.unusedVariables false
open Go.RowKit

/-- A row that is loaded behind a guard that says yes. -/
theorem wpList_load_want {ops : Array Oper} {rest : List Oper} {o : Oper} {a : Act} {w : World} {Q : Exit → Act → World → Prop} (hw : Region.wanted o (yielded ops a.tmps) = true) (ty : TypeId) (x : Operand) (ho : o.op = .load ty x)
    (b off : Nat) (hx : a.eval x = .pointer (some ⟨b, off, none⟩)) (cs : List Value) (d : TypeDesc) (hc : w.rangeAt b off cs) (hu : Tryd.prog.underlying ty = some d) (hd : d.isRow = true) (hi : (Tryd.prog.info? ty).map (·.size) = some cs.length)
    (h : wpList Tryd.prog ops Q rest (a.put o.dst (.agg cs.toArray)) w) : wpList Tryd.prog ops Q (o :: rest) a w :=
  BigFrame.wpList_want hw fun K hK => wp_load_mid ty x ho b off hx cs d hc hu hd hi (hK _ _ h)
theorem range_x {w : World} {b : Nat} {s : PSt} {vo vt : Value} {t : TypeId} (h : blk w b (stC s vo vt) t) (hl : LenS s) : w.rangeAt b 0 (i64s s.x) ∧ w.rangeAt b 8 (i64s s.p) ∧ w.rangeAt b 16 (i64s s.g) := by
  have key : ∀ (l : List Int) (j : Nat) (v : Value), (i64s l)[j]? = some v → v = .int .i64 (l.getD j 0) ∧ j < l.length := fun l j v hv => by
    have hj := (List.getElem?_eq_some_iff.1 hv).1
    rw [i64s_len] at hj
    refine ⟨?_, hj⟩
    have e : l[j]? = some (l.getD j 0) := by rw [List.getD_eq_getElem?_getD, List.getElem?_eq_getElem hj]; rfl
    rw [i64s_get e] at hv
    exact (Option.some.inj hv).symm
  refine ⟨fun j v hv => ?_, fun j v hv => ?_, fun j v hv => ?_⟩
  · obtain ⟨rfl, hj⟩ := key _ _ _ hv
    rw [Nat.zero_add]; exact blk_cell h _ _ (stC_x hl j (by have := hl.x; omega))
  · obtain ⟨rfl, hj⟩ := key _ _ _ hv
    exact blk_cell h _ _ (stC_p hl j (by have := hl.p; omega))
  · obtain ⟨rfl, hj⟩ := key _ _ _ hv
    exact blk_cell h _ _ (stC_g hl j (by have := hl.g; omega))
set_option maxRecDepth 100000 in
set_option maxHeartbeats 4000000 in
theorem same_at (w W0 : World) (s : PSt) (vt vt' : Value) (ao ao' : Option Addr) (co co' : Nat) (hW0 : W0 = (w.alloc (.cells (stC s (.slice ao s.objs.length co) vt) 35)).alloc (.cells (stC s (.slice ao' s.objs.length co') vt') 35)) (HS : Hid (Below w.heap.size w W0)) (HL : Hid (LenS s))
    (K1 : Hid (blk W0 w.heap.size (stC s (.slice ao s.objs.length co) vt) 35)) (K2 : Hid (blk W0 (w.heap.size + 1) (stC s (.slice ao' s.objs.length co') vt') 35)) (g1 : s.objs.length ≤ co) (g2 : co ≤ 9223372036854775807) (k1 : s.objs.length ≤ co') (k2 : co' ≤ 9223372036854775807)
    (HNU : Hid (∀ w1, Below w.heap.size w w1 → Calls Tryd.prog 17 #[vt, vt'] w1 (AggPost w1 (.bool true))))
    (HROW : Hid (∀ j : Nat, j < s.objs.length → ∃ (b o b' o' : Nat) (r r' : Value), ao = some ⟨b, o, none⟩ ∧ ao' = some ⟨b', o', none⟩ ∧ b < w.heap.size ∧ b' < w.heap.size ∧ w.cell? ⟨b, o + j, none⟩ = some r ∧ w.cell? ⟨b', o' + j, none⟩ = some r' ∧ ∀ w1, Below w.heap.size w w1 → Calls Tryd.prog 17 #[r, r'] w1 (AggPost w1 (.bool true)))) :
    Calls Tryd.prog 14 #[.agg (stC s (.slice ao s.objs.length co) vt), .agg (stC s (.slice ao' s.objs.length co') vt')] w (AggPost w (.bool true)) := by
  have HR1 := Lib.hid (range_x K1.out HL.out)
  have HR2 := Lib.hid (range_x K2.out HL.out)
  have qX := fun w => same_X w s.x HL.out.x
  have qP := fun w => same_P w s.p HL.out.p
  have qG := fun w => same_G w s.g HL.out.g
  have hx := HL.out.x
  have hp := HL.out.p
  have hg := HL.out.g
  have IX : (Tryd.prog.info? 28).map (·.size) = some (i64s s.x).length := by rw [i64s_len, hx]; exact infoX
  have IP : (Tryd.prog.info? 29).map (·.size) = some (i64s s.p).length := by rw [i64s_len, hp]; exact infoP
  have IG : (Tryd.prog.info? 30).map (·.size) = some (i64s s.g).length := by rw [i64s_len, hg]; exact infoG
  have HIX := Lib.hid IX
  have HIP := Lib.hid IP
  have HIG := Lib.hid IG
  obtain ⟨a20, a21, a22, a23⟩ := stC_rest (vo := .slice ao s.objs.length co) (vt := vt) HL.out
  obtain ⟨b20, b21, b22, b23⟩ := stC_rest (vo := .slice ao' s.objs.length co') (vt := vt') HL.out
  have c20 := blk_cell K1.out _ _ a20
  have c21 := blk_cell K1.out _ _ a21
  have c22 := blk_cell K1.out _ _ a22
  have c23 := blk_cell K1.out _ _ a23
  have d20 := blk_cell K2.out _ _ b20
  have d21 := blk_cell K2.out _ _ b21
  have d22 := blk_cell K2.out _ _ b22
  have d23 := blk_cell K2.out _ _ b23
  clear a20 a21 a22 a23 b20 b21 b22 b23 hx hp hg IX IP IG
  go_enter Tryd.func14, Tryd.ntmps14
  go_upto_region 1 with (fail)
  rw [← hW0]
  clear hW0
  go_upto_region 3 with (first
    | (refine wpList_load_mid rfl 28 _ rfl w.heap.size 0 rfl (i64s s.x) _ HR1.out.1 Tryd.underlying28 rfl HIX.out ?_)
    | (refine wpList_load_mid rfl 28 _ rfl (w.heap.size + 1) 0 rfl (i64s s.x) _ HR2.out.1 Tryd.underlying28 rfl HIX.out ?_)
    | (refine wpList_load_want (by rfl) 29 _ rfl w.heap.size 8 rfl (i64s s.p) _ HR1.out.2.1 Tryd.underlying29 rfl HIP.out ?_)
    | (refine wpList_load_want (by rfl) 29 _ rfl (w.heap.size + 1) 8 rfl (i64s s.p) _ HR2.out.2.1 Tryd.underlying29 rfl HIP.out ?_)
    | (refine wpList_load_want (by rfl) 30 _ rfl w.heap.size 16 rfl (i64s s.g) _ HR1.out.2.2 Tryd.underlying30 rfl HIG.out ?_)
    | (refine wpList_load_want (by rfl) 30 _ rfl (w.heap.size + 1) 16 rfl (i64s s.g) _ HR2.out.2.2 Tryd.underlying30 rfl HIG.out ?_)
    | (go_at_call 17; refine (HNU.out _ HS.out).mono ?_; rintro e w1 ⟨rfl, hb⟩; have HB1 := Lib.hid (HS.out.trans (hb.mono HS.out.size)); have KA := Lib.hid (blk_below K1.out hb); have KB := Lib.hid (blk_below K2.out hb); clear hb HNU c20 c21 c22 c23 d20 d21 d22 d23; obtain ⟨a20, a21, a22, a23⟩ := stC_rest (vo := .slice ao s.objs.length co) (vt := vt) HL.out; obtain ⟨b20, b21, b22, b23⟩ := stC_rest (vo := .slice ao' s.objs.length co') (vt := vt') HL.out; have c20 := blk_cell KA.out _ _ a20; have d20 := blk_cell KB.out _ _ b20; clear a20 a21 a22 a23 b20 b21 b22 b23))
  clear HR1 HR2 qX qP qG HIX HIP HIG K1 K2
  go_wp2_with (fail)
  go_loopw [5] (fun i wr => ∃ k : Nat, k ≤ s.objs.length ∧ i = .int .i64 k ∧ Hid (Below w.heap.size w wr) ∧ Hid (blk wr w.heap.size (stC s (.slice ao s.objs.length co) vt) 35) ∧ Hid (blk wr (w.heap.size + 1) (stC s (.slice ao' s.objs.length co') vt') 35)) (fun i _ => s.objs.length - (intOf i).toNat)
  case atStart => exact ⟨0, Nat.zero_le _, rfl, HB1, KA, KB⟩
  case round =>
    obtain ⟨k, hk, rfl, hbw, ka, kb⟩ := hrel
    clear HB1 KA KB c20 d20
    have c20 := blk_cell ka.out _ _ (stC_rest (vo := .slice ao s.objs.length co) (vt := vt) HL.out).1
    have d20 := blk_cell kb.out _ _ (stC_rest (vo := .slice ao' s.objs.length co') (vt := vt') HL.out).1
    by_cases hlt : k < s.objs.length
    · obtain ⟨b, o, b', o', r, r', rfl, rfl, hb, hb', hc, hc', hn⟩ := HROW.out k hlt
      have q1 : wr.cell? ⟨b, o + k, none⟩ = some r := by rw [hbw.out.cell (p := ⟨b, o + k, none⟩) hb]; exact hc
      have q2 : wr.cell? ⟨b', o' + k, none⟩ = some r' := by rw [hbw.out.cell (p := ⟨b', o' + k, none⟩) hb']; exact hc'
      have HN := Lib.hid hn
      have hki : (k : Int) < (s.objs.length : Int) := by omega
      have hk0 : (0 : Int) ≤ (k : Int) := by omega
      clear hn hc hc' hb hb'
      go_wp2_with (fail)
      refine wp_region_still_tail 10 (by kernel_rfl) (by kernel_rfl) ?_
      simp only [List.take_succ_cons, List.take_zero, List.drop_succ_cons, List.drop_zero]
      change wpStill _ _ wr.drew (fun a' => wpList _ _ _ _ a' wr.drew) _ _
      repeat still_step
      refine wpStill_nil ?_
      go_wp2_with (go_at_call 17; refine (HN.out _ hbw.out.drew).mono ?_; rintro e w2 ⟨rfl, hb⟩; have HB2 := Lib.hid ((Below.refl wr.heap.size wr).drew.trans hb); clear hb)
      have HB3 := Lib.hid (hbw.out.trans (HB2.out.mono hbw.out.size))
      have KA3 := Lib.hid (blk_below ka.out HB2.out)
      have KB3 := Lib.hid (blk_below kb.out HB2.out)
      go_roundw
      case rel => exact ⟨k + 1, by omega, by go_num, HB3, KA3, KB3⟩
      case measure => simp [intOf]; omega
    · obtain rfl : k = s.objs.length := by omega
      go_wp2
      go_ret
      exact ⟨rfl, hbw.out⟩
theorem same_n (va vb : Value) (s : PSt) (w : World) (ha : StAt w va s) (hb : StAt w vb s) : Calls Tryd.prog 14 #[va, vb] w (AggPost w (.bool true)) := by
  obtain ⟨vo, vt, rfl, hg, ht, hl⟩ := ha
  obtain ⟨vo', vt', rfl, hg', ht', -⟩ := hb
  obtain ⟨rows, hr1, ⟨ao, co, rfl, g1, g2, g3⟩, hr3⟩ := hg
  obtain ⟨rows', hs1, ⟨ao', co', rfl, k1, k2, k3⟩, hs3⟩ := hg'
  have s1 : (w.alloc (.cells (stC s (.slice ao rows.length co) vt) 35)).heap.size = w.heap.size + 1 := World.size_alloc _ _
  have hwb : Below w.heap.size w ((w.alloc (.cells (stC s (.slice ao s.objs.length co) vt) 35)).alloc (.cells (stC s (.slice ao' s.objs.length co') vt') 35)) := ((Below.refl _ _).alloc (Nat.le_refl _) _).alloc (by simp) _
  unfold maxLen at g2 k2
  rw [hr1] at g1 s1 ⊢
  rw [hs1] at k1 ⊢
  have k2' := blk_new (w.alloc (.cells (stC s (.slice ao s.objs.length co) vt) 35)) (stC s (.slice ao' s.objs.length co') vt') 35
  rw [s1] at k2'
  refine same_at w _ s vt vt' ao ao' co co' rfl (Lib.hid hwb) (Lib.hid hl) (Lib.hid (blk_alloc (blk_new _ _ _) _)) (Lib.hid k2') g1 (by omega) k1 (by omega) (Lib.hid fun w1 hb1 => nums_n _ _ s.out s.out true w1 (ht.below hb1) (ht'.below hb1) (by simp)) (Lib.hid fun j hj => ?_)
  obtain ⟨xs, hx⟩ : ∃ xs, s.objs[j]? = some xs := ⟨_, List.getElem?_eq_getElem hj⟩
  obtain ⟨r, h1⟩ : ∃ r, rows[j]? = some r := ⟨_, List.getElem?_eq_getElem (by omega)⟩
  obtain ⟨r', h2⟩ : ∃ r, rows'[j]? = some r := ⟨_, List.getElem?_eq_getElem (by omega)⟩
  obtain ⟨b, o, rfl, hb, hc⟩ := g3.resolve_left (by rintro rfl; simp at h1)
  obtain ⟨b', o', rfl, hb', hc'⟩ := k3.resolve_left (by rintro rfl; simp at h2)
  exact ⟨b, o, b', o', r, r', rfl, rfl, hb, hb', hc j r h1, hc' j r' h2, fun w1 hb1 => nums_n _ _ xs xs true w1 ((hr3 j r xs h1 hx).below hb1) ((hs3 j r' xs h2 hx).below hb1) (by simp)⟩
end Go.Proofs.YtmnoohpkjgjphaaDoor

/- ModelRight: what a range over letters needs; one pointer of a state. -/
namespace Go.Proofs.YtmnoohpkjgjphaaDoor
set_option linter.unusedSimpArgs false
set_option linter.unusedVariables false
open Go.RowKit

/-- A string's iterator, wherever it lies. -/
abbrev itr (w : World) (g : Nat) (s : ByteArray) (pos : Nat) : Prop := w.heap[g]? = some (.stringIter s pos)
theorem run_next_at {P : Program} (w : World) (g : Nat) (s : ByteArray) (pos : Nat) (ty : TypeId) (hb : itr w g s pos) (h : pos < s.size) (ha : (s[pos]'h).toNat < 128) :
    (Instr.next (.pointer (some ⟨g, 0, none⟩)) true ty).run P w = .ok (.tuple #[.bool true, .int .i64 pos, .int .i32 (s[pos]'h).toNat]) (putO w g (.stringIter s (pos + 1))) := by
  have hb' : w.heap[g]? = some (Obj.stringIter s pos) := hb
  simp only [Instr.next, getObj, setObj, Sem.run_bind, Sem.run, hb', Result.andThen, h, if_true, decode_ascii s pos h ha, putO]
  simp [goInt, Sem.run, hb']
theorem run_next_fin {P : Program} (w : World) (g : Nat) (s : ByteArray) (pos : Nat) (ty : TypeId) (hb : itr w g s pos) (h : ¬ pos < s.size) :
    (Instr.next (.pointer (some ⟨g, 0, none⟩)) true ty).run P w = .ok (.tuple #[.bool false]) w := by
  have hb' : w.heap[g]? = some (Obj.stringIter s pos) := hb
  simp [Instr.next, getObj, Sem.run, hb', h]
theorem RowN.putIt {w : World} {g pos pos' : Nat} {s : ByteArray} {v : Value} {cs : List Value} (h : RowN w v cs) (hb : itr w g s pos) : RowN (putO w g (.stringIter s pos')) v cs := by
  have hb' : w.heap[g]? = some (Obj.stringIter s pos) := hb
  have hne : ∀ (a : Addr) (n c : Nat), v = .slice (some a) n c → a.block ≠ g := fun a n c e => by
    obtain ⟨ys, t, fr, h1, _⟩ := h.2.2 a n c e
    rintro rfl
    rw [hb'] at h1
    simp at h1
  refine ⟨?_, h.2.1, fun a n c e => ?_⟩
  · obtain ⟨a, c, rfl, h1, h2, h3⟩ := h.1
    refine ⟨a, c, rfl, h1, h2, h3.imp id ?_⟩
    rintro ⟨b0, o, rfl, hlt, hc⟩
    have := hne ⟨b0, o, none⟩ _ _ rfl
    refine ⟨b0, o, rfl, by rw [putO_size]; exact hlt, fun j x hx => ?_⟩
    rw [World.cell?_of_block (a := ⟨b0, o + j, none⟩) (putO_ne w this _)]
    exact hc j x hx
  · obtain ⟨ys, t, fr, h1, h2⟩ := h.2.2 a n c e
    exact ⟨ys, t, fr, by rw [putO_ne w (hne a n c e)]; exact h1, h2⟩
theorem StN.putIt {w : World} {g pos pos' : Nat} {s : PSt} {S : ByteArray} {vo vt : Value} (h : StN w vo vt s) (hb : itr w g S pos) : StN (putO w g (.stringIter S pos')) vo vt s := by
  obtain ⟨rows, h1, h2, h3, h4⟩ := h.objs
  exact ⟨h.len, ⟨rows, h1, h2.putIt hb, h3, fun j r xs hr hx => (h4 j r xs hr hx).putIt hb⟩, h.out.putIt hb⟩
theorem blk_putIt {w : World} {b g pos pos' : Nat} {S : ByteArray} {cs : Array Value} {t : TypeId} (h : blk w b cs t) (hb : itr w g S pos) : blk (putO w g (.stringIter S pos')) b cs t := by
  have hb' : w.heap[g]? = some (Obj.stringIter S pos) := hb
  unfold blk
  rw [putO_ne w (fun e => by subst e; rw [h] at hb'; simp at hb')]
  exact h
theorem LwW.putIt {w wr : World} {b g pos pos' : Nat} {S : ByteArray} {vt' vc : Value} {p : PProg} {s : PSt} {vo vt : Value} (h : LwW w wr b vt' vc p s vo vt) (hb : itr wr g S pos) (hg : w.heap.size ≤ g) : LwW w (putO wr g (.stringIter S pos')) b vt' vc p s vo vt :=
  ⟨h.below.trans (putO_below _ hg _), blk_putIt h.prog hb, blk_putIt h.st hb, h.at'.putIt hb⟩
theorem itr_put {w : World} {g pos pos' : Nat} {S : ByteArray} (hb : itr w g S pos) : itr (putO w g (.stringIter S pos')) g S pos' := putO_at (Array.getElem?_eq_some_iff.1 hb).1 _
theorem itr_below {w w' : World} {g pos : Nat} {S : ByteArray} (h : itr w g S pos) (hb : Below w.heap.size w w') : itr w' g S pos := by
  have h' : w.heap[g]? = some (Obj.stringIter S pos) := h
  show w'.heap[g]? = _
  rw [hb.block g (Array.getElem?_eq_some_iff.1 h').1]; exact h'
theorem itr_new (w : World) (S : ByteArray) : itr (w.iter S 0) w.heap.size S 0 := World.iter_heap w S 0
theorem iter_below (w : World) (S : ByteArray) : Below w.heap.size w (w.iter S 0) := (Below.refl _ _).alloc (Nat.le_refl _) _
/-- A letter of a valid program is one byte of a rune. -/
theorem let_ascii {ts : List Bs} {s : Bs} (h : refsB (tsP ts) (baL s) = true) {a : Nat} (ha : a < (⟨s.toArray⟩ : ByteArray).size) : ((⟨s.toArray⟩ : ByteArray)[a]'ha).toNat < 128 := by
  obtain ⟨h1, h2⟩ := refs_list.1 h
  have hl : ts.length ≤ 8 := by
    unfold rightB at h1
    simp [tsP] at h1
    omega
  have ha' : a < s.length := ha
  have e : (⟨s.toArray⟩ : ByteArray)[a]'ha = s[a]'ha' := rfl
  rw [e]
  have := h2 _ (List.getElem_mem ha')
  omega
/-- The object of a pointer, as a loop's round wants it. -/
theorem LwW.objAt {w wr : World} {b : Nat} {vt' vc : Value} {p : PProg} {s : PSt} {ao : Option Addr} {co : Nat} {vt : Value} (h : LwW w wr b vt' vc p s (.slice ao s.objs.length co) vt) {v : Int} (h1 : 1 ≤ v) (h2 : v ≤ s.objs.length) :
    ∃ go oo r rc, ao = some ⟨go, oo, none⟩ ∧ wr.cell? ⟨go, oo + (v.toNat - 1), none⟩ = some (.slice r (objA s.objs v).length rc) ∧ (objA s.objs v).length ≤ rc ∧ rc ≤ 9223372036854775807 ∧ go < wr.heap.size := by
  obtain ⟨rows, r1, r2, r3, r4⟩ := h.at'.objs
  have hj : v.toNat - 1 < s.objs.length := by omega
  obtain ⟨r, hr⟩ : ∃ r, rows[v.toNat - 1]? = some r := ⟨_, List.getElem?_eq_getElem (by omega)⟩
  have hx : s.objs[v.toNat - 1]? = some (objA s.objs v) := by
    unfold objA; rw [List.getD_eq_getElem?_getD, List.getElem?_eq_getElem hj]; rfl
  obtain ⟨ra, rc, hrf, g1, g2⟩ := rowN_form (r4 _ r _ hr hx)
  rcases r2.cases with ⟨h0, _⟩ | ⟨_, go, oo, c, hv, _, _, hlt, hc⟩
  · rw [h0] at hr; simp at hr
  · simp only [Value.slice.injEq] at hv
    refine ⟨go, oo, ra, rc, hv.1, ?_, g1, g2, hlt⟩
    rw [hc _ _ hr, hrf]
end Go.Proofs.YtmnoohpkjgjphaaDoor

/- ModelEnd: the walk. -/
namespace Go.Proofs.YtmnoohpkjgjphaaDoor
set_option linter.unusedSimpArgs false
set_option linter.unusedVariables false
open Go.RowKit

/-- A struct that is loaded behind a guard that says yes. -/
theorem wpList_loadG {ops : Array Oper} {rest : List Oper} {o : Oper} {a : Act} {w : World} {Q : Exit → Act → World → Prop} (hw : Region.wanted o (yielded ops a.tmps) = true) (ty : TypeId) (x : Operand) (ho : o.op = .load ty x)
    (b : Nat) (cells : Array Value) (hx : a.eval x = .pointer (some ⟨b, 0, none⟩)) (t : TypeId) (hb : blk w b cells t) (d : TypeDesc) (hu : Tryd.prog.underlying ty = some d) (hd : d.isRow = true) (hi : (Tryd.prog.info? ty).map (·.size) = some cells.size)
    (h : wpList Tryd.prog ops Q rest (a.put o.dst (.agg cells)) w) : wpList Tryd.prog ops Q (o :: rest) a w :=
  BigFrame.wpList_want hw fun K hK => wp_load_mid ty x ho b 0 hx cells.toList d (blk_range hb) hu hd (by simpa using hi) (hK _ _ (by simpa using h))
set_option maxRecDepth 100000 in
set_option maxHeartbeats 8000000 in
theorem end_at (w W0 : World) (p : PProg) (fuel : Nat) (f : Bool) (x x' : Option Addr) (k k' : Nat)
    (hW0 : W0 = w.alloc (.cells #[.slice x p.types.length k, str p.locals, str p.globs, .slice x' p.code.length k'] 25))
    (KP : Hid (Keep W0 w.heap.size (.slice x p.types.length k) (.slice x' p.code.length k') p)) (HS : Hid (Below w.heap.size w W0))
    (HAL : Hid (∀ w1, Below W0.heap.size W0 w1 → Calls Tryd.prog 11 #[] w1 (AggPost w1 (.bool true))))
    (HF : Hid (∀ w1, Below W0.heap.size W0 w1 → Calls Tryd.prog 10 #[.agg (progC (.slice x p.types.length k) p (.slice x' p.code.length k'))] w1 (AggPost w1 (.bool f))))
    (HST : Hid (∀ w1 s vo vt ts n, Below w.heap.size w w1 → StN w1 vo vt s → SizeOk s → n ≤ 1000000 → ((checkL p).2 = 0 → RunOk p s ts n) → Calls Tryd.prog 12 #[.agg (progC (.slice x p.types.length k) p (.slice x' p.code.length k')), .agg (stC s vo vt)] w1 (StepPost w1 (stepL p s))))
    (ha : fuel ≤ 255) (HOK : Hid (OkP p)) (g1 : p.code.length ≤ k') (g2 : k' ≤ 9223372036854775807) :
    Calls Tryd.prog 9 #[.agg (progC (.slice x p.types.length k) p (.slice x' p.code.length k')), .int .u8 fuel] w (AggPost w (.bool true)) := by
  have HB := Lib.hid (Below.refl W0.heap.size W0)
  go_enter Tryd.func9, Tryd.ntmps9
  go_upto_region 1 with (fail)
  rw [← hW0]
  clear hW0
  rcases f with _ | _
  · go_wp2_with (first
      | (refine wpList_loadB rfl 25 _ rfl w.heap.size (progC (.slice x p.types.length k) p (.slice x' p.code.length k')) rfl 25 KP.out.blk _ Tryd.underlying25 rfl prog_info ?_)
      | (go_at_call 11; refine (HAL.out _ HB.out).mono ?_; rintro e1 w1 ⟨rfl, hb⟩; have HB := Lib.hid (HB.out.trans (hb.mono HB.out.size)); clear hb)
      | (go_at_call 10; refine (HF.out _ HB.out).mono ?_; rintro e1 w1 ⟨rfl, hb⟩; have HB := Lib.hid (HB.out.trans (hb.mono HB.out.size)); have KP := Lib.hid (KP.out.below hb); clear hb))
    go_ret
    exact ⟨rfl, HS.out.trans (HB.out.mono HS.out.size)⟩
  go_upto_region 3 with (first
    | (refine wpList_loadB rfl 25 _ rfl w.heap.size (progC (.slice x p.types.length k) p (.slice x' p.code.length k')) rfl 25 KP.out.blk _ Tryd.underlying25 rfl prog_info ?_)
    | (go_at_call 11; refine (HAL.out _ HB.out).mono ?_; rintro e1 w2 ⟨rfl, hb⟩; have HB := Lib.hid (HB.out.trans (hb.mono HB.out.size)); have KP := Lib.hid (KP.out.below hb); clear hb)
    | (go_at_call 10; refine (HF.out _ HB.out).mono ?_; rintro e1 w1 ⟨rfl, hb⟩; have HB := Lib.hid (HB.out.trans (hb.mono HB.out.size)); have KP := Lib.hid (KP.out.below hb); clear hb))
  have HBW := Lib.hid (HS.out.trans (HB.out.mono HS.out.size))
  clear HAL HF HB HS
  have HW0 : Hid (LwW w (w2.alloc (.cells zeroS 34)) w2.heap.size (.slice x p.types.length k) (.slice x' p.code.length k') p st0 (.slice none 0 0) (.slice none 0 0)) := Lib.hid ⟨HBW.out.alloc HBW.out.size _, blk_alloc KP.out.blk _, blk_new _ _ _, st0_n _⟩
  have hbne : w2.heap.size ≠ w.heap.size := by have := blk_lt KP.out.blk; omega
  have hbge : w.heap.size ≤ w2.heap.size := HBW.out.size
  obtain ⟨b, hb⟩ : ∃ b, b = w2.heap.size := ⟨_, rfl⟩
  go_upto_region 4 with (fail)
  rw [← hb] at HW0 hbne hbge ⊢
  obtain ⟨wb, hwb⟩ : ∃ wb, wb = w2.alloc (.cells zeroS 34) := ⟨_, rfl⟩
  rw [← hwb] at HW0 ⊢
  clear hb hwb KP HBW
  go_wp2_with (fail)
  go_loopw [22] (fun i wr => ∃ (n : Nat) (s : PSt) (ts : List Nat) (vo vt : Value), n ≤ fuel ∧ i = .int .i64 n ∧ Hid (LwW w wr b (.slice x p.types.length k) (.slice x' p.code.length k') p s vo vt) ∧
      Hid (((checkL p).2 ≠ 0 → n = 0 ∧ s = st0) ∧ ((checkL p).2 = 0 → RunOk p s ts n))) (fun i _ => fuel - (intOf i).toNat)
  case atStart => exact ⟨0, st0, [], _, _, Nat.zero_le _, rfl, HW0, Lib.hid ⟨fun _ => ⟨rfl, rfl⟩, fun _ => run_0 p⟩⟩
  case round =>
    obtain ⟨n, s, ts, vo, vt, hn, rfl, HW, HQ⟩ := hrel
    clear HW0
    by_cases hlt : n < fuel
    · have HSP : Hid (∀ vo vt w1, Below w.heap.size w w1 → StN w1 vo vt s → Calls Tryd.prog 12 #[.agg (progC (.slice x p.types.length k) p (.slice x' p.code.length k')), .agg (stC s vo vt)] w1 (StepPost w1 (stepL p s))) := Lib.hid fun vo vt w1 hb1 hs1 => by
        by_cases hc : (checkL p).2 = 0
        · exact HST.out w1 s vo vt ts n hb1 hs1 (size_run hc (HQ.out.2 hc) (by omega)) (by omega) (fun _ => HQ.out.2 hc)
        · obtain ⟨_, rfl⟩ := HQ.out.1 hc
          exact HST.out w1 st0 vo vt [] 0 hb1 hs1 size_0 (by omega) (fun h => absurd h hc)
      have hcase : (∃ (d : Bool) (z' : Nat), stepL p s = (s, d, z') ∧ ((d = true ∧ z' = 0 ∧ s.pc = p.code.length) ∨ (d = false ∧ z' ≠ 0))) ∨ (∃ t ts', stepL p s = (t, false, 0) ∧ (checkL p).2 = 0 ∧ RunOk p t ts' (n + 1)) := by
        by_cases hc : (checkL p).2 = 0
        · have hr := HQ.out.2 hc
          rcases step_one hc hr with ⟨hp, he⟩ | ⟨i, hi, _, ⟨hd, he⟩ | ⟨t, hd, he⟩⟩
          · exact .inl ⟨true, 0, he, .inl ⟨rfl, rfl, hp⟩⟩
          · exact .inl ⟨false, 9, he, .inr ⟨rfl, by decide⟩⟩
          · obtain ⟨ts', hrn, _⟩ := run_next hc HOK.out.ins (by omega) hr hi hd
            exact .inr ⟨t, ts', he, hc, hrn⟩
        · obtain ⟨_, rfl⟩ := HQ.out.1 hc
          exact .inl ⟨false, 2, step_bad hc, .inr ⟨rfl, by decide⟩⟩
      clear HQ
      rcases hcase with ⟨d, z, hs, ⟨rfl, rfl, hpc⟩ | ⟨rfl, hz⟩⟩ | ⟨t, ts', hs, hc, hrn⟩
      · rw [hs] at HSP
        have epc : ((s.pc : Int) == (p.code.length : Int)) = true := by simp [hpc]
        clear hs hpc
        go_upto_region 10 with (first
          | (refine wpList_loadB rfl 25 _ rfl w.heap.size (progC (.slice x p.types.length k) p (.slice x' p.code.length k')) rfl 25 HW.out.prog _ Tryd.underlying25 rfl prog_info ?_)
          | (refine wpList_loadB rfl 34 _ rfl b (stC s vo vt) rfl 34 HW.out.st _ Tryd.underlying34 rfl (state_size HW.out.at'.len) ?_)
          | (go_at_call 12; refine (HSP.out _ _ _ (HW.out.below) HT.out).mono ?_; rintro e1 w5 ⟨vo3, vt3, rfl, hst3, hb⟩; have HU := Lib.hid hst3; have HW := Lib.hid (HW.out.next hb); have KT := Lib.hid (blk_below KT.out hb); have HT := Lib.hid (HT.out.below hb); clear hb hst3)
          | (go_at_call 12; refine (HSP.out _ _ _ (HW.out.below) HW.out.at').mono ?_; rintro e1 w4 ⟨vo2, vt2, rfl, hst2, hb⟩; have HT := Lib.hid hst2; have HW := Lib.hid (HW.out.next hb); clear hb hst2)
          | (have HBT : Hid (Below w5.heap.size w5 (putB (w5.alloc (.cells zeroS 34)) w5.heap.size (stC s vo3 vt3) 34)) := Lib.hid (((Below.refl _ _).alloc (Nat.le_refl _) _).trans (putB_below _ (Nat.le_refl _) _ _))
             refine wpList_putB rfl 34 _ _ rfl w5.heap.size (stC s vo3 vt3) rfl rfl 34 zeroS (blk_new w5 zeroS 34) (state_size HU.out.len) (by rw [stC_size HU.out.len]; rfl) HU.out.one ?_
             have HW := Lib.hid (HW.out.next HBT.out)
             have HU := Lib.hid (HU.out.below HBT.out)
             have KU := Lib.hid (putB_at (blk_new w5 zeroS 34) (stC s vo3 vt3) 34)
             have KT := Lib.hid (blk_below KT.out HBT.out)
             have HT := Lib.hid (HT.out.below HBT.out)
             clear HBT)
          | (have HBT : Hid (Below w4.heap.size w4 (putB (w4.alloc (.cells zeroS 34)) w4.heap.size (stC s vo2 vt2) 34)) := Lib.hid (((Below.refl _ _).alloc (Nat.le_refl _) _).trans (putB_below _ (Nat.le_refl _) _ _))
             refine wpList_putB rfl 34 _ _ rfl w4.heap.size (stC s vo2 vt2) rfl rfl 34 zeroS (blk_new w4 zeroS 34) (state_size HT.out.len) (by rw [stC_size HT.out.len]; rfl) HT.out.one ?_
             have HW := Lib.hid (HW.out.next HBT.out)
             have HT := Lib.hid (HT.out.below HBT.out)
             have KT := Lib.hid (putB_at (blk_new w4 zeroS 34) (stC s vo2 vt2) 34)
             clear HBT)
          | (refine wpList_loadB rfl 34 _ rfl w4.heap.size (stC s vo2 vt2) rfl 34 KT.out _ Tryd.underlying34 rfl (state_size HT.out.len) ?_))
        clear HSP
        go_wp2_with (first
          | (refine wpList_loadG (by rfl) 34 _ rfl w4.heap.size (stC s vo2 vt2) rfl 34 KT.out _ Tryd.underlying34 rfl (state_size HT.out.len) ?_)
          | (refine wpList_loadG (by rfl) 34 _ rfl w5.heap.size (stC s vo3 vt3) rfl 34 KU.out _ Tryd.underlying34 rfl (state_size HU.out.len) ?_)
          | (refine wpList_loadG (by rfl) 34 _ rfl b (stC s vo vt) rfl 34 HW.out.st _ Tryd.underlying34 rfl (state_size HW.out.at'.len) ?_)
          | (go_at_call 14; refine (same_n _ _ s _ HT.out.at' HW.out.at'.at').mono ?_; rintro e1 w6 ⟨rfl, hb⟩; have HW := Lib.hid (HW.out.next hb); have KU := Lib.hid (blk_below KU.out hb); have HU := Lib.hid (HU.out.below hb); clear hb HT KT)
          | (go_at_call 14; refine (same_n _ _ s _ HU.out.at' HW.out.at'.at').mono ?_; rintro e1 w7 ⟨rfl, hb⟩; have HW := Lib.hid (HW.out.next hb); clear hb HU KU; obtain ⟨-, -, c22, -⟩ := stC_rest (vo := vo) (vt := vt) HW.out.at'.len; have c22 := blk_cell HW.out.st _ _ c22; have p3 : w7.cell? ⟨w.heap.size, 3, none⟩ = some (.slice x' p.code.length k') := blk_cell HW.out.prog 3 _ rfl))
        go_ret
        exact ⟨rfl, HW.out.below⟩
      · rw [hs] at HSP
        have ez : ((z : Int) == 0) = false := by simp [hz]
        clear hs
        go_upto_region 10 with (first
          | (refine wpList_loadB rfl 25 _ rfl w.heap.size (progC (.slice x p.types.length k) p (.slice x' p.code.length k')) rfl 25 HW.out.prog _ Tryd.underlying25 rfl prog_info ?_)
          | (refine wpList_loadB rfl 34 _ rfl b (stC s vo vt) rfl 34 HW.out.st _ Tryd.underlying34 rfl (state_size HW.out.at'.len) ?_)
          | (go_at_call 12; refine (HSP.out _ _ _ (HW.out.below) HT.out).mono ?_; rintro e1 w5 ⟨vo3, vt3, rfl, hst3, hb⟩; have HU := Lib.hid hst3; have HW := Lib.hid (HW.out.next hb); have KT := Lib.hid (blk_below KT.out hb); have HT := Lib.hid (HT.out.below hb); clear hb hst3)
          | (go_at_call 12; refine (HSP.out _ _ _ (HW.out.below) HW.out.at').mono ?_; rintro e1 w4 ⟨vo2, vt2, rfl, hst2, hb⟩; have HT := Lib.hid hst2; have HW := Lib.hid (HW.out.next hb); clear hb hst2)
          | (have HBT : Hid (Below w5.heap.size w5 (putB (w5.alloc (.cells zeroS 34)) w5.heap.size (stC s vo3 vt3) 34)) := Lib.hid (((Below.refl _ _).alloc (Nat.le_refl _) _).trans (putB_below _ (Nat.le_refl _) _ _))
             refine wpList_putB rfl 34 _ _ rfl w5.heap.size (stC s vo3 vt3) rfl rfl 34 zeroS (blk_new w5 zeroS 34) (state_size HU.out.len) (by rw [stC_size HU.out.len]; rfl) HU.out.one ?_
             have HW := Lib.hid (HW.out.next HBT.out)
             have HU := Lib.hid (HU.out.below HBT.out)
             have KU := Lib.hid (putB_at (blk_new w5 zeroS 34) (stC s vo3 vt3) 34)
             have KT := Lib.hid (blk_below KT.out HBT.out)
             have HT := Lib.hid (HT.out.below HBT.out)
             clear HBT)
          | (have HBT : Hid (Below w4.heap.size w4 (putB (w4.alloc (.cells zeroS 34)) w4.heap.size (stC s vo2 vt2) 34)) := Lib.hid (((Below.refl _ _).alloc (Nat.le_refl _) _).trans (putB_below _ (Nat.le_refl _) _ _))
             refine wpList_putB rfl 34 _ _ rfl w4.heap.size (stC s vo2 vt2) rfl rfl 34 zeroS (blk_new w4 zeroS 34) (state_size HT.out.len) (by rw [stC_size HT.out.len]; rfl) HT.out.one ?_
             have HW := Lib.hid (HW.out.next HBT.out)
             have HT := Lib.hid (HT.out.below HBT.out)
             have KT := Lib.hid (putB_at (blk_new w4 zeroS 34) (stC s vo2 vt2) 34)
             clear HBT)
          | (refine wpList_loadB rfl 34 _ rfl w4.heap.size (stC s vo2 vt2) rfl 34 KT.out _ Tryd.underlying34 rfl (state_size HT.out.len) ?_))
        clear HSP
        go_wp2_with (first
          | (refine wpList_loadG (by rfl) 34 _ rfl w4.heap.size (stC s vo2 vt2) rfl 34 KT.out _ Tryd.underlying34 rfl (state_size HT.out.len) ?_)
          | (refine wpList_loadG (by rfl) 34 _ rfl w5.heap.size (stC s vo3 vt3) rfl 34 KU.out _ Tryd.underlying34 rfl (state_size HU.out.len) ?_)
          | (refine wpList_loadG (by rfl) 34 _ rfl b (stC s vo vt) rfl 34 HW.out.st _ Tryd.underlying34 rfl (state_size HW.out.at'.len) ?_)
          | (go_at_call 14; refine (same_n _ _ s _ HT.out.at' HW.out.at'.at').mono ?_; rintro e1 w6 ⟨rfl, hb⟩; have HW := Lib.hid (HW.out.next hb); have KU := Lib.hid (blk_below KU.out hb); have HU := Lib.hid (HU.out.below hb); clear hb HT KT)
          | (go_at_call 14; refine (same_n _ _ s _ HU.out.at' HW.out.at'.at').mono ?_; rintro e1 w7 ⟨rfl, hb⟩; have HW := Lib.hid (HW.out.next hb); clear hb HU KU; obtain ⟨-, -, c22, -⟩ := stC_rest (vo := vo) (vt := vt) HW.out.at'.len; have c22 := blk_cell HW.out.st _ _ c22; have p3 : w7.cell? ⟨w.heap.size, 3, none⟩ = some (.slice x' p.code.length k') := blk_cell HW.out.prog 3 _ rfl))
        go_ret
        exact ⟨rfl, HW.out.below⟩
      · rw [hs] at HSP
        clear hs
        have HQ2 : Hid (((checkL p).2 ≠ 0 → n + 1 = 0 ∧ t = st0) ∧ ((checkL p).2 = 0 → RunOk p t ts' (n + 1))) := Lib.hid ⟨fun h => absurd hc h, fun _ => hrn⟩
        clear hc hrn
        go_wp2_with (first
          | (refine wpList_loadB rfl 25 _ rfl w.heap.size (progC (.slice x p.types.length k) p (.slice x' p.code.length k')) rfl 25 HW.out.prog _ Tryd.underlying25 rfl prog_info ?_)
          | (refine wpList_loadB rfl 34 _ rfl b (stC s vo vt) rfl 34 HW.out.st _ Tryd.underlying34 rfl (state_size HW.out.at'.len) ?_)
          | (go_at_call 12; refine (HSP.out _ _ _ (HW.out.below) HW.out.at').mono ?_; rintro e1 w4 ⟨vo2, vt2, rfl, hst2, hb⟩; have HT := Lib.hid hst2; have HW := Lib.hid (HW.out.next hb); clear hb hst2)
          | (have HBT : Hid (Below w4.heap.size w4 (putB (w4.alloc (.cells zeroS 34)) w4.heap.size (stC t vo2 vt2) 34)) := Lib.hid (((Below.refl _ _).alloc (Nat.le_refl _) _).trans (putB_below _ (Nat.le_refl _) _ _))
             refine wpList_putB rfl 34 _ _ rfl w4.heap.size (stC t vo2 vt2) rfl rfl 34 zeroS (blk_new w4 zeroS 34) (state_size HT.out.len) (by rw [stC_size HT.out.len]; rfl) HT.out.one ?_
             have HW := Lib.hid (HW.out.next HBT.out)
             have HT := Lib.hid (HT.out.below HBT.out)
             have KT := Lib.hid (putB_at (blk_new w4 zeroS 34) (stC t vo2 vt2) 34)
             clear HBT)
          | (refine wpList_loadB rfl 34 _ rfl w4.heap.size (stC t vo2 vt2) rfl 34 KT.out _ Tryd.underlying34 rfl (state_size HT.out.len) ?_)
          | (refine wpList_putB rfl 34 _ _ rfl b (stC t vo2 vt2) rfl rfl 34 _ HW.out.st (state_size HT.out.len) (by rw [stC_size HW.out.at'.len, stC_size HT.out.len]) HT.out.one ?_; have HW := Lib.hid (HW.out.put HT.out hbne hbge); clear HT KT))
        go_roundw
        case rel => exact ⟨n + 1, t, ts', _, _, by omega, by go_num, HW, HQ2⟩
        case measure => simp [intOf]; omega
    · obtain rfl : n = fuel := by omega
      go_wp2
      go_ret
      exact ⟨rfl, HW.out.below⟩
theorem end_walk (v : Value) (p : PProg) (a : Int) (w : World) (h : ProgAt w v p) (hs : OkP p) (ha0 : 0 ≤ a) (ha : a ≤ 255) (ho : HasO w) : Calls Tryd.prog 9 #[v, .int .u8 a] w fun e w' => e = .returned (.bool true) ∧ Below w.heap.size w w' := by
  obtain ⟨vt, vc, rfl, ht, hc⟩ := id h
  have hwb : Below w.heap.size w (w.alloc (.cells (progC vt p vc) 25)) := (Below.refl _ _).alloc (Nat.le_refl _) _
  have HK := keep_new h
  obtain ⟨x, c, rfl, -, -, -⟩ := id ht.elems
  obtain ⟨x', c', rfl, q1, q2, -⟩ := id hc
  obtain ⟨ka, rfl⟩ : ∃ ka : Nat, a = ka := ⟨a.toNat, by omega⟩
  unfold maxLen at q2
  have ho' : ∀ {w1}, Below (w.alloc (.cells (progC (.slice x p.types.length c) p (.slice x' p.code.length c')) 25)).heap.size (w.alloc (.cells (progC (.slice x p.types.length c) p (.slice x' p.code.length c')) 25)) w1 → HasO w1 := fun hb1 => (ho.below hwb).below hb1
  have hp' : ∀ {w1}, Below (w.alloc (.cells (progC (.slice x p.types.length c) p (.slice x' p.code.length c')) 25)).heap.size (w.alloc (.cells (progC (.slice x p.types.length c) p (.slice x' p.code.length c')) 25)) w1 → ProgAt w1 _ p := fun hb1 => (h.below hwb).below hb1
  exact end_at w _ p ka (fewP p) x x' c c' rfl (Lib.hid HK) (Lib.hid hwb) (Lib.hid fun w1 hb1 => malive_n w1 (ho' hb1)) (Lib.hid fun w1 hb1 => few_b _ p _ w1 (hp' hb1) hs rfl)
    (Lib.hid fun w1 s vo vt ts n hb1 hs1 hz hn hr => mstep_n _ p w1 s vo vt ts n (h.below hb1) hs (ho.below hb1) hs1 hz hn hr) (by omega) (Lib.hid hs) q1 (by omega)
end Go.Proofs.YtmnoohpkjgjphaaDoor

/- ModelRight: the walk. -/
namespace Go.Proofs.YtmnoohpkjgjphaaDoor
set_option linter.unusedSimpArgs false
set_option linter.unusedVariables false
open Go.RowKit

set_option maxRecDepth 100000 in
set_option maxHeartbeats 20000000 in
theorem right_at (w W0 : World) (p : PProg) (many : Nat) (f : Bool) (z1 z2 : Int) (x x' : Option Addr) (k k' : Nat)
    (hW0 : W0 = w.alloc (.cells #[.slice x p.types.length k, str p.locals, str p.globs, .slice x' p.code.length k'] 25))
    (KP : Hid (Keep W0 w.heap.size (.slice x p.types.length k) (.slice x' p.code.length k') p)) (HS : Hid (Below w.heap.size w W0))
    (HAL : Hid (∀ w1, Below W0.heap.size W0 w1 → Calls Tryd.prog 11 #[] w1 (AggPost w1 (.bool true))))
    (HF : Hid (∀ w1, Below W0.heap.size W0 w1 → Calls Tryd.prog 10 #[.agg (progC (.slice x p.types.length k) p (.slice x' p.code.length k'))] w1 (AggPost w1 (.bool f))))
    (HCK : Hid (∀ w1, Below W0.heap.size W0 w1 → Calls Tryd.prog 18 #[.agg (progC (.slice x p.types.length k) p (.slice x' p.code.length k'))] w1 (ChkPost w1 z1 z2)))
    (HST : Hid (∀ w1 s vo vt ts n, Below w.heap.size w w1 → StN w1 vo vt s → SizeOk s → n ≤ 1000000 → ((checkL p).2 = 0 → RunOk p s ts n) → Calls Tryd.prog 12 #[.agg (progC (.slice x p.types.length k) p (.slice x' p.code.length k')), .agg (stC s vo vt)] w1 (StepPost w1 (stepL p s))))
    (HLC : Hid (headB p = true → ∀ w1 (a : Nat), Below w.heap.size w w1 → a ≤ 255 → Calls Tryd.prog 19 #[.agg (progC (.slice x p.types.length k) p (.slice x' p.code.length k')), .int .u8 a] w1 (AggPost w1 (.int .i64 (localI p a)))))
    (HGC : Hid (headB p = true → ∀ w1 (a : Nat), Below w.heap.size w w1 → a ≤ 255 → Calls Tryd.prog 20 #[.agg (progC (.slice x p.types.length k) p (.slice x' p.code.length k')), .int .u8 a] w1 (AggPost w1 (.int .i64 (globI p a)))))
    (HTY : Hid (RowAt w (.slice x p.types.length k) (p.types.map str)))
    (ha : many ≤ 255) (HOK : Hid (OkP p)) (g1 : p.types.length ≤ k) (g2 : k ≤ 9223372036854775807) (HCC : Hid (z2 = 0 ↔ (checkL p).2 = 0)) :
    Calls Tryd.prog 6 #[.agg (progC (.slice x p.types.length k) p (.slice x' p.code.length k')), .int .u8 many] w (AggPost w (.bool true)) := by
  have HB := Lib.hid (Below.refl W0.heap.size W0)
  go_enter Tryd.func6, Tryd.ntmps6
  go_wp2_with (fail)
  rw [← hW0]
  clear hW0
  rcases f with _ | _
  · go_wp2_with (first
      | (refine wpList_loadB rfl 25 _ rfl w.heap.size (progC (.slice x p.types.length k) p (.slice x' p.code.length k')) rfl 25 KP.out.blk _ Tryd.underlying25 rfl prog_info ?_)
      | (go_at_call 11; refine (HAL.out _ HB.out).mono ?_; rintro e1 w1 ⟨rfl, hb⟩; have HB := Lib.hid (HB.out.trans (hb.mono HB.out.size)); have KP := Lib.hid (KP.out.below hb); clear hb)
      | (go_at_call 10; refine (HF.out _ HB.out).mono ?_; rintro e1 w1 ⟨rfl, hb⟩; have HB := Lib.hid (HB.out.trans (hb.mono HB.out.size)); clear hb))
    go_ret
    exact ⟨rfl, HS.out.trans (HB.out.mono HS.out.size)⟩
  go_upto_region 6 with (first
    | (refine wpList_loadB rfl 25 _ rfl w.heap.size (progC (.slice x p.types.length k) p (.slice x' p.code.length k')) rfl 25 KP.out.blk _ Tryd.underlying25 rfl prog_info ?_)
    | (go_at_call 11; refine (HAL.out _ HB.out).mono ?_; rintro e1 w1 ⟨rfl, hb⟩; have HB := Lib.hid (HB.out.trans (hb.mono HB.out.size)); have KP := Lib.hid (KP.out.below hb); clear hb)
    | (go_at_call 10; refine (HF.out _ HB.out).mono ?_; rintro e1 w2 ⟨rfl, hb⟩; have HB := Lib.hid (HB.out.trans (hb.mono HB.out.size)); have KP := Lib.hid (KP.out.below hb); clear hb)
    | (go_at_call 18; refine (HCK.out _ HB.out).mono ?_; rintro e1 w3 ⟨rfl, hb⟩; have HB := Lib.hid (HB.out.trans (hb.mono HB.out.size)); have KP := Lib.hid (KP.out.below hb); clear hb))
  have HBW := Lib.hid (HS.out.trans (HB.out.mono HS.out.size))
  clear HAL HF HB HS HCK
  by_cases hz : z2 = 0
  rotate_left
  · have ez : (z2 != 0) = true := by simp [hz]
    have hbad : (checkL p).2 ≠ 0 := fun h => hz (HCC.out.2 h)
    have HSP : Hid (∀ w1, Below w.heap.size w w1 → Calls Tryd.prog 12 #[.agg (progC (.slice x p.types.length k) p (.slice x' p.code.length k')), .agg (stC st0 (.slice none 0 0) (.slice none 0 0))] w1 (StepPost w1 (st0, false, 2))) := Lib.hid fun w1 hb1 => by have := HST.out w1 st0 _ _ [] 0 hb1 (st0_n w1) size_0 (by omega) (fun h => absurd h hbad); rw [step_bad hbad] at this; exact this
    clear hz hbad
    go_wp2_with (first
      | (refine wpList_loadB rfl 25 _ rfl w.heap.size (progC (.slice x p.types.length k) p (.slice x' p.code.length k')) rfl 25 KP.out.blk _ Tryd.underlying25 rfl prog_info ?_)
      | (go_at_call 12; refine (HSP.out _ HBW.out).mono ?_; rintro e1 w4 ⟨vo2, vt2, rfl, hst2, hb⟩; have HT := Lib.hid hst2; have HB4 := Lib.hid (HBW.out.trans (hb.mono HBW.out.size)); clear hb hst2)
      | (refine wpList_putB rfl 34 _ _ rfl w4.heap.size (stC st0 vo2 vt2) rfl rfl 34 zeroS (blk_new w4 zeroS 34) (state_size HT.out.len) (by rw [stC_size HT.out.len]; rfl) HT.out.one ?_))
    go_ret
    exact ⟨rfl, HB4.out.trans (((Below.refl w4.heap.size w4).alloc (Nat.le_refl _) (.cells zeroS 34)).trans (putB_below _ (Nat.le_refl _) _ _) |>.mono HB4.out.size)⟩
  have HC := Lib.hid (HCC.out.1 hz)
  subst hz
  clear HCC
  have hh := (check_ok HC.out).1
  go_upto_region 9 with (fail)
  have HW0 : Hid (LwW w (w3.alloc (.cells zeroS 34)) w3.heap.size (.slice x p.types.length k) (.slice x' p.code.length k') p st0 (.slice none 0 0) (.slice none 0 0)) := Lib.hid ⟨HBW.out.alloc HBW.out.size _, blk_alloc KP.out.blk _, blk_new _ _ _, st0_n _⟩
  have hbne : w3.heap.size ≠ w.heap.size := by have := blk_lt KP.out.blk; omega
  have hbge : w.heap.size ≤ w3.heap.size := HBW.out.size
  obtain ⟨b, hb⟩ : ∃ b, b = w3.heap.size := ⟨_, rfl⟩
  go_upto_region 10 with (fail)
  rw [← hb] at HW0 hbne hbge ⊢
  obtain ⟨wb, hwb⟩ : ∃ wb, wb = w3.alloc (.cells zeroS 34) := ⟨_, rfl⟩
  rw [← hwb] at HW0 ⊢
  clear hb hwb KP HBW
  obtain ⟨M, hM0, hM1, hM⟩ : ∃ M : Nat, 1 ≤ M ∧ M ≤ 200 ∧ (many : Int) % 200 + 1 = M := ⟨((many : Int) % 200 + 1).toNat, by omega, by omega, by omega⟩
  have hq0 : 0 ≤ (many : Int) % 200 := by omega
  have hq1 : (many : Int) % 200 < 200 := by omega
  have hHM := Lib.hid hM
  clear hM
  go_wp2_with (fail)
  rw [hHM.out]
  go_loopw [43] (fun i wr => ∃ (n : Nat) (s : PSt) (ts : List Nat) (vo vt : Value), n ≤ M ∧ i = .int .i64 n ∧ Hid (LwW w wr b (.slice x p.types.length k) (.slice x' p.code.length k') p s vo vt) ∧ Hid (RunOk p s ts n)) (fun i _ => M - (intOf i).toNat)
  case atStart => exact ⟨0, st0, [], _, _, Nat.zero_le _, rfl, HW0, Lib.hid (run_0 p)⟩
  case round =>
    obtain ⟨n, s, ts, vo, vt, hn, rfl, HW, HR⟩ := hrel
    clear HW0
    obtain ⟨ao, co, rfl, -, -⟩ := HW.out.at'.objs.form
    obtain ⟨at', ct, rfl, -, -⟩ := rowN_form HW.out.at'.out
    by_cases hltM : n < M
    · have hol : s.objs.length ≤ 255 := by have := HR.out.inv.lo; have := HR.out.lt; omega
      have hul : s.out.length ≤ 255 := by have := HR.out.lo; omega
      have p1 : wr.cell? ⟨w.heap.size, 1, none⟩ = some (str p.locals) := blk_cell HW.out.prog 1 _ rfl
      go_wp2_with (fail)
      have hgeL : w.heap.size ≤ wr.heap.size := HW.out.below.size
      have HW := Lib.hid (HW.out.next (iter_below wr ⟨p.locals.toArray⟩))
      have HIT := Lib.hid (itr_new wr ⟨p.locals.toArray⟩)
      clear p1
      obtain ⟨gL, hgL⟩ : ∃ g, g = wr.heap.size := ⟨_, rfl⟩
      obtain ⟨wiL, hwiL⟩ : ∃ wi, wi = wr.iter ⟨p.locals.toArray⟩ 0 := ⟨_, rfl⟩
      rw [← hgL] at HIT hgeL ⊢
      rw [← hwiL] at HW HIT ⊢
      clear hgL hwiL
      go_loopg [48] p.locals.length (fun gg _ wr => ∃ pos : Nat, pos ≤ p.locals.length ∧ gg = p.locals.length - pos ∧ Hid (itr wr gL ⟨p.locals.toArray⟩ pos) ∧ Hid (LwW w wr b (.slice x p.types.length k) (.slice x' p.code.length k') p s (.slice ao s.objs.length co) (.slice at' s.out.length ct)))
      case atStart => exact ⟨0, Nat.zero_le _, rfl, HIT, HW⟩
      case round =>
        obtain ⟨pos, hpos, rfl, HIT, HW⟩ := hrel
        by_cases hlt : pos < p.locals.length
        · have hnx := fun ty => run_next_at (P := Tryd.prog) wr gL ⟨p.locals.toArray⟩ pos ty HIT.out hlt (let_ascii (head_parts hh).1 hlt)
          have hp8 : pos < 8 := by have := (head_parts hh).2.2.1; omega
          go_upto_region 14 with (fail)
          have HW := Lib.hid (HW.out.putIt (pos' := pos + 1) HIT.out hgeL)
          have HIT := Lib.hid (itr_put (pos' := pos + 1) HIT.out)
          clear hnx
          obtain ⟨w2, hw2⟩ : ∃ w2, w2 = putO wr gL (.stringIter ⟨p.locals.toArray⟩ (pos + 1)) := ⟨_, rfl⟩
          rw [← hw2] at HW HIT ⊢
          clear hw2
          have cp : w2.cell? ⟨b, 8 + pos, none⟩ = some (.int .i64 (pA s (pos : Int))) := blk_cell HW.out.st _ _ (stC_p HW.out.at'.len pos hp8)
          have c20 := blk_cell HW.out.st _ _ (stC_rest (vo := .slice ao s.objs.length co) (vt := .slice at' s.out.length ct) HW.out.at'.len).1
          have hname : 0 ≤ localI p (pos : Int) := ((names_lt (head_parts hh).1 (by omega)).1).2 (by omega)
          have hptr := HR.out.inv.pA hh (a := (pos : Int)) (by omega) hname
          have eu : IntKind.u8.wrap (pos : Int) = (pos : Int) := IntWalk.u8_in _ (by omega)
          by_cases hz : pA s (pos : Int) = 0
          · rw [hz] at cp
            clear hz hptr hname
            have HWq := HW
            go_upto_region 16 with (fail)
            have e62 : ¬ ((s.objs.length : Int) < 0) := by omega
            go_big_quiet (fail)
            have HW := Lib.hid (HWq.out.next (belowDrewN w2 nq))
            have HIT := Lib.hid (itr_below HIT.out (belowDrewN w2 nq))
            go_wp2
            go_roundg (p.locals.length - (pos + 1))
            case measure => omega
            case rel => exact ⟨pos + 1, by omega, rfl, HIT, HW⟩
          · obtain ⟨v1, v2, v3, v4⟩ := HR.out.inv.obj hptr hz
            obtain ⟨go, oo, r, rc, hao, crow, gr1, gr2, hgo⟩ := HW.out.objAt v1 (by rw [HR.out.inv.lo]; exact v2)
            obtain ⟨tt, htt⟩ : ∃ tt : Nat, localI p (pos : Int) = tt := ⟨(localI p (pos : Int)).toNat, by omega⟩
            have htl : tt < p.types.length := by have := (local_lt hh (a := (pos : Int)) (by omega) hname).2; omega
            obtain ⟨tb, tq, hx, htb, ctt⟩ : ∃ tb tq, x = some ⟨tb, tq, none⟩ ∧ tb < w.heap.size ∧ w.cell? ⟨tb, tq + tt, none⟩ = some (str (p.types.getD tt [])) := by
              obtain ⟨a', c', he, _, _, hel⟩ := HTY.out.elems
              obtain ⟨tb, tq, rfl, q1, q2⟩ := hel tt (p.types.getD tt []) (by rw [List.getD_eq_getElem?_getD, List.getElem?_eq_getElem htl]; rfl)
              simp only [Value.slice.injEq] at he
              exact ⟨tb, tq, he.1, q1, q2⟩
            have hlen : ((objA s.objs (pA s (pos : Int))).length : Int) = ((p.types.getD tt []).length : Int) := by
              rw [v4, htt]; exact (sizeP_one (refs_list.1 (head_parts hh).1).1 htl).1
            have hty : (p.types.getD tt []).length ≤ 6 := by have := (sizeP_one (refs_list.1 (head_parts hh).1).1 htl).2.2; have := (sizeP_one (refs_list.1 (head_parts hh).1).1 htl).1; omega
            have HCL : Hid (∀ w1, Below w.heap.size w w1 → Calls Tryd.prog 19 #[.agg #[.slice x p.types.length k, str p.locals, str p.globs, .slice x' p.code.length k'], .int .u8 pos] w1 (AggPost w1 (.int .i64 (tt : Nat)))) := Lib.hid fun w1 hb1 => by have := HLC.out hh w1 pos hb1 (by omega); rw [htt] at this; exact this
            obtain ⟨kv, hkv⟩ : ∃ kv : Nat, pA s (pos : Int) = (kv : Int) + 1 := ⟨(pA s (pos : Int) - 1).toNat, by omega⟩
            have hkl : kv < s.objs.length := by have := HR.out.inv.lo; omega
            rw [hkv] at crow hlen gr1 cp
            rw [show ((kv : Int) + 1).toNat - 1 = kv by omega] at crow
            have ct2 : w2.cell? ⟨tb, tq + tt, none⟩ = some (str (p.types.getD tt [])) := by rw [HW.out.below.cell (p := ⟨tb, tq + tt, none⟩) htb]; exact ctt
            obtain ⟨p0, p1, p2, p3⟩ : w2.cell? ⟨w.heap.size, 0, none⟩ = some (.slice x p.types.length k) ∧ w2.cell? ⟨w.heap.size, 1, none⟩ = some (str p.locals) ∧ w2.cell? ⟨w.heap.size, 2, none⟩ = some (str p.globs) ∧ w2.cell? ⟨w.heap.size, 3, none⟩ = some (.slice x' p.code.length k') := ⟨blk_cell HW.out.prog 0 _ rfl, blk_cell HW.out.prog 1 _ rfl, blk_cell HW.out.prog 2 _ rfl, blk_cell HW.out.prog 3 _ rfl⟩
            have HGO := Lib.hid hgo
            have HTB := Lib.hid htb
            have e84 : ((((objA s.objs ((kv : Int) + 1)).length : Nat) : Int) != ((p.types.getD tt []).length : Int)) = false := by rw [hlen]; exact bne_self_eq_false _
            clear hptr hname v1 v2 v3 v4 htt hz hkv ctt hlen hgo htb
            generalize p.types.getD tt [] = ty at *
            generalize (objA s.objs ((kv : Int) + 1)).length = m at *
            subst hx hao
            have hsl : ty.length ≤ 9223372036854775807 := by omega
            have htl' : (tt : Int) < (p.types.length : Int) := by omega
            have hkl' : (kv : Int) < (s.objs.length : Int) := by omega
            have ew2 : IntKind.i64.wrap (kv : Int) = (kv : Int) := IntWalk.i64_in _ (by omega)
            have et0 : (0 : Int) ≤ (tt : Int) := by omega
            have e56 : ¬ ((kv : Int) + 1 < 0) := by omega
            have e62 : ¬ ((s.objs.length : Int) < (kv : Int) + 1) := by omega
            have e66 : (0 : Int) < (kv : Int) + 1 := by omega
            go_upto_region 16 with (fail)
            go_region_held3 (fun w' => w'.cell? ⟨b, 20, none⟩ = some (.slice (some ⟨go, oo, none⟩) s.objs.length co) ∧ w'.cell? ⟨go, oo + kv, none⟩ = some (.slice r m rc) ∧ w'.cell? ⟨w.heap.size, 0, none⟩ = some (.slice (some ⟨tb, tq, none⟩) p.types.length k) ∧ w'.cell? ⟨w.heap.size, 1, none⟩ = some (str p.locals) ∧ w'.cell? ⟨w.heap.size, 2, none⟩ = some (str p.globs) ∧ w'.cell? ⟨w.heap.size, 3, none⟩ = some (.slice x' p.code.length k') ∧ w'.cell? ⟨tb, tq + tt, none⟩ = some (str ty)) (first
              | exact ⟨d20, drow, d0, d1, d2, d3, dtt⟩
              | go_keep) (first
              | (go_at_call 19; (with_reducible refine (HCL.out _ ?_).mono ?_); (first | exact HW.out.below.drew | exact HW.out.below); rintro e w5 ⟨rfl, hb⟩
                 have hb' := (Below.refl w2.heap.size w2).drew.trans hb
                 have HW5 := Lib.hid (HW.out.next hb')
                 have HIT5 := Lib.hid (itr_below HIT.out hb')
                 have d20 : w5.cell? ⟨b, 20, none⟩ = some (.slice (some ⟨go, oo, none⟩) s.objs.length co) := by rw [hb'.cell (p := ⟨b, 20, none⟩) (blk_lt HW.out.st)]; exact c20
                 have drow : w5.cell? ⟨go, oo + kv, none⟩ = some (.slice r m rc) := by rw [hb'.cell (p := ⟨go, oo + kv, none⟩) HGO.out]; exact crow
                 have dtt : w5.cell? ⟨tb, tq + tt, none⟩ = some (str ty) := by rw [hb'.cell (p := ⟨tb, tq + tt, none⟩) (Nat.lt_of_lt_of_le HTB.out HW.out.below.size)]; exact ct2
                 have d0 : w5.cell? ⟨w.heap.size, 0, none⟩ = some (.slice (some ⟨tb, tq, none⟩) p.types.length k) := by rw [hb'.cell (p := ⟨w.heap.size, 0, none⟩) (blk_lt HW.out.prog)]; exact p0
                 have d1 : w5.cell? ⟨w.heap.size, 1, none⟩ = some (str p.locals) := by rw [hb'.cell (p := ⟨w.heap.size, 1, none⟩) (blk_lt HW.out.prog)]; exact p1
                 have d2 : w5.cell? ⟨w.heap.size, 2, none⟩ = some (str p.globs) := by rw [hb'.cell (p := ⟨w.heap.size, 2, none⟩) (blk_lt HW.out.prog)]; exact p2
                 have d3 : w5.cell? ⟨w.heap.size, 3, none⟩ = some (.slice x' p.code.length k') := by rw [hb'.cell (p := ⟨w.heap.size, 3, none⟩) (blk_lt HW.out.prog)]; exact p3
                 clear hb hb'))
            all_goals
              go_wp2
              go_roundg (p.locals.length - (pos + 1))
              case measure => omega
              case rel => exact ⟨pos + 1, by omega, rfl, HIT5, HW5⟩
        · obtain rfl : pos = p.locals.length := by omega
          have hnx := fun ty => run_next_fin (P := Tryd.prog) wr gL ⟨p.locals.toArray⟩ p.locals.length ty HIT.out (Nat.lt_irrefl _)
          clear HIT
          have p2 : wr.cell? ⟨w.heap.size, 2, none⟩ = some (str p.globs) := blk_cell HW.out.prog 2 _ rfl
          go_wp2_with (fail)
          clear hnx
          have hgeG : w.heap.size ≤ wr.heap.size := HW.out.below.size
          have HW := Lib.hid (HW.out.next (iter_below wr ⟨p.globs.toArray⟩))
          have HIT := Lib.hid (itr_new wr ⟨p.globs.toArray⟩)
          clear p2
          obtain ⟨gG, hgG⟩ : ∃ g, g = wr.heap.size := ⟨_, rfl⟩
          obtain ⟨wiG, hwiG⟩ : ∃ wi, wi = wr.iter ⟨p.globs.toArray⟩ 0 := ⟨_, rfl⟩
          rw [← hgG] at HIT hgeG ⊢
          rw [← hwiG] at HW HIT ⊢
          clear hgG hwiG
          go_loopg [90] p.globs.length (fun gg _ wr => ∃ pos : Nat, pos ≤ p.globs.length ∧ gg = p.globs.length - pos ∧ Hid (itr wr gG ⟨p.globs.toArray⟩ pos) ∧ Hid (LwW w wr b (.slice x p.types.length k) (.slice x' p.code.length k') p s (.slice ao s.objs.length co) (.slice at' s.out.length ct)))
          case atStart => exact ⟨0, Nat.zero_le _, rfl, HIT, HW⟩
          case round =>
            obtain ⟨pos, hpos, rfl, HIT, HW⟩ := hrel
            by_cases hlt : pos < p.globs.length
            · have hnx := fun ty => run_next_at (P := Tryd.prog) wr gG ⟨p.globs.toArray⟩ pos ty HIT.out hlt (let_ascii (head_parts hh).2.1 hlt)
              have hp8 : pos < 4 := by have := (head_parts hh).2.2.2; omega
              go_upto_region 20 with (fail)
              have HW := Lib.hid (HW.out.putIt (pos' := pos + 1) HIT.out hgeG)
              have HIT := Lib.hid (itr_put (pos' := pos + 1) HIT.out)
              clear hnx
              obtain ⟨w2, hw2⟩ : ∃ w2, w2 = putO wr gG (.stringIter ⟨p.globs.toArray⟩ (pos + 1)) := ⟨_, rfl⟩
              rw [← hw2] at HW HIT ⊢
              clear hw2
              have cp : w2.cell? ⟨b, 16 + pos, none⟩ = some (.int .i64 (gA s (pos : Int))) := blk_cell HW.out.st _ _ (stC_g HW.out.at'.len pos hp8)
              have c20 := blk_cell HW.out.st _ _ (stC_rest (vo := .slice ao s.objs.length co) (vt := .slice at' s.out.length ct) HW.out.at'.len).1
              have hname : 0 ≤ globI p (pos : Int) := ((names_lt (head_parts hh).2.1 (by omega)).1).2 (by omega)
              have hptr := HR.out.inv.gA hh (a := (pos : Int)) (by omega) hname
              have eu : IntKind.u8.wrap (pos : Int) = (pos : Int) := IntWalk.u8_in _ (by omega)
              by_cases hz : gA s (pos : Int) = 0
              · rw [hz] at cp
                clear hz hptr hname
                have HWq := HW
                go_upto_region 22 with (fail)
                have e62 : ¬ ((s.objs.length : Int) < 0) := by omega
                go_big_quiet (fail)
                have HW := Lib.hid (HWq.out.next (belowDrewN w2 nq))
                have HIT := Lib.hid (itr_below HIT.out (belowDrewN w2 nq))
                go_wp2
                go_roundg (p.globs.length - (pos + 1))
                case measure => omega
                case rel => exact ⟨pos + 1, by omega, rfl, HIT, HW⟩
              · obtain ⟨v1, v2, v3, v4⟩ := HR.out.inv.obj hptr hz
                obtain ⟨go, oo, r, rc, hao, crow, gr1, gr2, hgo⟩ := HW.out.objAt v1 (by rw [HR.out.inv.lo]; exact v2)
                obtain ⟨tt, htt⟩ : ∃ tt : Nat, globI p (pos : Int) = tt := ⟨(globI p (pos : Int)).toNat, by omega⟩
                have htl : tt < p.types.length := by have := (glob_lt hh (a := (pos : Int)) (by omega) hname).2; omega
                obtain ⟨tb, tq, hx, htb, ctt⟩ : ∃ tb tq, x = some ⟨tb, tq, none⟩ ∧ tb < w.heap.size ∧ w.cell? ⟨tb, tq + tt, none⟩ = some (str (p.types.getD tt [])) := by
                  obtain ⟨a', c', he, _, _, hel⟩ := HTY.out.elems
                  obtain ⟨tb, tq, rfl, q1, q2⟩ := hel tt (p.types.getD tt []) (by rw [List.getD_eq_getElem?_getD, List.getElem?_eq_getElem htl]; rfl)
                  simp only [Value.slice.injEq] at he
                  exact ⟨tb, tq, he.1, q1, q2⟩
                have hlen : ((objA s.objs (gA s (pos : Int))).length : Int) = ((p.types.getD tt []).length : Int) := by
                  rw [v4, htt]; exact (sizeP_one (refs_list.1 (head_parts hh).2.1).1 htl).1
                have hty : (p.types.getD tt []).length ≤ 6 := by have := (sizeP_one (refs_list.1 (head_parts hh).2.1).1 htl).2.2; have := (sizeP_one (refs_list.1 (head_parts hh).2.1).1 htl).1; omega
                have HCL : Hid (∀ w1, Below w.heap.size w w1 → Calls Tryd.prog 20 #[.agg #[.slice x p.types.length k, str p.locals, str p.globs, .slice x' p.code.length k'], .int .u8 pos] w1 (AggPost w1 (.int .i64 (tt : Nat)))) := Lib.hid fun w1 hb1 => by have := HGC.out hh w1 pos hb1 (by omega); rw [htt] at this; exact this
                obtain ⟨kv, hkv⟩ : ∃ kv : Nat, gA s (pos : Int) = (kv : Int) + 1 := ⟨(gA s (pos : Int) - 1).toNat, by omega⟩
                have hkl : kv < s.objs.length := by have := HR.out.inv.lo; omega
                rw [hkv] at crow hlen gr1 cp
                rw [show ((kv : Int) + 1).toNat - 1 = kv by omega] at crow
                have ct2 : w2.cell? ⟨tb, tq + tt, none⟩ = some (str (p.types.getD tt [])) := by rw [HW.out.below.cell (p := ⟨tb, tq + tt, none⟩) htb]; exact ctt
                obtain ⟨p0, p1, p2, p3⟩ : w2.cell? ⟨w.heap.size, 0, none⟩ = some (.slice x p.types.length k) ∧ w2.cell? ⟨w.heap.size, 1, none⟩ = some (str p.locals) ∧ w2.cell? ⟨w.heap.size, 2, none⟩ = some (str p.globs) ∧ w2.cell? ⟨w.heap.size, 3, none⟩ = some (.slice x' p.code.length k') := ⟨blk_cell HW.out.prog 0 _ rfl, blk_cell HW.out.prog 1 _ rfl, blk_cell HW.out.prog 2 _ rfl, blk_cell HW.out.prog 3 _ rfl⟩
                have HGO := Lib.hid hgo
                have HTB := Lib.hid htb
                have e84 : ((((objA s.objs ((kv : Int) + 1)).length : Nat) : Int) != ((p.types.getD tt []).length : Int)) = false := by rw [hlen]; exact bne_self_eq_false _
                clear hptr hname v1 v2 v3 v4 htt hz hkv ctt hlen hgo htb
                generalize p.types.getD tt [] = ty at *
                generalize (objA s.objs ((kv : Int) + 1)).length = m at *
                subst hx hao
                have hsl : ty.length ≤ 9223372036854775807 := by omega
                have htl' : (tt : Int) < (p.types.length : Int) := by omega
                have hkl' : (kv : Int) < (s.objs.length : Int) := by omega
                have ew2 : IntKind.i64.wrap (kv : Int) = (kv : Int) := IntWalk.i64_in _ (by omega)
                have et0 : (0 : Int) ≤ (tt : Int) := by omega
                have e56 : ¬ ((kv : Int) + 1 < 0) := by omega
                have e62 : ¬ ((s.objs.length : Int) < (kv : Int) + 1) := by omega
                have e66 : (0 : Int) < (kv : Int) + 1 := by omega
                go_upto_region 22 with (fail)
                go_region_held3 (fun w' => w'.cell? ⟨b, 20, none⟩ = some (.slice (some ⟨go, oo, none⟩) s.objs.length co) ∧ w'.cell? ⟨go, oo + kv, none⟩ = some (.slice r m rc) ∧ w'.cell? ⟨w.heap.size, 0, none⟩ = some (.slice (some ⟨tb, tq, none⟩) p.types.length k) ∧ w'.cell? ⟨w.heap.size, 1, none⟩ = some (str p.locals) ∧ w'.cell? ⟨w.heap.size, 2, none⟩ = some (str p.globs) ∧ w'.cell? ⟨w.heap.size, 3, none⟩ = some (.slice x' p.code.length k') ∧ w'.cell? ⟨tb, tq + tt, none⟩ = some (str ty)) (first
                  | exact ⟨d20, drow, d0, d1, d2, d3, dtt⟩
                  | go_keep) (first
                  | (go_at_call 20; (with_reducible refine (HCL.out _ ?_).mono ?_); (first | exact HW.out.below.drew | exact HW.out.below); rintro e w5 ⟨rfl, hb⟩
                     have hb' := (Below.refl w2.heap.size w2).drew.trans hb
                     have HW5 := Lib.hid (HW.out.next hb')
                     have HIT5 := Lib.hid (itr_below HIT.out hb')
                     have d20 : w5.cell? ⟨b, 20, none⟩ = some (.slice (some ⟨go, oo, none⟩) s.objs.length co) := by rw [hb'.cell (p := ⟨b, 20, none⟩) (blk_lt HW.out.st)]; exact c20
                     have drow : w5.cell? ⟨go, oo + kv, none⟩ = some (.slice r m rc) := by rw [hb'.cell (p := ⟨go, oo + kv, none⟩) HGO.out]; exact crow
                     have dtt : w5.cell? ⟨tb, tq + tt, none⟩ = some (str ty) := by rw [hb'.cell (p := ⟨tb, tq + tt, none⟩) (Nat.lt_of_lt_of_le HTB.out HW.out.below.size)]; exact ct2
                     have d0 : w5.cell? ⟨w.heap.size, 0, none⟩ = some (.slice (some ⟨tb, tq, none⟩) p.types.length k) := by rw [hb'.cell (p := ⟨w.heap.size, 0, none⟩) (blk_lt HW.out.prog)]; exact p0
                     have d1 : w5.cell? ⟨w.heap.size, 1, none⟩ = some (str p.locals) := by rw [hb'.cell (p := ⟨w.heap.size, 1, none⟩) (blk_lt HW.out.prog)]; exact p1
                     have d2 : w5.cell? ⟨w.heap.size, 2, none⟩ = some (str p.globs) := by rw [hb'.cell (p := ⟨w.heap.size, 2, none⟩) (blk_lt HW.out.prog)]; exact p2
                     have d3 : w5.cell? ⟨w.heap.size, 3, none⟩ = some (.slice x' p.code.length k') := by rw [hb'.cell (p := ⟨w.heap.size, 3, none⟩) (blk_lt HW.out.prog)]; exact p3
                     clear hb hb'))
                all_goals
                  go_wp2
                  go_roundg (p.globs.length - (pos + 1))
                  case measure => omega
                  case rel => exact ⟨pos + 1, by omega, rfl, HIT5, HW5⟩
            · obtain rfl : pos = p.globs.length := by omega
              have hnx := fun ty => run_next_fin (P := Tryd.prog) wr gG ⟨p.globs.toArray⟩ p.globs.length ty HIT.out (Nat.lt_irrefl _)
              clear HIT
              go_upto_region 24 with (fail)
              clear hnx
              have HSP : Hid (∀ w1, Below w.heap.size w w1 → StN w1 (.slice ao s.objs.length co) (.slice at' s.out.length ct) s → Calls Tryd.prog 12 #[.agg (progC (.slice x p.types.length k) p (.slice x' p.code.length k')), .agg (stC s (.slice ao s.objs.length co) (.slice at' s.out.length ct))] w1 (StepPost w1 (stepL p s))) := Lib.hid fun w1 hb1 hs1 => HST.out w1 s _ _ ts n hb1 hs1 (size_run HC.out HR.out (by omega)) (by omega) (fun _ => HR.out)
              rcases step_one HC.out HR.out with ⟨hp, he⟩ | ⟨i, hi, hz, ⟨hd, he⟩ | ⟨t, hd, he⟩⟩
              · rw [he] at HSP
                clear hp he
                go_wp2_with (first
                        | (refine wpList_loadB rfl 25 _ rfl w.heap.size (progC (.slice x p.types.length k) p (.slice x' p.code.length k')) rfl 25 HW.out.prog _ Tryd.underlying25 rfl prog_info ?_)
                        | (refine wpList_loadB rfl 34 _ rfl b (stC s (.slice ao s.objs.length co) (.slice at' s.out.length ct)) rfl 34 HW.out.st _ Tryd.underlying34 rfl (state_size HW.out.at'.len) ?_)
                        | (go_at_call 12; refine (HSP.out _ (HW.out.below) HW.out.at').mono ?_; rintro e1 w4 ⟨vo2, vt2, rfl, hst2, hb⟩; have HT := Lib.hid hst2; have HW := Lib.hid (HW.out.next hb); clear hb hst2)
                        | (have HBT : Hid (Below w4.heap.size w4 (putB (w4.alloc (.cells zeroS 34)) w4.heap.size (stC s vo2 vt2) 34)) := Lib.hid (((Below.refl _ _).alloc (Nat.le_refl _) _).trans (putB_below _ (Nat.le_refl _) _ _)); refine wpList_putB rfl 34 _ _ rfl w4.heap.size (stC s vo2 vt2) rfl rfl 34 zeroS (blk_new w4 zeroS 34) (state_size HT.out.len) (by rw [stC_size HT.out.len]; rfl) HT.out.one ?_; have HW := Lib.hid (HW.out.next HBT.out); have HT := Lib.hid (HT.out.below HBT.out); have KT := Lib.hid (putB_at (blk_new w4 zeroS 34) (stC s vo2 vt2) 34); clear HBT)
                        | (refine wpList_loadG (by rfl) 34 _ rfl w4.heap.size (stC s vo2 vt2) rfl 34 KT.out _ Tryd.underlying34 rfl (state_size HT.out.len) ?_)
                        | (refine wpList_loadG (by rfl) 34 _ rfl b (stC s (.slice ao s.objs.length co) (.slice at' s.out.length ct)) rfl 34 HW.out.st _ Tryd.underlying34 rfl (state_size HW.out.at'.len) ?_)
                        | (go_at_call 14; refine (same_n _ _ s _ HT.out.at' HW.out.at'.at').mono ?_; rintro e1 w6 ⟨rfl, hb⟩; have HW := Lib.hid (HW.out.next hb); clear hb HT KT))
                go_ret
                exact ⟨rfl, HW.out.below⟩
              · rw [he] at HSP
                clear hd he hi hz
                go_wp2_with (first
                        | (refine wpList_loadB rfl 25 _ rfl w.heap.size (progC (.slice x p.types.length k) p (.slice x' p.code.length k')) rfl 25 HW.out.prog _ Tryd.underlying25 rfl prog_info ?_)
                        | (refine wpList_loadB rfl 34 _ rfl b (stC s (.slice ao s.objs.length co) (.slice at' s.out.length ct)) rfl 34 HW.out.st _ Tryd.underlying34 rfl (state_size HW.out.at'.len) ?_)
                        | (go_at_call 12; refine (HSP.out _ (HW.out.below) HW.out.at').mono ?_; rintro e1 w4 ⟨vo2, vt2, rfl, hst2, hb⟩; have HT := Lib.hid hst2; have HW := Lib.hid (HW.out.next hb); clear hb hst2)
                        | (have HBT : Hid (Below w4.heap.size w4 (putB (w4.alloc (.cells zeroS 34)) w4.heap.size (stC s vo2 vt2) 34)) := Lib.hid (((Below.refl _ _).alloc (Nat.le_refl _) _).trans (putB_below _ (Nat.le_refl _) _ _)); refine wpList_putB rfl 34 _ _ rfl w4.heap.size (stC s vo2 vt2) rfl rfl 34 zeroS (blk_new w4 zeroS 34) (state_size HT.out.len) (by rw [stC_size HT.out.len]; rfl) HT.out.one ?_; have HW := Lib.hid (HW.out.next HBT.out); have HT := Lib.hid (HT.out.below HBT.out); have KT := Lib.hid (putB_at (blk_new w4 zeroS 34) (stC s vo2 vt2) 34); clear HBT)
                        | (refine wpList_loadG (by rfl) 34 _ rfl w4.heap.size (stC s vo2 vt2) rfl 34 KT.out _ Tryd.underlying34 rfl (state_size HT.out.len) ?_)
                        | (refine wpList_loadG (by rfl) 34 _ rfl b (stC s (.slice ao s.objs.length co) (.slice at' s.out.length ct)) rfl 34 HW.out.st _ Tryd.underlying34 rfl (state_size HW.out.at'.len) ?_)
                        | (go_at_call 14; refine (same_n _ _ s _ HT.out.at' HW.out.at'.at').mono ?_; rintro e1 w6 ⟨rfl, hb⟩; have HW := Lib.hid (HW.out.next hb); clear hb HT KT))
                go_ret
                exact ⟨rfl, HW.out.below⟩
              · rw [he] at HSP
                obtain ⟨ts', hrn, _⟩ := run_next HC.out HOK.out.ins (by omega) HR.out hi hd
                have HRN := Lib.hid hrn
                obtain ⟨q1, -, -, -, -, q6, q7⟩ := doI_grow (right_op' (ins_parts hz).1) hd
                have q1' : t.steps = s.steps + 1 := q1
                have q6' : s.objs.length ≤ t.objs.length := by rw [q6]; simp [onI]
                have q7' : s.out.length ≤ t.out.length := by
                  split at q7
                  · rw [q7]; simp [onI]
                  · rw [q7]; simp [onI]
                have hsl' : s.steps ≤ 255 := by have := HR.out.st; omega
                have e157 : ((t.steps : Int) != (s.steps : Int) + 1) = false := by simp; omega
                have e165 : ¬ ((t.objs.length : Int) < (s.objs.length : Int)) := by omega
                have e174 : ¬ ((t.out.length : Int) < (s.out.length : Int)) := by omega
                clear q1 q6 q7 q1' q6' q7' hd he hi hz hrn HR
                go_upto_region 27 with (first
                        | (refine wpList_loadB rfl 25 _ rfl w.heap.size (progC (.slice x p.types.length k) p (.slice x' p.code.length k')) rfl 25 HW.out.prog _ Tryd.underlying25 rfl prog_info ?_)
                        | (refine wpList_loadB rfl 34 _ rfl b (stC s (.slice ao s.objs.length co) (.slice at' s.out.length ct)) rfl 34 HW.out.st _ Tryd.underlying34 rfl (state_size HW.out.at'.len) ?_)
                        | (go_at_call 12; refine (HSP.out _ (HW.out.below) HW.out.at').mono ?_; rintro e1 w4 ⟨vo2, vt2, rfl, hst2, hb⟩; have HT := Lib.hid hst2; have HW := Lib.hid (HW.out.next hb); clear hb hst2)
                        | (have HBT : Hid (Below w4.heap.size w4 (putB (w4.alloc (.cells zeroS 34)) w4.heap.size (stC t vo2 vt2) 34)) := Lib.hid (((Below.refl _ _).alloc (Nat.le_refl _) _).trans (putB_below _ (Nat.le_refl _) _ _)); refine wpList_putB rfl 34 _ _ rfl w4.heap.size (stC t vo2 vt2) rfl rfl 34 zeroS (blk_new w4 zeroS 34) (state_size HT.out.len) (by rw [stC_size HT.out.len]; rfl) HT.out.one ?_; have HW := Lib.hid (HW.out.next HBT.out); have HT := Lib.hid (HT.out.below HBT.out); have KT := Lib.hid (putB_at (blk_new w4 zeroS 34) (stC t vo2 vt2) 34); clear HBT))
                obtain ⟨ao2, co2, hvo, -, -⟩ := HT.out.objs.form
                obtain ⟨at2, ct2, hvt, -, -⟩ := rowN_form HT.out.out
                subst hvo hvt
                obtain ⟨s20, s21, -, s23⟩ := stC_rest (vo := .slice ao s.objs.length co) (vt := .slice at' s.out.length ct) HW.out.at'.len
                have s20 := blk_cell HW.out.st _ _ s20
                have s21 := blk_cell HW.out.st _ _ s21
                have s23 := blk_cell HW.out.st _ _ s23
                obtain ⟨t20, t21, -, t23⟩ := stC_rest (vo := .slice ao2 t.objs.length co2) (vt := .slice at2 t.out.length ct2) HT.out.len
                have t20 := blk_cell KT.out _ _ t20
                have t21 := blk_cell KT.out _ _ t21
                have t23 := blk_cell KT.out _ _ t23
                go_upto_region 29 with (fail)
                clear s20 s21 s23 t20 t21 t23
                go_wp2_with (first
                        | (refine wpList_loadB rfl 34 _ rfl w4.heap.size (stC t (.slice ao2 t.objs.length co2) (.slice at2 t.out.length ct2)) rfl 34 KT.out _ Tryd.underlying34 rfl (state_size HT.out.len) ?_)
                        | (refine wpList_putB rfl 34 _ _ rfl b (stC t (.slice ao2 t.objs.length co2) (.slice at2 t.out.length ct2)) rfl rfl 34 _ HW.out.st (state_size HT.out.len) (by rw [stC_size HW.out.at'.len, stC_size HT.out.len]) HT.out.one ?_; have HW := Lib.hid (HW.out.put HT.out hbne hbge); clear HT KT))
                go_roundw
                case rel => exact ⟨n + 1, t, ts', _, _, by omega, by go_num, HW, HRN⟩
                case measure => simp [intOf]; omega
    · obtain rfl : n = M := by omega
      go_wp2
      go_ret
      exact ⟨rfl, HW.out.below⟩
theorem right_walk (v : Value) (p : PProg) (a : Int) (w : World) (h : ProgAt w v p) (hs : OkP p) (ha0 : 0 ≤ a) (ha : a ≤ 255) (ho : HasO w) (ht' : HasT w) : Calls Tryd.prog 6 #[v, .int .u8 a] w fun e w' => e = .returned (.bool true) ∧ Below w.heap.size w w' := by
  obtain ⟨vt, vc, rfl, ht, hc⟩ := id h
  have hwb : Below w.heap.size w (w.alloc (.cells (progC vt p vc) 25)) := (Below.refl _ _).alloc (Nat.le_refl _) _
  have HK := keep_new h
  obtain ⟨x, c, rfl, q1, q2, -⟩ := id ht.elems
  obtain ⟨x', c', rfl, -, -, -⟩ := id hc
  obtain ⟨ka, rfl⟩ : ∃ ka : Nat, a = ka := ⟨a.toNat, by omega⟩
  unfold maxLen at q2
  have ho' : ∀ {w1}, Below (w.alloc (.cells (progC (.slice x p.types.length c) p (.slice x' p.code.length c')) 25)).heap.size (w.alloc (.cells (progC (.slice x p.types.length c) p (.slice x' p.code.length c')) 25)) w1 → HasO w1 := fun hb1 => (ho.below hwb).below hb1
  have hp' : ∀ {w1}, Below (w.alloc (.cells (progC (.slice x p.types.length c) p (.slice x' p.code.length c')) 25)).heap.size (w.alloc (.cells (progC (.slice x p.types.length c) p (.slice x' p.code.length c')) 25)) w1 → ProgAt w1 _ p := fun hb1 => (h.below hwb).below hb1
  exact right_at w _ p ka (fewP p) (checkL p).1 (checkL p).2 x x' c c' rfl (Lib.hid HK) (Lib.hid hwb) (Lib.hid fun w1 hb1 => malive_n w1 (ho' hb1)) (Lib.hid fun w1 hb1 => few_b _ p _ w1 (hp' hb1) hs rfl)
    (Lib.hid fun w1 hb1 => rcheck_n _ p _ _ w1 (hp' hb1) hs ((ht'.below hwb).below hb1) rfl rfl)
    (Lib.hid fun w1 s vo vt ts n hb1 hs1 hz hn hr => mstep_n _ p w1 s vo vt ts n (h.below hb1) hs (ho.below hb1) hs1 hz hn hr)
    (Lib.hid fun hh w1 b hb1 h255 => rlocal_n _ p b _ w1 (h.below hb1) hs (by have := (head_parts hh).2.2.1; omega) (by omega) (by omega) rfl)
    (Lib.hid fun hh w1 b hb1 h255 => rglob_n _ p b _ w1 (h.below hb1) hs (by have := (head_parts hh).2.2.2; omega) (by omega) (by omega) rfl)
    (Lib.hid ht) (by omega) (Lib.hid hs) (by simpa using q1) (by omega) (Lib.hid (by constructor <;> intro h0 <;> omega))
end Go.Proofs.YtmnoohpkjgjphaaDoor
