/-
  Layer 6: the contract of alive: answers that the document fixes.
  ModelFurther: the walk.
  ModelPieces: the walk.
-/
import Derived.Test.YtmnoohpkjgjphaaDoorPRun
import Derived.Test.YtmnoohpkjgjphaaDoorMNS
import Derived.Deep.CutRange
import Derived.Deep.LoopGhost
import Derived.Deep.CutBlock

/- Layer 6: the contract of alive: answers that the document fixes. -/
namespace Go.Proofs.YtmnoohpkjgjphaaDoor
set_option linter.unusedSimpArgs false
set_option linter.unusedVariables false
open Go.RowKit

def MA : PProg := ⟨[[105]], [48], [], [⟨1, 0, 0, 0, 5⟩, ⟨5, 0, 0, 0, 0⟩, ⟨9, 0, 0, 0, 0⟩, ⟨8, 1, 0, 0, 0⟩, ⟨14, 1, 0, 0, 0⟩]⟩
def MB : PProg := ⟨[[105]], [48], [], [⟨1, 0, 0, 0, 5⟩, ⟨6, 0, 0, 0, 0⟩, ⟨9, 0, 0, 0, 0⟩, ⟨8, 1, 0, 0, 0⟩, ⟨14, 1, 0, 0, 0⟩]⟩
theorem ma_5 : runL MA 5 = ([5], 0) := by kernel_rfl
theorem ma_4 : runL MA 4 = ([], 10) := by kernel_rfl
theorem mb_9 : runL MB 9 = ([], 9) := by kernel_rfl
theorem ma_ok : OkP MA := ⟨by intro t ht; simp [MA] at ht; subst ht; decide, by decide, by decide, by intro i hi; simp [MA] at hi; rcases hi with rfl | rfl | rfl | rfl | rfl <;> (constructor <;> decide)⟩
theorem mb_ok : OkP MB := ⟨by intro t ht; simp [MB] at ht; subst ht; decide, by decide, by decide, by intro i hi; simp [MB] at hi; rcases hi with rfl | rfl | rfl | rfl | rfl <;> (constructor <;> decide)⟩
theorem keep_putM {w : World} {b g : Nat} {vt : Value} {p q : PProg} {cs cs' : Array Value} (h : Keep w b vt (.slice (some ⟨g, 0, none⟩) p.code.length p.code.length) p) (hg : blk w g cs 55) (hne : b ≠ g) (ht : RowAt (putB w g cs' 55) vt (q.types.map str)) (e1 : q.locals = p.locals) (e2 : q.globs = p.globs) (e3 : q.code.length = p.code.length) (hc : cs'.toList = codeCells q.code) (hl : q.code.length ≤ maxLen) :
    Keep (putB w g cs' 55) b vt (.slice (some ⟨g, 0, none⟩) p.code.length p.code.length) q := by
  have hb : blk (putB w g cs' 55) b (progC vt p (.slice (some ⟨g, 0, none⟩) p.code.length p.code.length)) 25 := by unfold blk; rw [putB_ne _ hne]; exact h.blk
  have he : progC vt p (.slice (some ⟨g, 0, none⟩) p.code.length p.code.length) = progC vt q (.slice (some ⟨g, 0, none⟩) p.code.length p.code.length) := by unfold progC; rw [e1, e2]
  refine ⟨by rw [← he]; exact hb, vt, _, rfl, ht, ?_⟩
  have := insRow_blk (is := q.code) (putB_at hg cs' 55) hc hl
  rw [e3] at this
  exact this
abbrev maC (n : Int) : Array Value := #[.int .u8 1, .int .u8 0, .int .u8 0, .int .u8 0, .int .i64 5, .int .u8 n, .int .u8 0, .int .u8 0, .int .u8 0, .int .i64 0, .int .u8 9, .int .u8 0, .int .u8 0, .int .u8 0, .int .i64 0, .int .u8 8, .int .u8 1, .int .u8 0, .int .u8 0, .int .i64 0, .int .u8 14, .int .u8 1, .int .u8 0, .int .u8 0, .int .i64 0]
theorem ma_put {w1 : World} {B : Nat} (h : Keep w1 (B + 1 + 1) (.slice (some ⟨B, 0, none⟩) 1 1) (.slice (some ⟨B + 1, 0, none⟩) 5 5) MA) (hc : blk w1 (B + 1) (maC 5) 55) (ht : blk w1 B #[.string ⟨#[105]⟩] 9) :
    Keep (w1.setCell ⟨B + 1, 5, none⟩ (.int .u8 6)) (B + 1 + 1) (.slice (some ⟨B, 0, none⟩) 1 1) (.slice (some ⟨B + 1, 0, none⟩) 5 5) MB := by
  rw [setCell_putB hc]
  have ht' : blk (putB w1 (B + 1) (maC 6) 55) B #[.string ⟨#[105]⟩] 9 := by unfold blk; rw [putB_ne _ (by omega)]; exact ht
  exact keep_putM (p := MA) (q := MB) (cs' := maC 6) h hc (by omega) (row_blk ht' (by decide)) rfl rfl rfl rfl (by decide)
theorem cell_setC {w : World} {b b' o o' : Nat} {u v : Value} (hne : b ≠ b' ∨ o' ≠ o) (h : w.cell? ⟨b', o', none⟩ = some u) : (w.setCell ⟨b, o, none⟩ v).cell? ⟨b', o', none⟩ = some u := by
  by_cases hb : b = b'
  · subst hb
    have ho : o' ≠ o := hne.resolve_left (by simp)
    unfold World.cell? at h ⊢
    unfold World.setCell
    simp only [Array.getElem?_modify, if_true] at h ⊢
    revert h
    rcases w.heap[b]? with _ | x
    · simp
    · cases x <;> simp
      intro h
      rw [Array.getElem?_setIfInBounds, if_neg (fun e => ho e.symm)]
      exact h
  · rw [World.cell?_setCell_far w _ _ _ hb]; exact h
theorem row_five {w : World} {v : Value} (h : RowN w v (i64s [5])) : ∃ b o c, v = .slice (some ⟨b, o, none⟩) 1 c ∧ 1 ≤ c ∧ c ≤ 9223372036854775807 ∧ b < w.heap.size ∧ w.cell? ⟨b, o, none⟩ = some (.int .i64 5) := by
  rcases h.cases with ⟨h0, _⟩ | ⟨_, b, o, c, rfl, g1, g2, hl, hc⟩
  · simp at h0
  · exact ⟨b, o, c, rfl, by simpa using g1, by unfold maxLen at g2; omega, hl, hc 0 _ rfl⟩
theorem run_z (v : Value) (p : PProg) (w : World) (fuel : Int) (l : List Int) (z : Nat) (h : ProgAt w v p) (hs : OkP p) (ho : HasO w) (hf : fuel ≤ 1000000) (hr : runL p fuel = (l, z)) : Calls Tryd.prog 15 #[v, .int .i64 fuel] w (RunPost w l z) := by
  have := mrun_n v p w fuel h hs ho hf
  rw [hr] at this
  exact this
set_option maxRecDepth 100000 in
set_option maxHeartbeats 2000000 in
theorem malive_at (w W0 : World) (hW0 : W0 = ((w.alloc (.cells #[.string ⟨#[105]⟩] 9)).alloc (.cells (maC 5) 55)).alloc (.cells #[.slice (some ⟨w.heap.size, 0, none⟩) 1 1, .string ⟨#[48]⟩, .string ⟨#[]⟩, .slice (some ⟨w.heap.size + 1, 0, none⟩) 5 5] 25))
    (KP : Hid (Keep W0 (w.heap.size + 1 + 1) (.slice (some ⟨w.heap.size, 0, none⟩) 1 1) (.slice (some ⟨w.heap.size + 1, 0, none⟩) 5 5) MA)) (KC : Hid (blk W0 (w.heap.size + 1) (maC 5) 55)) (HS : Hid (Below w.heap.size w W0)) (HO : Hid (HasO w)) (KT : Hid (blk W0 w.heap.size #[.string ⟨#[105]⟩] 9)) :
    Calls Tryd.prog 11 #[] w (AggPost w (.bool true)) := by
  go_enter Tryd.func11, Tryd.ntmps11
  go_wp2_with (fail)
  rw [← hW0]
  clear hW0
  have HF1 := Lib.hid ma_5
  have HF2 := Lib.hid ma_4
  have HF3 := Lib.hid mb_9
  go_wp2_with (first
    | (refine wpList_loadB rfl 25 _ rfl (w.heap.size + 1 + 1) (progC (.slice (some ⟨w.heap.size, 0, none⟩) 1 1) MA (.slice (some ⟨w.heap.size + 1, 0, none⟩) 5 5)) rfl 25 K1.out.blk _ Tryd.underlying25 rfl prog_info ?_)
    | (refine wpList_loadB rfl 25 _ rfl (w.heap.size + 1 + 1) (progC (.slice (some ⟨w.heap.size, 0, none⟩) 1 1) MB (.slice (some ⟨w.heap.size + 1, 0, none⟩) 5 5)) rfl 25 K3.out.blk _ Tryd.underlying25 rfl prog_info ?_)
    | (go_at_call 15; refine (run_z _ MA _ 5 [5] 0 KP.out.at' ma_ok (HO.out.below HS.out) (by decide) HF1.out).mono ?_; rintro e w1 ⟨vt1, rfl, hn1, hb⟩; clear HF1; obtain ⟨b1, o1, c1, hv1, g1, g2, hl1, hc1⟩ := row_five hn1; subst hv1; have K1 := Lib.hid (KP.out.below hb); have KC1 := Lib.hid (blk_below KC.out hb); have KT1 := Lib.hid (blk_below KT.out hb); have HB1 := Lib.hid (HS.out.trans (hb.mono HS.out.size)); have HL1 := Lib.hid hl1; have HC1 := Lib.hid hc1; clear hb hn1 hl1 hc1)
    | (go_at_call 15; refine (run_z _ MA _ 4 [] 10 K1.out.at' ma_ok (HO.out.below HB1.out) (by decide) HF2.out).mono ?_; rintro e w2 ⟨vt2, rfl, hn2, hb⟩; clear HF2
       have KK := Lib.hid (K1.out.below hb); have KC2 := Lib.hid (blk_below KC1.out hb); have KT2 := Lib.hid (blk_below KT1.out hb); have HB2 := Lib.hid (HB1.out.trans (hb.mono HB1.out.size))
       have HL2 := Lib.hid (Nat.lt_of_lt_of_le HL1.out hb.size)
       have HC2 : Hid (w2.cell? ⟨b1, o1, none⟩ = some (.int .i64 5)) := Lib.hid (by rw [hb.cell (p := ⟨b1, o1, none⟩) HL1.out]; exact HC1.out)
       clear hb hn2 K1 HL1 HC1 KC1 KT1 HB1
       have p3 := blk_cell KK.out.blk 3 _ rfl
       have c5 : w2.cell? ⟨w.heap.size + 1, 5, none⟩ = some (.int .u8 5) := blk_cell KC2.out 5 _ rfl
       have f5 := blk_frozen KC2.out 5
       have K3 := Lib.hid (ma_put KK.out KC2.out KT2.out)
       have HB3 := Lib.hid (HB2.out.setCell (p := ⟨w.heap.size + 1, 5, none⟩) (Nat.le_succ _) (.int .u8 6))
       have HC3 : Hid ((w2.setCell ⟨w.heap.size + 1, 5, none⟩ (.int .u8 6)).cell? ⟨b1, o1, none⟩ = some (.int .i64 5)) := Lib.hid (by
         have hne : w.heap.size + 1 ≠ b1 ∨ o1 ≠ 5 := by
           by_cases h : w.heap.size + 1 = b1
           · right; rintro rfl; have := HC2.out; rw [← h, c5] at this; simp at this
           · exact .inl h
         exact cell_setC hne HC2.out)
       have HL3 : Hid (b1 < (w2.setCell ⟨w.heap.size + 1, 5, none⟩ (.int .u8 6)).heap.size) := Lib.hid (by simpa using HL2.out))
    | (go_at_call 15; refine (run_z _ MB _ 9 [] 9 K3.out.at' mb_ok (HO.out.below HB3.out) (by decide) HF3.out).mono ?_; rintro e w3 ⟨vt3, rfl, hn3, hb⟩; clear HF3
       have HB4 := Lib.hid (HB3.out.trans (hb.mono HB3.out.size))
       have c0 : w3.cell? ⟨b1, o1, none⟩ = some (.int .i64 5) := by rw [hb.cell (p := ⟨b1, o1, none⟩) HL3.out]; exact HC3.out
       clear hb hn3 K3 HB3 HC3 HL3))
  go_ret
  exact ⟨rfl, HB4.out⟩
theorem malive_n (w : World) (h : HasO w) : Calls Tryd.prog 11 #[] w (AggPost w (.bool true)) := by
  have hwb : Below w.heap.size w (((w.alloc (.cells #[.string ⟨#[105]⟩] 9)).alloc (.cells (maC 5) 55)).alloc (.cells #[.slice (some ⟨w.heap.size, 0, none⟩) 1 1, .string ⟨#[48]⟩, .string ⟨#[]⟩, .slice (some ⟨w.heap.size + 1, 0, none⟩) 5 5] 25)) := (((Below.refl _ _).alloc (Nat.le_refl _) _).alloc (by simp) _).alloc (by simp; omega) _
  have s1 : (w.alloc (.cells #[.string ⟨#[105]⟩] 9)).heap.size = w.heap.size + 1 := World.size_alloc _ _
  have s2 : ((w.alloc (.cells #[.string ⟨#[105]⟩] 9)).alloc (.cells (maC 5) 55)).heap.size = w.heap.size + 1 + 1 := by rw [World.size_alloc, s1]
  have k1 : blk (w.alloc (.cells #[.string ⟨#[105]⟩] 9)) w.heap.size #[.string ⟨#[105]⟩] 9 := blk_new _ _ _
  have k2 : blk ((w.alloc (.cells #[.string ⟨#[105]⟩] 9)).alloc (.cells (maC 5) 55)) (w.heap.size + 1) (maC 5) 55 := by rw [← s1]; exact blk_new _ _ _
  have hp : ProgAt ((w.alloc (.cells #[.string ⟨#[105]⟩] 9)).alloc (.cells (maC 5) 55)) (.agg (progC (.slice (some ⟨w.heap.size, 0, none⟩) 1 1) MA (.slice (some ⟨w.heap.size + 1, 0, none⟩) 5 5))) MA :=
    ⟨_, _, rfl, row_blk (blk_alloc k1 _) (by decide), insRow_blk (is := MA.code) k2 rfl (by decide)⟩
  have kp := keep_new hp
  rw [s2] at kp
  exact malive_at w _ rfl (Lib.hid kp) (Lib.hid (blk_alloc k2 _)) (Lib.hid hwb) (Lib.hid h) (Lib.hid (blk_alloc (blk_alloc k1 _) _))
end Go.Proofs.YtmnoohpkjgjphaaDoor

/- ModelFurther: the walk. -/
namespace Go.Proofs.YtmnoohpkjgjphaaDoor
set_option linter.unusedSimpArgs false
set_option linter.unusedVariables false
open Go.RowKit

theorem rowN_form {w : World} {v : Value} {l : List Int} (h : RowN w v (i64s l)) : ∃ a c, v = .slice a l.length c ∧ l.length ≤ c ∧ c ≤ 9223372036854775807 := by
  obtain ⟨⟨a, c, rfl, h1, h2, h3⟩, -⟩ := h
  unfold maxLen at h2
  rw [i64s_len] at h1 ⊢
  exact ⟨a, c, rfl, h1, by omega⟩
theorem row_pre {w : World} {a : Option Addr} {n c : Nat} {l e : List Int} (h : RowAt w (.slice a n c) (i64s (l ++ e))) : RowAt w (.slice a l.length c) (i64s l) := by
  obtain ⟨a', c', he, h1, h2, h3⟩ := h
  simp only [Value.slice.injEq] at he
  obtain ⟨rfl, -, rfl⟩ := he
  refine ⟨a, c, by rw [i64s_len], by rw [i64s_len] at h1 ⊢; rw [List.length_append] at h1; omega, h2, ?_⟩
  rcases h3 with h3 | ⟨b, o, rfl, hb, hc⟩
  · left
    have := congrArg List.length h3
    simp at this
    simp [this.1]
  · exact .inr ⟨b, o, rfl, hb, fun j x hx => hc j x (by rw [show i64s (l ++ e) = i64s l ++ i64s e by simp]; rw [List.getElem?_append_left (List.getElem?_eq_some_iff.1 hx).1]; exact hx)⟩
set_option maxRecDepth 100000 in
set_option maxHeartbeats 2000000 in
theorem further_at (w W0 : World) (p : PProg) (a b : Nat) (l e : List Int) (z1 z2 : Nat) (f : Bool) (x x' : Option Addr) (k k' : Nat)
    (hW0 : W0 = w.alloc (.cells #[.slice x p.types.length k, str p.locals, str p.globs, .slice x' p.code.length k'] 25))
    (KP : Hid (Keep W0 w.heap.size (.slice x p.types.length k) (.slice x' p.code.length k') p)) (HS : Hid (Below w.heap.size w W0))
    (HAL : Hid (∀ w1, Below W0.heap.size W0 w1 → Calls Tryd.prog 11 #[] w1 (AggPost w1 (.bool true))))
    (HF : Hid (∀ w1, Below W0.heap.size W0 w1 → Calls Tryd.prog 10 #[.agg (progC (.slice x p.types.length k) p (.slice x' p.code.length k'))] w1 (AggPost w1 (.bool f))))
    (HR1 : Hid (∀ w1, Below W0.heap.size W0 w1 → Calls Tryd.prog 15 #[.agg (progC (.slice x p.types.length k) p (.slice x' p.code.length k')), .int .i64 a] w1 (RunPost w1 l z1)))
    (HR2 : Hid (∀ w1, Below W0.heap.size W0 w1 → Calls Tryd.prog 15 #[.agg (progC (.slice x p.types.length k) p (.slice x' p.code.length k')), .int .i64 ((a : Int) + b)] w1 (RunPost w1 (l ++ e) z2)))
    (ha : a ≤ 255) (hb : b ≤ 255) (hz : z1 ≠ 10 → z2 = z1 ∧ e = []) :
    Calls Tryd.prog 5 #[.agg (progC (.slice x p.types.length k) p (.slice x' p.code.length k')), .int .u8 a, .int .u8 b] w (AggPost w (.bool true)) := by
  have HB := Lib.hid (Below.refl W0.heap.size W0)
  go_enter Tryd.func5, Tryd.ntmps5
  go_wp2_with (fail)
  rw [← hW0]
  clear hW0
  rcases f with _ | _
  · go_wp2_with (first
      | (refine wpList_loadB rfl 25 _ rfl w.heap.size (progC (.slice x p.types.length k) p (.slice x' p.code.length k')) rfl 25 KP.out.blk _ Tryd.underlying25 rfl prog_info ?_)
      | (go_at_call 11; refine (HAL.out _ HB.out).mono ?_; rintro e1 w1 ⟨rfl, hb⟩; have HB := Lib.hid (HB.out.trans (hb.mono HB.out.size)); have KP := Lib.hid (KP.out.below hb); clear hb)
      | (go_at_call 10; refine (HF.out _ HB.out).mono ?_; rintro e1 w1 ⟨rfl, hb⟩; have HB := Lib.hid (HB.out.trans (hb.mono HB.out.size)); clear hb))
    go_ret
    exact ⟨rfl, HS.out.trans (HB.out.mono HS.out.size)⟩
  have HZ := Lib.hid hz
  clear hz
  go_upto_region 9 with (first
    | (refine wpList_loadB rfl 25 _ rfl w.heap.size (progC (.slice x p.types.length k) p (.slice x' p.code.length k')) rfl 25 KP.out.blk _ Tryd.underlying25 rfl prog_info ?_)
    | (go_at_call 11; refine (HAL.out _ HB.out).mono ?_; rintro e1 w1 ⟨rfl, hb⟩; have HB := Lib.hid (HB.out.trans (hb.mono HB.out.size)); have KP := Lib.hid (KP.out.below hb); clear hb)
    | (go_at_call 10; refine (HF.out _ HB.out).mono ?_; rintro e1 w2 ⟨rfl, hb⟩; have HB := Lib.hid (HB.out.trans (hb.mono HB.out.size)); have KP := Lib.hid (KP.out.below hb); clear hb)
    | (go_at_call 15; refine (HR1.out _ HB.out).mono ?_; rintro e1 w3 ⟨v1, rfl, hn1, hb⟩; clear HR1; have HB := Lib.hid (HB.out.trans (hb.mono HB.out.size)); have KP := Lib.hid (KP.out.below hb); clear hb; obtain ⟨a1, c1, hv1, g1, g2⟩ := rowN_form hn1; subst hv1; have HN1 := Lib.hid hn1.1; clear hn1)
    | (go_at_call 15; refine (HR2.out _ HB.out).mono ?_; rintro e1 w4 ⟨v2, rfl, hn2, hb⟩; clear HR2; have HB := Lib.hid (HB.out.trans (hb.mono HB.out.size)); have HN1 := Lib.hid (HN1.out.below hb); clear hb; obtain ⟨a2, c2, hv2, k1, k2⟩ := rowN_form hn2; subst hv2; have HN2 := Lib.hid (row_pre hn2.1); clear hn2; rw [List.length_append] at k1; have k3 := k1; have k4 : l.length ≤ l.length + e.length := Nat.le_add_right _ _; have k5 : l.length ≤ c2 := by omega)
    | (go_at_call 17; refine (nums_n _ _ l l true _ HN1.out HN2.out (by simp)).mono ?_; rintro e1 w5 ⟨rfl, hb⟩; have HB := Lib.hid (HB.out.trans (hb.mono HB.out.size)); clear hb))
  by_cases h10 : z1 = 10
  · have e10 : ((z1 : Int) == 10) = true := by simp [h10]
    clear h10
    go_wp2
    go_ret
    exact ⟨rfl, HS.out.trans (HB.out.mono HS.out.size)⟩
  · obtain ⟨hz2, he⟩ := HZ.out h10
    have e10 : ((z1 : Int) == 10) = false := by simp; omega
    subst hz2 he
    clear h10
    go_wp2
    go_ret
    exact ⟨rfl, HS.out.trans (HB.out.mono HS.out.size)⟩
theorem further_walk (v : Value) (p : PProg) (a b : Int) (w : World) (h : ProgAt w v p) (hs : OkP p) (ha0 : 0 ≤ a) (ha : a ≤ 255) (hb0 : 0 ≤ b) (hb : b ≤ 255) (ho : HasO w) : Calls Tryd.prog 5 #[v, .int .u8 a, .int .u8 b] w fun e w' => e = .returned (.bool true) ∧ Below w.heap.size w w' := by
  obtain ⟨vt, vc, rfl, ht, hc⟩ := id h
  have hwb : Below w.heap.size w (w.alloc (.cells (progC vt p vc) 25)) := (Below.refl _ _).alloc (Nat.le_refl _) _
  have HK := keep_new h
  obtain ⟨x, c, rfl, -, -, -⟩ := id ht.elems
  obtain ⟨x', c', rfl, -, -, -⟩ := id hc
  obtain ⟨ka, rfl⟩ : ∃ ka : Nat, a = ka := ⟨a.toNat, by omega⟩
  obtain ⟨kb, rfl⟩ : ∃ kb : Nat, b = kb := ⟨b.toNat, by omega⟩
  have ho' : ∀ {w1}, Below (w.alloc (.cells (progC (.slice x p.types.length c) p (.slice x' p.code.length c')) 25)).heap.size (w.alloc (.cells (progC (.slice x p.types.length c) p (.slice x' p.code.length c')) 25)) w1 → HasO w1 := fun hb1 => (ho.below hwb).below hb1
  have hp' : ∀ {w1}, Below (w.alloc (.cells (progC (.slice x p.types.length c) p (.slice x' p.code.length c')) 25)).heap.size (w.alloc (.cells (progC (.slice x p.types.length c) p (.slice x' p.code.length c')) 25)) w1 → ProgAt w1 _ p := fun hb1 => (h.below hwb).below hb1
  obtain ⟨⟨e, h1⟩, h2⟩ := law_further hs.ins ka kb (by omega)
  refine further_at w _ p ka kb (runL p ka).1 e (runL p ka).2 (runL p (ka + kb : Nat)).2 (fewP p) x x' c c' rfl (Lib.hid HK) (Lib.hid hwb) (Lib.hid fun w1 hb1 => malive_n w1 (ho' hb1)) (Lib.hid fun w1 hb1 => few_b _ p _ w1 (hp' hb1) hs rfl)
    (Lib.hid fun w1 hb1 => run_z _ p w1 ka _ _ (hp' hb1) hs (ho' hb1) (by omega) rfl) (Lib.hid fun w1 hb1 => run_z _ p w1 ((ka : Int) + kb) _ _ (hp' hb1) hs (ho' hb1) (by omega) ?_) (by omega) (by omega) (fun h10 => ?_)
  · rw [show ((ka : Int) + kb) = ((ka + kb : Nat) : Int) by omega, ← h1]
  · have := h2 h10
    refine ⟨by rw [this], ?_⟩
    rw [this] at h1
    have := congrArg List.length h1
    simp at this
    exact this
end Go.Proofs.YtmnoohpkjgjphaaDoor

/- ModelPieces: the walk. -/
namespace Go.Proofs.YtmnoohpkjgjphaaDoor
set_option linter.unusedSimpArgs false
set_option linter.unusedVariables false
open Go.RowKit

theorem state_size {s : PSt} {vo vt : Value} (h : LenS s) : (Tryd.prog.info? 34).map (·.size) = some (stC s vo vt).size := by rw [stC_size h]; exact state_info
theorem GridN.form {w : World} {v : Value} {xss : List (List Int)} (h : GridN w v xss) : ∃ a c, v = .slice a xss.length c ∧ xss.length ≤ c ∧ c ≤ 9223372036854775807 := by
  obtain ⟨rows, h1, ⟨⟨a, c, rfl, g1, g2, _⟩, _, _⟩, _⟩ := h
  unfold maxLen at g2
  exact ⟨a, c, by rw [h1], by omega, by omega⟩
theorem StN.one {w : World} {vo vt : Value} {s : PSt} (h : StN w vo vt s) : (stC s vo vt).all (·.oneCell') = true := by
  obtain ⟨a, c, rfl, _⟩ := h.objs.form
  obtain ⟨a', c', rfl, _⟩ := rowN_form h.out
  exact stC_one s rfl rfl
theorem size_run {p : PProg} {s : PSt} {ts : List Nat} {k : Nat} (hc : (checkL p).2 = 0) (h : RunOk p s ts k) (hk : k ≤ 1000000) : SizeOk s := by
  obtain ⟨hh, h1, h2, _⟩ := check_ok hc
  have hl := h.inv.lo
  have h3 := h.lt
  have h4 := h.lo
  refine ⟨by omega, by omega, fun xs hx => ?_, by have := h.pc; omega⟩
  obtain ⟨j, hj⟩ := List.getElem?_of_mem hx
  have hlt := (List.getElem?_eq_some_iff.1 hj).1
  have := h.inv.os j (by omega)
  rw [List.getD_eq_getElem?_getD, hj] at this
  have h6 : sizeP p.types (ts.getD j 0 : Nat) ≤ 6 := sizeI_le.2
  simp only [Option.getD_some] at this
  omega
theorem size_0 : SizeOk st0 := ⟨by decide, by decide, fun xs hx => by simp [st0] at hx, by decide⟩
/-- The world in a law that goes step by step: the program's block, the state's. -/
structure LwW (w wr : World) (b : Nat) (vt' vc : Value) (p : PProg) (s : PSt) (vo vt : Value) : Prop where
  below : Below w.heap.size w wr
  prog : blk wr w.heap.size (progC vt' p vc) 25
  st : blk wr b (stC s vo vt) 34
  at' : StN wr vo vt s
theorem LwW.put {w wr : World} {b : Nat} {vt' vc : Value} {p : PProg} {s t : PSt} {vo vt vo2 vt2 : Value} (h : LwW w wr b vt' vc p s vo vt) (ht : StN wr vo2 vt2 t) (hne : b ≠ w.heap.size) (hge : w.heap.size ≤ b) : LwW w (putB wr b (stC t vo2 vt2) 34) b vt' vc p t vo2 vt2 :=
  ⟨h.below.trans (putB_below _ hge _ _), by unfold blk; rw [putB_ne _ (fun e => hne e.symm)]; exact h.prog, putB_at h.st _ _, ht.putS h.st⟩
theorem LwW.next {w wr w' : World} {b : Nat} {vt' vc : Value} {p : PProg} {s : PSt} {vo vt : Value} (h : LwW w wr b vt' vc p s vo vt) (hb : Below wr.heap.size wr w') : LwW w w' b vt' vc p s vo vt :=
  ⟨h.below.trans (hb.mono h.below.size), blk_below h.prog hb, blk_below h.st hb, h.at'.below hb⟩
set_option maxRecDepth 100000 in
set_option maxHeartbeats 4000000 in
theorem pieces_at (w W0 : World) (p : PProg) (fuel : Nat) (l : List Int) (z : Nat) (f : Bool) (x x' : Option Addr) (k k' : Nat)
    (hW0 : W0 = w.alloc (.cells #[.slice x p.types.length k, str p.locals, str p.globs, .slice x' p.code.length k'] 25))
    (KP : Hid (Keep W0 w.heap.size (.slice x p.types.length k) (.slice x' p.code.length k') p)) (HS : Hid (Below w.heap.size w W0))
    (HAL : Hid (∀ w1, Below W0.heap.size W0 w1 → Calls Tryd.prog 11 #[] w1 (AggPost w1 (.bool true))))
    (HF : Hid (∀ w1, Below W0.heap.size W0 w1 → Calls Tryd.prog 10 #[.agg (progC (.slice x p.types.length k) p (.slice x' p.code.length k'))] w1 (AggPost w1 (.bool f))))
    (HR1 : Hid (∀ w1, Below W0.heap.size W0 w1 → Calls Tryd.prog 15 #[.agg (progC (.slice x p.types.length k) p (.slice x' p.code.length k')), .int .i64 fuel] w1 (RunPost w1 l z)))
    (HST : Hid (∀ w1 s vo vt ts n, Below w.heap.size w w1 → StN w1 vo vt s → SizeOk s → n ≤ 1000000 → ((checkL p).2 = 0 → RunOk p s ts n) → Calls Tryd.prog 12 #[.agg (progC (.slice x p.types.length k) p (.slice x' p.code.length k')), .agg (stC s vo vt)] w1 (StepPost w1 (stepL p s))))
    (ha : fuel ≤ 255) (HOK : Hid (OkP p)) (HG : Hid (((checkL p).2 = 0 → l = (goL p fuel st0).1.out ∧ z = (goL p fuel st0).2) ∧ ((checkL p).2 ≠ 0 → l = [] ∧ z = 2))) :
    Calls Tryd.prog 8 #[.agg (progC (.slice x p.types.length k) p (.slice x' p.code.length k')), .int .u8 fuel] w (AggPost w (.bool true)) := by
  have HB := Lib.hid (Below.refl W0.heap.size W0)
  go_enter Tryd.func8, Tryd.ntmps8
  go_wp2_with (fail)
  rw [← hW0]
  clear hW0
  rcases f with _ | _
  · go_wp2_with (first
      | (refine wpList_loadB rfl 25 _ rfl w.heap.size (progC (.slice x p.types.length k) p (.slice x' p.code.length k')) rfl 25 KP.out.blk _ Tryd.underlying25 rfl prog_info ?_)
      | (go_at_call 11; refine (HAL.out _ HB.out).mono ?_; rintro e1 w1 ⟨rfl, hb⟩; have HB := Lib.hid (HB.out.trans (hb.mono HB.out.size)); have KP := Lib.hid (KP.out.below hb); clear hb)
      | (go_at_call 10; refine (HF.out _ HB.out).mono ?_; rintro e1 w1 ⟨rfl, hb⟩; have HB := Lib.hid (HB.out.trans (hb.mono HB.out.size)); clear hb))
    go_ret
    exact ⟨rfl, HS.out.trans (HB.out.mono HS.out.size)⟩
  go_upto_region 6 with (first
    | (refine wpList_loadB rfl 25 _ rfl w.heap.size (progC (.slice x p.types.length k) p (.slice x' p.code.length k')) rfl 25 KP.out.blk _ Tryd.underlying25 rfl prog_info ?_)
    | (go_at_call 11; refine (HAL.out _ HB.out).mono ?_; rintro e1 w1 ⟨rfl, hb⟩; have HB := Lib.hid (HB.out.trans (hb.mono HB.out.size)); have KP := Lib.hid (KP.out.below hb); clear hb)
    | (go_at_call 10; refine (HF.out _ HB.out).mono ?_; rintro e1 w2 ⟨rfl, hb⟩; have HB := Lib.hid (HB.out.trans (hb.mono HB.out.size)); have KP := Lib.hid (KP.out.below hb); clear hb)
    | (go_at_call 15; refine (HR1.out _ HB.out).mono ?_; rintro e1 w3 ⟨v1, rfl, hn1, hb⟩; clear HR1; have HB := Lib.hid (HB.out.trans (hb.mono HB.out.size)); have KP := Lib.hid (KP.out.below hb); clear hb; obtain ⟨a1, c1, hv1, g1, g2⟩ := rowN_form hn1; subst hv1; have HN1 := Lib.hid hn1; clear hn1))
  have HBW := Lib.hid (HS.out.trans (HB.out.mono HS.out.size))
  clear HAL HF HB HS
  have HW0 : Hid (LwW w (w3.alloc (.cells zeroS 34)) w3.heap.size (.slice x p.types.length k) (.slice x' p.code.length k') p st0 (.slice none 0 0) (.slice none 0 0)) := Lib.hid ⟨HBW.out.alloc HBW.out.size _, blk_alloc KP.out.blk _, blk_new _ _ _, st0_n _⟩
  have HN0 : Hid (RowN (w3.alloc (.cells zeroS 34)) (.slice a1 l.length c1) (i64s l)) := Lib.hid (HN1.out.below ((Below.refl _ _).alloc (Nat.le_refl _) _))
  have hbne : w3.heap.size ≠ w.heap.size := by have := blk_lt KP.out.blk; omega
  have hbge : w.heap.size ≤ w3.heap.size := HBW.out.size
  obtain ⟨b, hb⟩ : ∃ b, b = w3.heap.size := ⟨_, rfl⟩
  go_upto_block 0 with (fail)
  rw [← hb] at HW0 hbne hbge ⊢
  obtain ⟨wb, hwb⟩ : ∃ wb, wb = w3.alloc (.cells zeroS 34) := ⟨_, rfl⟩
  rw [← hwb] at HW0 HN0 ⊢
  clear hb hwb KP HBW HN1
  go_wp2_with (fail)
  go_loopw [8, 9] (fun e i wr => ∃ (n : Nat) (s : PSt) (ts : List Nat) (vo vt : Value), n ≤ fuel + 1 ∧ i = .int .i64 n ∧ e = .int .i64 10 ∧ Hid (LwW w wr b (.slice x p.types.length k) (.slice x' p.code.length k') p s vo vt) ∧ Hid (RowN wr (.slice a1 l.length c1) (i64s l)) ∧
      Hid ((n ≤ fuel ∧ ((checkL p).2 ≠ 0 → n = 0 ∧ s = st0) ∧ ((checkL p).2 = 0 → RunOk p s ts n ∧ goL p (fuel - n) s = goL p fuel st0)) ∨ (n = fuel + 1 ∧ (checkL p).2 = 0 ∧ goL p fuel st0 = (s, 10) ∧ s.steps ≤ fuel))) (fun e i _ => fuel + 1 - (intOf i).toNat)
  case atStart => exact ⟨0, st0, [], _, _, Nat.zero_le _, rfl, rfl, HW0, HN0, Lib.hid (.inl ⟨Nat.zero_le _, fun _ => ⟨rfl, rfl⟩, fun _ => ⟨run_0 p, rfl⟩⟩)⟩
  case round =>
    obtain ⟨n, s, ts, vo, vt, hn, rfl, rfl, HW, HN, HQ⟩ := hrel
    clear HW0 HN0
    rcases HQ.out with ⟨hnf, hbad, hok⟩ | ⟨rfl, hc, hg, hsf⟩
    · have HSP : Hid (∀ w1, Below w.heap.size w w1 → StN w1 vo vt s → Calls Tryd.prog 12 #[.agg (progC (.slice x p.types.length k) p (.slice x' p.code.length k')), .agg (stC s vo vt)] w1 (StepPost w1 (stepL p s))) := Lib.hid fun w1 hb1 hs1 => by
        by_cases hc : (checkL p).2 = 0
        · exact HST.out w1 s vo vt ts n hb1 hs1 (size_run hc (hok hc).1 (by omega)) (by omega) (fun _ => (hok hc).1)
        · obtain ⟨_, rfl⟩ := hbad hc
          exact HST.out w1 st0 vo vt [] 0 hb1 hs1 size_0 (by omega) (fun h => absurd h hc)
      have hcase : (∃ (d : Bool) (z' : Nat), stepL p s = (s, d, z') ∧ (d = true ∨ z' ≠ 0) ∧ l = s.out ∧ z = z' ∧ s.steps ≤ fuel) ∨
          (∃ t ts', stepL p s = (t, false, 0) ∧ (checkL p).2 = 0 ∧ RunOk p t ts' (n + 1) ∧ (n < fuel → goL p (fuel - (n + 1)) t = goL p fuel st0) ∧ (n = fuel → goL p fuel st0 = (s, 10) ∧ s.steps ≤ fuel)) := by
        by_cases hc : (checkL p).2 = 0
        · obtain ⟨hr, hg⟩ := hok hc
          obtain ⟨hl, hz⟩ := HG.out.1 hc
          have hst := hr.st
          rcases step_one hc hr with ⟨_, he⟩ | ⟨i, hi, _, ⟨hd, he⟩ | ⟨t, hd, he⟩⟩
          · have hgo := go_end (fuel - n) he
            rw [hg] at hgo
            exact .inl ⟨true, 0, he, .inl rfl, by rw [hl, hgo], by rw [hz, hgo], by omega⟩
          · have hgo := go_zero (fuel - n) he
            rw [hg] at hgo
            exact .inl ⟨false, 9, he, .inr (by decide), by rw [hl, hgo], by rw [hz, hgo], by omega⟩
          · obtain ⟨ts', hrn, _⟩ := run_next hc HOK.out.ins (by omega) hr hi hd
            refine .inr ⟨t, ts', he, hc, hrn, fun hlt => ?_, fun heq => ?_⟩
            · rw [← hg, show fuel - n = (fuel - (n + 1)) + 1 by omega, go_step' _ he]
            · rw [heq, Nat.sub_self] at hg
              exact ⟨by rw [← hg]; exact go_fuel he, by omega⟩
        · obtain ⟨_, rfl⟩ := hbad hc
          obtain ⟨hl, hz⟩ := HG.out.2 hc
          exact .inl ⟨false, 2, step_bad hc, .inr (by decide), hl, hz, Nat.zero_le _⟩
      clear hbad hok HQ
      obtain ⟨av, cv, hvt, -, -⟩ := rowN_form HW.out.at'.out
      subst hvt
      have hsi : ∀ h : s.steps ≤ fuel, (s.steps : Int) ≤ (fuel : Int) := fun h => by omega
      rcases hcase with ⟨d, z', hs, hdz, hl, hz, hsf⟩ | ⟨t, ts', hs, hc, hrn, hlt', heq'⟩
      · rw [hs] at HSP
        subst hl hz
        have hsi := hsi hsf
        have HDZ := Lib.hid hdz
        clear hs hdz
        rcases d with _ | _
        · have ez : ((z : Int) != 0) = true := by have := HDZ.out.resolve_left (by decide); simp; omega
          go_wp2_with (first
          | (refine wpList_loadB rfl 25 _ rfl w.heap.size (progC (.slice x p.types.length k) p (.slice x' p.code.length k')) rfl 25 HW.out.prog _ Tryd.underlying25 rfl prog_info ?_)
          | (refine wpList_loadB rfl 34 _ rfl b (stC s vo (.slice av s.out.length cv)) rfl 34 HW.out.st _ Tryd.underlying34 rfl (state_size HW.out.at'.len) ?_)
          | (go_at_call 12; refine (HSP.out _ (HW.out.below) HW.out.at').mono ?_; rintro e1 w4 ⟨vo2, vt2, rfl, hst2, hb⟩; have HT := Lib.hid hst2; have HW := Lib.hid (HW.out.next hb); have HN := Lib.hid (HN.out.below hb); clear hb hst2)
          | (have HBT : Hid (Below w4.heap.size w4 (putB (w4.alloc (.cells zeroS 34)) w4.heap.size (stC s vo2 vt2) 34)) := Lib.hid (((Below.refl _ _).alloc (Nat.le_refl _) _).trans (putB_below _ (Nat.le_refl _) _ _))
             refine wpList_putB rfl 34 _ _ rfl w4.heap.size (stC s vo2 vt2) rfl rfl 34 zeroS (blk_new w4 zeroS 34) (state_size HT.out.len) (by rw [stC_size HT.out.len]; rfl) HT.out.one ?_
             have HW := Lib.hid (HW.out.next HBT.out)
             have HN := Lib.hid (HN.out.below HBT.out)
             have HT := Lib.hid (HT.out.below HBT.out)
             have KT := Lib.hid (putB_at (blk_new w4 zeroS 34) (stC s vo2 vt2) 34)
             clear HBT
             obtain ⟨-, c21, -, c23⟩ := stC_rest (vo := vo) (vt := .slice av s.out.length cv) HW.out.at'.len
             have c21 := blk_cell HW.out.st _ _ c21
             have c23 := blk_cell HW.out.st _ _ c23)
          | (go_at_call 17; refine (nums_n _ _ s.out s.out true _ HN.out.1 HW.out.at'.out.1 (by simp)).mono ?_; rintro e1 w5 ⟨rfl, hb⟩; have HW := Lib.hid (HW.out.next hb); clear hb c21 c23; obtain ⟨-, c21, -, c23⟩ := stC_rest (vo := vo) (vt := .slice av s.out.length cv) HW.out.at'.len; have c23 := blk_cell HW.out.st _ _ c23))
          go_ret
          exact ⟨rfl, HW.out.below⟩
        · go_wp2_with (first
          | (refine wpList_loadB rfl 25 _ rfl w.heap.size (progC (.slice x p.types.length k) p (.slice x' p.code.length k')) rfl 25 HW.out.prog _ Tryd.underlying25 rfl prog_info ?_)
          | (refine wpList_loadB rfl 34 _ rfl b (stC s vo (.slice av s.out.length cv)) rfl 34 HW.out.st _ Tryd.underlying34 rfl (state_size HW.out.at'.len) ?_)
          | (go_at_call 12; refine (HSP.out _ (HW.out.below) HW.out.at').mono ?_; rintro e1 w4 ⟨vo2, vt2, rfl, hst2, hb⟩; have HT := Lib.hid hst2; have HW := Lib.hid (HW.out.next hb); have HN := Lib.hid (HN.out.below hb); clear hb hst2)
          | (have HBT : Hid (Below w4.heap.size w4 (putB (w4.alloc (.cells zeroS 34)) w4.heap.size (stC s vo2 vt2) 34)) := Lib.hid (((Below.refl _ _).alloc (Nat.le_refl _) _).trans (putB_below _ (Nat.le_refl _) _ _))
             refine wpList_putB rfl 34 _ _ rfl w4.heap.size (stC s vo2 vt2) rfl rfl 34 zeroS (blk_new w4 zeroS 34) (state_size HT.out.len) (by rw [stC_size HT.out.len]; rfl) HT.out.one ?_
             have HW := Lib.hid (HW.out.next HBT.out)
             have HN := Lib.hid (HN.out.below HBT.out)
             have HT := Lib.hid (HT.out.below HBT.out)
             have KT := Lib.hid (putB_at (blk_new w4 zeroS 34) (stC s vo2 vt2) 34)
             clear HBT
             obtain ⟨-, c21, -, c23⟩ := stC_rest (vo := vo) (vt := .slice av s.out.length cv) HW.out.at'.len
             have c21 := blk_cell HW.out.st _ _ c21
             have c23 := blk_cell HW.out.st _ _ c23)
          | (go_at_call 17; refine (nums_n _ _ s.out s.out true _ HN.out.1 HW.out.at'.out.1 (by simp)).mono ?_; rintro e1 w5 ⟨rfl, hb⟩; have HW := Lib.hid (HW.out.next hb); clear hb c21 c23; obtain ⟨-, c21, -, c23⟩ := stC_rest (vo := vo) (vt := .slice av s.out.length cv) HW.out.at'.len; have c23 := blk_cell HW.out.st _ _ c23))
          go_ret
          exact ⟨rfl, HW.out.below⟩
      · rw [hs] at HSP
        clear hs hsi
        have HRN := Lib.hid hrn
        have HLT := Lib.hid hlt'
        have HEQ := Lib.hid heq'
        have HC := Lib.hid hc
        clear hrn hlt' heq' hc
        by_cases hnf' : n = fuel
        · go_wp2_with (first
          | (refine wpList_loadB rfl 25 _ rfl w.heap.size (progC (.slice x p.types.length k) p (.slice x' p.code.length k')) rfl 25 HW.out.prog _ Tryd.underlying25 rfl prog_info ?_)
          | (refine wpList_loadB rfl 34 _ rfl b (stC s vo (.slice av s.out.length cv)) rfl 34 HW.out.st _ Tryd.underlying34 rfl (state_size HW.out.at'.len) ?_)
          | (go_at_call 12; refine (HSP.out _ (HW.out.below) HW.out.at').mono ?_; rintro e1 w4 ⟨vo2, vt2, rfl, hst2, hb⟩; have HT := Lib.hid hst2; have HW := Lib.hid (HW.out.next hb); have HN := Lib.hid (HN.out.below hb); clear hb hst2)
          | (have HBT : Hid (Below w4.heap.size w4 (putB (w4.alloc (.cells zeroS 34)) w4.heap.size (stC t vo2 vt2) 34)) := Lib.hid (((Below.refl _ _).alloc (Nat.le_refl _) _).trans (putB_below _ (Nat.le_refl _) _ _))
             refine wpList_putB rfl 34 _ _ rfl w4.heap.size (stC t vo2 vt2) rfl rfl 34 zeroS (blk_new w4 zeroS 34) (state_size HT.out.len) (by rw [stC_size HT.out.len]; rfl) HT.out.one ?_
             have HW := Lib.hid (HW.out.next HBT.out)
             have HN := Lib.hid (HN.out.below HBT.out)
             have HT := Lib.hid (HT.out.below HBT.out)
             have KT := Lib.hid (putB_at (blk_new w4 zeroS 34) (stC t vo2 vt2) 34)
             clear HBT
             obtain ⟨-, c21, -, c23⟩ := stC_rest (vo := vo) (vt := .slice av s.out.length cv) HW.out.at'.len
             have c21 := blk_cell HW.out.st _ _ c21
             have c23 := blk_cell HW.out.st _ _ c23))
          obtain ⟨hge, hse⟩ := HEQ.out hnf'
          have HQ2 : Hid ((n + 1 ≤ fuel ∧ ((checkL p).2 ≠ 0 → n + 1 = 0 ∧ s = st0) ∧ ((checkL p).2 = 0 → RunOk p s ts (n + 1) ∧ goL p (fuel - (n + 1)) s = goL p fuel st0)) ∨ (n + 1 = fuel + 1 ∧ (checkL p).2 = 0 ∧ goL p fuel st0 = (s, 10) ∧ s.steps ≤ fuel)) := Lib.hid (.inr ⟨by omega, HC.out, hge, hse⟩)
          go_roundw
          case rel => exact ⟨n + 1, s, ts, _, _, by omega, by go_num, rfl, HW, HN, HQ2⟩
          case measure => simp [intOf]; omega
        · have hnl : n < fuel := by omega
          go_wp2_with (first
          | (refine wpList_loadB rfl 25 _ rfl w.heap.size (progC (.slice x p.types.length k) p (.slice x' p.code.length k')) rfl 25 HW.out.prog _ Tryd.underlying25 rfl prog_info ?_)
          | (refine wpList_loadB rfl 34 _ rfl b (stC s vo (.slice av s.out.length cv)) rfl 34 HW.out.st _ Tryd.underlying34 rfl (state_size HW.out.at'.len) ?_)
          | (go_at_call 12; refine (HSP.out _ (HW.out.below) HW.out.at').mono ?_; rintro e1 w4 ⟨vo2, vt2, rfl, hst2, hb⟩; have HT := Lib.hid hst2; have HW := Lib.hid (HW.out.next hb); have HN := Lib.hid (HN.out.below hb); clear hb hst2)
          | (have HBT : Hid (Below w4.heap.size w4 (putB (w4.alloc (.cells zeroS 34)) w4.heap.size (stC t vo2 vt2) 34)) := Lib.hid (((Below.refl _ _).alloc (Nat.le_refl _) _).trans (putB_below _ (Nat.le_refl _) _ _))
             refine wpList_putB rfl 34 _ _ rfl w4.heap.size (stC t vo2 vt2) rfl rfl 34 zeroS (blk_new w4 zeroS 34) (state_size HT.out.len) (by rw [stC_size HT.out.len]; rfl) HT.out.one ?_
             have HW := Lib.hid (HW.out.next HBT.out)
             have HN := Lib.hid (HN.out.below HBT.out)
             have HT := Lib.hid (HT.out.below HBT.out)
             have KT := Lib.hid (putB_at (blk_new w4 zeroS 34) (stC t vo2 vt2) 34)
             clear HBT
             obtain ⟨-, c21, -, c23⟩ := stC_rest (vo := vo) (vt := .slice av s.out.length cv) HW.out.at'.len
             have c21 := blk_cell HW.out.st _ _ c21
             have c23 := blk_cell HW.out.st _ _ c23)
          | (refine wpList_loadB rfl 34 _ rfl w4.heap.size (stC t vo2 vt2) rfl 34 KT.out _ Tryd.underlying34 rfl (state_size HT.out.len) ?_)
          | (refine wpList_putB rfl 34 _ _ rfl b (stC t vo2 vt2) rfl rfl 34 _ HW.out.st (state_size HT.out.len) (by rw [stC_size HW.out.at'.len, stC_size HT.out.len]) HT.out.one ?_; have HWB := Lib.hid HW.out.st; have HW := Lib.hid (HW.out.put HT.out hbne hbge); have HN := Lib.hid (HN.out.putS (xs' := stC t vo2 vt2) HWB.out); clear HT KT))
          have HQ2 : Hid ((n + 1 ≤ fuel ∧ ((checkL p).2 ≠ 0 → n + 1 = 0 ∧ t = st0) ∧ ((checkL p).2 = 0 → RunOk p t ts' (n + 1) ∧ goL p (fuel - (n + 1)) t = goL p fuel st0)) ∨ (n + 1 = fuel + 1 ∧ (checkL p).2 = 0 ∧ goL p fuel st0 = (t, 10) ∧ t.steps ≤ fuel)) := Lib.hid (.inl ⟨by omega, fun h => absurd HC.out h, fun _ => ⟨HRN.out, HLT.out (by omega)⟩⟩)
          go_roundw
          case rel => exact ⟨n + 1, t, ts', _, _, by omega, by go_num, rfl, HW, HN, HQ2⟩
          case measure => simp [intOf]; omega
    · clear HQ
      obtain ⟨hl, hz⟩ := HG.out.1 hc
      rw [hg] at hl hz
      subst hl hz
      obtain ⟨av, cv, hvt, -, -⟩ := rowN_form HW.out.at'.out
      subst hvt
      have hsi : (s.steps : Int) ≤ (fuel : Int) := by omega
      obtain ⟨-, c21, -, c23⟩ := stC_rest (vo := vo) (vt := .slice av s.out.length cv) HW.out.at'.len
      have c21 := blk_cell HW.out.st _ _ c21
      have c23 := blk_cell HW.out.st _ _ c23
      go_wp2_with (go_at_call 17; refine (nums_n _ _ s.out s.out true _ HN.out.1 HW.out.at'.out.1 (by simp)).mono ?_; rintro e1 w5 ⟨rfl, hb⟩; have HW := Lib.hid (HW.out.next hb); clear hb c21 c23; obtain ⟨-, c21, -, c23⟩ := stC_rest (vo := vo) (vt := .slice av s.out.length cv) HW.out.at'.len; have c23 := blk_cell HW.out.st _ _ c23)
      go_ret
      exact ⟨rfl, HW.out.below⟩
theorem pieces_walk (v : Value) (p : PProg) (a : Int) (w : World) (h : ProgAt w v p) (hs : OkP p) (ha0 : 0 ≤ a) (ha : a ≤ 255) (ho : HasO w) : Calls Tryd.prog 8 #[v, .int .u8 a] w fun e w' => e = .returned (.bool true) ∧ Below w.heap.size w w' := by
  obtain ⟨vt, vc, rfl, ht, hc⟩ := id h
  have hwb : Below w.heap.size w (w.alloc (.cells (progC vt p vc) 25)) := (Below.refl _ _).alloc (Nat.le_refl _) _
  have HK := keep_new h
  obtain ⟨x, c, rfl, -, -, -⟩ := id ht.elems
  obtain ⟨x', c', rfl, -, -, -⟩ := id hc
  obtain ⟨ka, rfl⟩ : ∃ ka : Nat, a = ka := ⟨a.toNat, by omega⟩
  have ho' : ∀ {w1}, Below (w.alloc (.cells (progC (.slice x p.types.length c) p (.slice x' p.code.length c')) 25)).heap.size (w.alloc (.cells (progC (.slice x p.types.length c) p (.slice x' p.code.length c')) 25)) w1 → HasO w1 := fun hb1 => (ho.below hwb).below hb1
  have hp' : ∀ {w1}, Below (w.alloc (.cells (progC (.slice x p.types.length c) p (.slice x' p.code.length c')) 25)).heap.size (w.alloc (.cells (progC (.slice x p.types.length c) p (.slice x' p.code.length c')) 25)) w1 → ProgAt w1 _ p := fun hb1 => (h.below hwb).below hb1
  refine pieces_at w _ p ka (runL p ka).1 (runL p ka).2 (fewP p) x x' c c' rfl (Lib.hid HK) (Lib.hid hwb) (Lib.hid fun w1 hb1 => malive_n w1 (ho' hb1)) (Lib.hid fun w1 hb1 => few_b _ p _ w1 (hp' hb1) hs rfl)
    (Lib.hid fun w1 hb1 => run_z _ p w1 ka _ _ (hp' hb1) hs (ho' hb1) (by omega) rfl) (Lib.hid fun w1 s vo vt ts n hb1 hs1 hz hn hr => mstep_n _ p w1 s vo vt ts n (h.below hb1) hs (ho.below hb1) hs1 hz hn hr) (by omega) (Lib.hid hs) (Lib.hid ⟨fun hc0 => ?_, fun hc0 => ?_⟩)
  · unfold runL
    rw [if_neg (by omega), Int.toNat_natCast]
    exact ⟨rfl, rfl⟩
  · unfold runL
    rw [if_pos (.inl hc0)]
    exact ⟨rfl, rfl⟩
end Go.Proofs.YtmnoohpkjgjphaaDoor
