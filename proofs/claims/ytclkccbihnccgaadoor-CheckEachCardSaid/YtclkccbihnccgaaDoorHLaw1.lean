/-
  CheckNames: the walk.
-/
import Derived.Test.YtclkccbihnccgaaDoorHAlive
import Derived.Deep.Cut
namespace Go.Proofs.YtclkccbihnccgaaDoor
open Go.RowKit

/-- A program that is handed in, boxed. -/
theorem prog_box {v : Value} {p : PProg} {w : World} (h : ProgAt w v p) : ∃ x k x' k', v = .agg #[.slice x p.types.length k, str p.locals, str p.globs, .slice x' p.code.length k'] ∧ p.types.length ≤ k ∧ k ≤ 9223372036854775807 ∧ p.code.length ≤ k' ∧ k' ≤ 9223372036854775807 ∧
    Below w.heap.size w (w.alloc (.cells #[.slice x p.types.length k, str p.locals, str p.globs, .slice x' p.code.length k'] 25)) ∧ Keep (w.alloc (.cells #[.slice x p.types.length k, str p.locals, str p.globs, .slice x' p.code.length k'] 25)) w.heap.size (.slice x p.types.length k) (.slice x' p.code.length k') p := by
  obtain ⟨vt, vc, rfl, ht, hc⟩ := id h
  obtain ⟨x, k, rfl, h1, h2, -⟩ := id ht.elems
  obtain ⟨x', k', rfl, h3, h4, -⟩ := id hc
  exact ⟨x, k, x', k', rfl, h1, h2, h3, h4, (Below.refl _ _).alloc (Nat.le_refl _) _, keep_new h⟩
set_option maxRecDepth 100000 in
set_option maxHeartbeats 1000000 in
theorem names_at (w W0 : World) (p : PProg) (a la lb nd z e : Int) (b : Bool) (x x' : Option Addr) (k k' : Nat)
    (hW0 : W0 = w.alloc (.cells #[.slice x p.types.length k, str p.locals, str p.globs, .slice x' p.code.length k'] 25))
    (KP : Hid (Keep W0 w.heap.size (.slice x p.types.length k) (.slice x' p.code.length k') p)) (HS : Hid (Below w.heap.size w W0)) (a0 : 0 ≤ a) (a1 : a ≤ 255)
    (HAL : Hid (∀ w1, Below W0.heap.size W0 w1 → Calls Tryd.prog 8 #[] w1 (AggPost w1 (.bool true))))
    (HF : Hid (∀ w1, Below W0.heap.size W0 w1 → Calls Tryd.prog 9 #[.agg #[.slice x p.types.length k, str p.locals, str p.globs, .slice x' p.code.length k']] w1 (AggPost w1 (.bool b))))
    (HC : Hid (∀ w1, Below W0.heap.size W0 w1 → Calls Tryd.prog 10 #[.agg #[.slice x p.types.length k, str p.locals, str p.globs, .slice x' p.code.length k']] w1 (ChkPost w1 z e)))
    (HLA : Hid (∀ w1, Below W0.heap.size W0 w1 → Calls Tryd.prog 11 #[.agg #[.slice x p.types.length k, str p.locals, str p.globs, .slice x' p.code.length k'], .int .u8 a] w1 (AggPost w1 (.int .i64 la))))
    (HGL : Hid (∀ w1, Below W0.heap.size W0 w1 → Calls Tryd.prog 12 #[.agg #[.slice x p.types.length k, str p.locals, str p.globs, .slice x' p.code.length k'], .int .u8 a] w1 (AggPost w1 (.int .i64 lb))))
    (HN : Hid (∀ w1, Below W0.heap.size W0 w1 → Calls Tryd.prog 13 #[.agg #[.slice x p.types.length k, str p.locals, str p.globs, .slice x' p.code.length k']] w1 (AggPost w1 (.int .i64 nd))))
    (hl : p.locals.length ≤ 9223372036854775807) (hg : p.globs.length ≤ 9223372036854775807) (hk : p.types.length ≤ k) (hk2 : k ≤ 9223372036854775807)
    (hfit : Hid (e = 0 → (0 ≤ la ↔ a < p.locals.length) ∧ (0 ≤ lb ↔ a < p.globs.length) ∧ la < p.types.length ∧ lb < p.types.length ∧ 1 ≤ nd ∧ nd ≤ 6)) :
    Calls Tryd.prog 5 #[.agg #[.slice x p.types.length k, str p.locals, str p.globs, .slice x' p.code.length k'], .int .u8 a] w (AggPost w (.bool true)) := by
  have HB := Lib.hid (Below.refl W0.heap.size W0)
  go_enter Tryd.func5, Tryd.ntmps5
  go_wp2_with (fail)
  rw [← hW0]
  clear hW0
  rcases b with _ | _
  · go_wp2_with (first
      | (refine wpList_loadB rfl 25 _ rfl w.heap.size (progC (.slice x p.types.length k) p (.slice x' p.code.length k')) rfl 25 KP.out.blk _ Tryd.underlying25 rfl prog_info ?_)
      | (go_at_call 8; refine (HAL.out _ HB.out).mono ?_; rintro e1 w1 ⟨rfl, hb⟩; have HB := Lib.hid (HB.out.trans (hb.mono HB.out.size)); have KP := Lib.hid (KP.out.below hb); clear hb)
      | (go_at_call 9; refine (HF.out _ HB.out).mono ?_; rintro e1 w1 ⟨rfl, hb⟩; have HB := Lib.hid (HB.out.trans (hb.mono HB.out.size)); clear hb))
    go_ret
    exact ⟨rfl, HS.out.trans (HB.out.mono HS.out.size)⟩
  by_cases he : e = 0
  rotate_left
  · have e1 : (e != 0) = true := by simp [he]
    clear he
    go_wp2_with (first
      | (refine wpList_loadB rfl 25 _ rfl w.heap.size (progC (.slice x p.types.length k) p (.slice x' p.code.length k')) rfl 25 KP.out.blk _ Tryd.underlying25 rfl prog_info ?_)
      | (go_at_call 8; refine (HAL.out _ HB.out).mono ?_; rintro e1 w1 ⟨rfl, hb⟩; have HB := Lib.hid (HB.out.trans (hb.mono HB.out.size)); have KP := Lib.hid (KP.out.below hb); clear hb)
      | (go_at_call 9; refine (HF.out _ HB.out).mono ?_; rintro e1 w1 ⟨rfl, hb⟩; have HB := Lib.hid (HB.out.trans (hb.mono HB.out.size)); have KP := Lib.hid (KP.out.below hb); clear hb)
      | (go_at_call 10; refine (HC.out _ HB.out).mono ?_; rintro e1 w1 ⟨rfl, hb⟩; have HB := Lib.hid (HB.out.trans (hb.mono HB.out.size)); clear hb))
    go_ret
    exact ⟨rfl, HS.out.trans (HB.out.mono HS.out.size)⟩
  obtain ⟨f1, f2, f3, f4, f5, f6⟩ := hfit.out he
  subst he
  clear hfit
  go_upto_region 8 with (first
    | (refine wpList_loadB rfl 25 _ rfl w.heap.size (progC (.slice x p.types.length k) p (.slice x' p.code.length k')) rfl 25 KP.out.blk _ Tryd.underlying25 rfl prog_info ?_)
    | (go_at_call 8; refine (HAL.out _ HB.out).mono ?_; rintro e1 w1 ⟨rfl, hb⟩; have HB := Lib.hid (HB.out.trans (hb.mono HB.out.size)); have KP := Lib.hid (KP.out.below hb); clear hb)
    | (go_at_call 9; refine (HF.out _ HB.out).mono ?_; rintro e1 w2 ⟨rfl, hb⟩; have HB := Lib.hid (HB.out.trans (hb.mono HB.out.size)); have KP := Lib.hid (KP.out.below hb); clear hb)
    | (go_at_call 10; refine (HC.out _ HB.out).mono ?_; rintro e1 w3 ⟨rfl, hb⟩; have HB := Lib.hid (HB.out.trans (hb.mono HB.out.size)); have KP := Lib.hid (KP.out.below hb); clear hb))
  obtain ⟨p0, p1, p2, p3⟩ := KP.out.cells
  go_region_held3 (fun w' => w'.cell? ⟨w.heap.size, 0, none⟩ = some (.slice x p.types.length k) ∧ w'.cell? ⟨w.heap.size, 1, none⟩ = some (str p.locals) ∧ w'.cell? ⟨w.heap.size, 2, none⟩ = some (str p.globs) ∧ w'.cell? ⟨w.heap.size, 3, none⟩ = some (.slice x' p.code.length k')) (go_keep) (first
    | (go_at_call 11; ((with_reducible refine (HLA.out _ ?_).mono ?_); (first | exact HB.out.drew | exact HB.out); rintro e w5 ⟨rfl, hb⟩; have HB5 := Lib.hid (HB.out.drew.trans (hb.mono HB.out.size)); have KP5 := Lib.hid (Keep.below (W := w3.drew) (⟨KP.out.1, KP.out.2.below (Below.refl _ _).drew⟩) hb); clear hb p0 p1 p2 p3; obtain ⟨p0, p1, p2, p3⟩ := KP5.out.cells))
    | (go_at_call 12; ((with_reducible refine (HGL.out _ HB5.out).mono ?_); rintro e w6 ⟨rfl, hb⟩; have HB6 := Lib.hid (HB5.out.trans (hb.mono HB5.out.size)); have KP6 := Lib.hid (KP5.out.below hb); clear hb p0 p1 p2 p3; obtain ⟨p0, p1, p2, p3⟩ := KP6.out.cells)))
  all_goals
    clear HB KP KP5 HB5
    have HB := Lib.hid HB6.out
    have KP := Lib.hid KP6.out
    clear HB6 KP6
    by_cases h1 : a < p.locals.length
    all_goals
      by_cases h2 : a < p.globs.length
      all_goals
        simp only [h1, h2, iff_true, iff_false] at f1 f2
        go_wp2_with (first
          | (refine wpList_loadB rfl 25 _ rfl w.heap.size (progC (.slice x p.types.length k) p (.slice x' p.code.length k')) rfl 25 KP.out.blk _ Tryd.underlying25 rfl prog_info ?_)
          | (go_at_call 13; refine (HN.out _ HB.out).mono ?_; rintro e1 w1 ⟨rfl, hb⟩; have HB := Lib.hid (HB.out.trans (hb.mono HB.out.size)); have KP := Lib.hid (KP.out.below hb); clear hb p0 p1 p2 p3; obtain ⟨p0, p1, p2, p3⟩ := KP.out.cells))
        go_ret
        exact ⟨rfl, HS.out.trans (HB.out.mono HS.out.size)⟩
theorem names_walk (v : Value) (p : PProg) (a : Int) (w : World) (h : ProgAt w v p) (hs : OkP p) (h0 : 0 ≤ a) (h1 : a ≤ 255) (hO : HasO w) : Calls Tryd.prog 5 #[v, .int .u8 a] w (AggPost w (.bool true)) := by
  obtain ⟨x, k, x', k', rfl, g1, g2, g3, g4, hwb, kp⟩ := prog_box h
  have hO0 := hO.below hwb
  have hl := hs.lo
  have hg := hs.gl
  unfold maxLen at hl hg
  generalize hW0 : w.alloc (.cells #[.slice x p.types.length k, str p.locals, str p.globs, .slice x' p.code.length k'] 25) = W0 at hwb kp hO0
  have hp := kp.at'
  exact names_at w W0 p a _ _ _ _ _ _ x x' k k' hW0.symm (Lib.hid kp) (Lib.hid hwb) h0 h1 (Lib.hid fun w1 hb => alive_any w1 (hO0.below hb)) (Lib.hid fun w1 hb => few_b _ p _ w1 (hp.below hb) hs rfl)
    (Lib.hid fun w1 hb => check_n _ p _ _ w1 (hp.below hb) hs (hO0.below hb) rfl rfl) (Lib.hid fun w1 hb => local_any _ p a w1 (hp.below hb) hs h0 h1) (Lib.hid fun w1 hb => glob_any _ p a w1 (hp.below hb) hs h0 h1)
    (Lib.hid fun w1 hb => need_n _ p _ w1 (hp.below hb) hs rfl) hl hg g1 g2 (Lib.hid fun he => law_names (by omega) a h0)
end Go.Proofs.YtclkccbihnccgaaDoor
