/-
  Contracts of check: errorOf, kindsMayBe, Need.
-/
import Derived.Test.YtapjgobkpehgfaaGreatDoorHFit
namespace Go.Proofs.YtapjgobkpehgfaaGreatDoor
set_option linter.unusedSimpArgs false
set_option linter.unusedVariables false
open Go.RowKit

theorem insE_of (p : PProg) (i : PIns) : ((insE p p.code.length i : Nat) : Int) = if rightL i = false then (4 : Int) else if jumpI i = true ∧ (decide (0 ≤ i.n) && decide (i.n ≤ p.code.length)) = false then 12 else if (intsB i && kindsB p i) = false then 5 else 0 := by
  have e : (decide (0 ≤ i.n) && decide (i.n ≤ p.code.length)) = false ↔ (i.n < 0 ∨ (p.code.length : Int) < i.n) := by
    rw [Bool.and_eq_false_iff, decide_eq_false_iff_not, decide_eq_false_iff_not]; omega
  unfold insE
  simp only [e]
  split
  · rfl
  · split
    · rfl
    · split <;> rfl
set_option maxRecDepth 100000 in
set_option maxHeartbeats 2000000 in
theorem err_at (w W0 : World) (p : PProg) (i : PIns) (x x' : Option Addr) (k k' : Nat) (r1 r2 r3 r4 : Bool) (e : Int)
    (hW0 : W0 = ((w.alloc (.cells #[.slice x p.types.length k, str p.locals, str p.globs, .slice x' p.code.length k'] 25)).alloc (.cells (insC i) 46)))
    (KP : Hid (Keep W0 w.heap.size (.slice x p.types.length k) (.slice x' p.code.length k') p)) (KI : Hid (blk W0 (w.heap.size + 1) (insC i) 46)) (HS : Hid (Below w.heap.size w W0))
    (HR : Hid (∀ w1, Below W0.heap.size W0 w1 → Calls Tryz.prog 82 #[insV i] w1 (AggPost w1 (.bool r1))))
    (HJ : Hid (∀ w1, Below W0.heap.size W0 w1 → Calls Tryz.prog 83 #[insV i] w1 (AggPost w1 (.bool r2))))
    (HP : Hid (∀ w1, Below W0.heap.size W0 w1 → Calls Tryz.prog 84 #[.agg #[.slice x p.types.length k, str p.locals, str p.globs, .slice x' p.code.length k'], .int .i64 i.n] w1 (AggPost w1 (.bool r3))))
    (HF : Hid (r1 = true → ∀ w1, Below W0.heap.size W0 w1 → Calls Tryz.prog 85 #[.agg #[.slice x p.types.length k, str p.locals, str p.globs, .slice x' p.code.length k'], insV i] w1 (AggPost w1 (.bool r4))))
    (he : Hid ((if r1 = false then (4 : Int) else if r2 = true ∧ r3 = false then 12 else if r4 = false then 5 else 0) = e)) :
    Calls Tryz.prog 58 #[.agg #[.slice x p.types.length k, str p.locals, str p.globs, .slice x' p.code.length k'], insV i] w (AggPost w (.int .i64 e)) := by
  have HB := Lib.hid (Below.refl W0.heap.size W0)
  go_enter Tryz.func58, Tryz.ntmps58
  go_wp2_with (fail)
  rw [← hW0]
  clear hW0
  obtain ⟨p0, p1, p2, p3⟩ := KP.out.cells
  have i4 := blk_cell KI.out 4 _ rfl
  rcases r1 with _ | _
  · go_wp2_with (first
      | (refine wpList_loadB rfl 46 _ rfl (w.heap.size + 1) (insC i) rfl 46 KI.out _ Tryz.underlying46 rfl ins_info ?_)
      | (go_at_call 82; refine (HR.out _ HB.out).mono ?_; rintro e1 w1 ⟨rfl, hb⟩; have HB := Lib.hid (HB.out.trans (hb.mono HB.out.size)); clear hb))
    go_ret
    exact ⟨ret_int (by rw [← he.out]; rfl), HS.out.trans (HB.out.mono HS.out.size)⟩
  have HF2 := Lib.hid (HF.out rfl)
  clear HF
  cases r2 <;> cases r3 <;> cases r4
  all_goals
    go_wp2_with (first
      | (refine wpList_loadB rfl 46 _ rfl (w.heap.size + 1) (insC i) rfl 46 KI.out _ Tryz.underlying46 rfl ins_info ?_)
      | (refine wpList_loadB rfl 25 _ rfl w.heap.size (progC (.slice x p.types.length k) p (.slice x' p.code.length k')) rfl 25 KP.out.blk _ Tryz.underlying25 rfl prog_info ?_)
      | (go_at_call 82; refine (HR.out _ HB.out).mono ?_; rintro e1 w1 ⟨rfl, hb⟩; have HB := Lib.hid (HB.out.trans (hb.mono HB.out.size)); have KP := Lib.hid (KP.out.below hb); have KI := Lib.hid (blk_below KI.out hb); clear hb p0 p1 p2 p3 i4; obtain ⟨p0, p1, p2, p3⟩ := KP.out.cells; have i4 := blk_cell KI.out 4 _ rfl)
      | (go_at_call 83; refine (HJ.out _ HB.out).mono ?_; rintro e1 w1 ⟨rfl, hb⟩; have HB := Lib.hid (HB.out.trans (hb.mono HB.out.size)); have KP := Lib.hid (KP.out.below hb); have KI := Lib.hid (blk_below KI.out hb); clear hb p0 p1 p2 p3 i4; obtain ⟨p0, p1, p2, p3⟩ := KP.out.cells; have i4 := blk_cell KI.out 4 _ rfl)
      | (go_at_call 84; refine (HP.out _ HB.out).mono ?_; rintro e1 w1 ⟨rfl, hb⟩; have HB := Lib.hid (HB.out.trans (hb.mono HB.out.size)); have KP := Lib.hid (KP.out.below hb); have KI := Lib.hid (blk_below KI.out hb); clear hb p0 p1 p2 p3 i4; obtain ⟨p0, p1, p2, p3⟩ := KP.out.cells; have i4 := blk_cell KI.out 4 _ rfl)
      | (go_at_call 85; refine (HF2.out _ HB.out).mono ?_; rintro e1 w1 ⟨rfl, hb⟩; have HB := Lib.hid (HB.out.trans (hb.mono HB.out.size)); clear hb))
    go_ret
    exact ⟨ret_int (by rw [← he.out]; rfl), HS.out.trans (HB.out.mono HS.out.size)⟩
theorem err_b (v : Value) (p : PProg) (i : PIns) (e : Int) (w : World) (h : ProgAt w v p) (hs : OkP p) (hi : OkI i) (ho : HasO w) (he : ((insE p p.code.length i : Nat) : Int) = e) : Calls Tryz.prog 58 #[v, insV i] w (AggPost w (.int .i64 e)) := by
  rw [insE_of] at he
  obtain ⟨vt, vc, rfl, ht, hc⟩ := id h
  obtain ⟨x, k, rfl, -, -, -⟩ := id ht.elems
  obtain ⟨x', k', rfl, -, -, -⟩ := id hc
  have hsz : (w.alloc (.cells #[.slice x p.types.length k, str p.locals, str p.globs, .slice x' p.code.length k'] 25)).heap.size = w.heap.size + 1 := World.size_alloc _ _
  have hwb : Below w.heap.size w ((w.alloc (.cells #[.slice x p.types.length k, str p.locals, str p.globs, .slice x' p.code.length k'] 25)).alloc (.cells (insC i) 46)) := ((Below.refl _ _).alloc (Nat.le_refl _) _).alloc (by omega) _
  have kp : Keep ((w.alloc (.cells #[.slice x p.types.length k, str p.locals, str p.globs, .slice x' p.code.length k'] 25)).alloc (.cells (insC i) 46)) w.heap.size (.slice x p.types.length k) (.slice x' p.code.length k') p := (keep_new h).below ((Below.refl _ _).alloc (Nat.le_refl _) _)
  have ki : blk ((w.alloc (.cells #[.slice x p.types.length k, str p.locals, str p.globs, .slice x' p.code.length k'] 25)).alloc (.cells (insC i) 46)) (w.heap.size + 1) (insC i) 46 := by rw [← hsz]; exact blk_new _ _ _
  have hO := ho.below hwb
  generalize hW0 : ((w.alloc (.cells #[.slice x p.types.length k, str p.locals, str p.globs, .slice x' p.code.length k'] 25)).alloc (.cells (insC i) 46)) = W0 at hwb kp ki hO
  have hp := kp.at'
  exact err_at w W0 p i x x' k k' _ _ _ _ e hW0.symm (Lib.hid kp) (Lib.hid ki) (Lib.hid hwb)
    (Lib.hid fun w1 hb => right_any i w1 (hO.below hb) hi) (Lib.hid fun w1 _ => jumps_b i _ w1 rfl) (Lib.hid fun w1 hb => place_b _ p i.n _ w1 (hp.below hb) rfl)
    (Lib.hid fun hR w1 hb => fit_b _ p i _ w1 (hp.below hb) hs hi hR rfl) (Lib.hid he)

theorem krights_b (v : Value) (ts : List ByteArray) (b : Bool) (w : World) (h : TsAt w v ts) (hr : Hid (rightB ts = b)) : Calls Tryz.prog 80 #[v] w fun e w' => e = .returned (.bool b) ∧ w = w' :=
  (kright_any v ts w h).mono fun e w' ⟨h1, h2⟩ => ⟨by rw [h1, hr.out], h2⟩
set_option maxRecDepth 100000 in
set_option maxHeartbeats 1000000 in
theorem kinds_b (v : Value) (p : PProg) (r : Bool) (w : World) (h : ProgAt w v p) (hs : OkP p) (hr : headB p = r) : Calls Tryz.prog 57 #[v] w (AggPost w (.bool r)) := by
  obtain ⟨vt, vc, rfl, ht, hc⟩ := h
  have hwb : Below w.heap.size w (w.alloc (.cells (progC vt p vc) 25)) := (Below.refl _ _).alloc (Nat.le_refl _) _
  have HW := Lib.hid hwb
  have HT := Lib.hid (ts_of (ht.below hwb) hs.ty)
  obtain ⟨x, k, rfl, -, -, -⟩ := id ht.elems
  obtain ⟨x', k', rfl, -, -, -⟩ := id hc
  have hl := hs.lo
  have hg := hs.gl
  unfold maxLen at hl hg
  have HH : Hid ((refsB (tsP p.types) (baL p.locals) && refsB (tsP p.types) (baL p.globs) && decide (p.locals.length ≤ 8) && decide (p.globs.length ≤ 4)) = r) := Lib.hid hr
  clear ht hc hs hwb hr
  by_cases h8 : 8 < p.locals.length
  · go_enter Tryz.func57, Tryz.ntmps57
    go_wp2
    go_ret
    exact ⟨ret_bool (by rw [← HH.out, decide_eq_false (show ¬ p.locals.length ≤ 8 by omega)]; simp), HW.out⟩
  by_cases h4 : 4 < p.globs.length
  · go_enter Tryz.func57, Tryz.ntmps57
    go_wp2
    go_ret
    exact ⟨ret_bool (by rw [← HH.out, decide_eq_false (show ¬ p.globs.length ≤ 4 by omega)]; simp), HW.out⟩
  have h1 : (refsB (tsP p.types) (baL p.locals) && refsB (tsP p.types) (baL p.globs)) = r := by
    rw [← HH.out, decide_eq_true (show p.locals.length ≤ 8 by omega), decide_eq_true (show p.globs.length ≤ 4 by omega)]; simp
  have hrl : rightB (tsP p.types) = false → refsB (tsP p.types) (baL p.locals) = false := fun h => refs_right h
  clear HH
  generalize hA : refsB (tsP p.types) (baL p.locals) = A at *
  generalize hBb : refsB (tsP p.types) (baL p.globs) = B at *
  generalize hR : rightB (tsP p.types) = R at *
  have HA : Hid (refsB (tsP p.types) ⟨p.locals.toArray⟩ = A) := Lib.hid hA
  have HBb : Hid (refsB (tsP p.types) ⟨p.globs.toArray⟩ = B) := Lib.hid hBb
  have hl' : (⟨p.locals.toArray⟩ : ByteArray).size ≤ 9223372036854775807 := hl
  have hg' : (⟨p.globs.toArray⟩ : ByteArray).size ≤ 9223372036854775807 := hg
  have HR := Lib.hid hR
  have H1 := Lib.hid h1
  have HRL := Lib.hid hrl
  clear hA hBb hR h1 hrl
  cases R <;> cases A <;> cases B
  all_goals
    go_enter Tryz.func57, Tryz.ntmps57
    go_wp2_with (first
      | (go_at_call 80; refine (krights_b _ (tsP p.types) _ _ HT.out HR).mono ?_; rintro e w' ⟨rfl, rfl⟩)
      | (go_at_call 81; with_reducible refine (krefs_b _ (tsP p.types) ⟨p.locals.toArray⟩ _ _ HT.out hl' HA).mono ?_; rintro e w' ⟨rfl, rfl⟩)
      | (go_at_call 81; with_reducible refine (krefs_b _ (tsP p.types) ⟨p.globs.toArray⟩ _ _ HT.out hg' HBb).mono ?_; rintro e w' ⟨rfl, rfl⟩))
    go_ret
    exact ⟨ret_bool (by first | (rw [← H1.out]; rfl) | (have := HRL.out (by trivial); cases this)), HW.out⟩
end Go.Proofs.YtapjgobkpehgfaaGreatDoor
