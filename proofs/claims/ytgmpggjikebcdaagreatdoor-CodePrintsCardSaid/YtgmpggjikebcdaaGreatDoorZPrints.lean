/-
  CodePrints: the walk.
-/
import Derived.Test.YtgmpggjikebcdaaGreatDoorZPrint
import Derived.Deep.RegionHeld3
import Derived.Deep.DrawnRows
namespace Go.Proofs.YtgmpggjikebcdaaGreatDoor
open Go.ChangeShapes Go.WideShapes Go.ChangeAt Go.RowKit

section
variable {H : Type} {enc : TypeId × Value → H} {w : World} {base : Nat} {spare : Nat → Bool} {held : Bool}
set_option maxRecDepth 100000 in
/-- An instruction that came in. -/
theorem open_ins {r : Reach} {b0 : Nat} {v : Value} {d : DataW H} {ps : List MemPlace} (hv : Value.okWide Tryz.prog w r b0 27 v) (h : DataW.Trod enc Tryz.prog w base spare held 27 v d ps) : ∃ i : PIns, v = insV i ∧ OkI i := by
  obtain ⟨cs, rfl, hsz⟩ := okWide_struct Tryz.underlying27 hv
  obtain ⟨l⟩ := cs
  have hl : l.length = 5 := hsz.trans cellsOf_ins
  match l, hl with
  | [c0, c1, c2, c3, c4], _ =>
    obtain ⟨fuel, hf⟩ := h
    obtain ⟨ys, n, _, _, _, hyl, hg⟩ := DataW.trod_struct Tryz.underlying27 hf
    match ys, hyl with
    | [y0, y1, y2, y3, y4], _ =>
      have u8 : Tryz.prog.cellsOf 5 = 1 := by kernel_rfl
      have i64 : Tryz.prog.cellsOf 2 = 1 := by kernel_rfl
      have f0 := hg 0 _ rfl
      have f1 := hg 1 _ rfl
      have f2 := hg 2 _ rfl
      have f3 := hg 3 _ rfl
      have f4 := hg 4 _ rfl
      simp [Value.cells, u8, i64] at f0 f1 f2 f3 f4
      obtain ⟨x0, e0, _, w0⟩ := DataW.trod_int Tryz.underlying5 f0
      obtain ⟨x1, e1, _, w1⟩ := DataW.trod_int Tryz.underlying5 f1
      obtain ⟨x2, e2, _, w2⟩ := DataW.trod_int Tryz.underlying5 f2
      obtain ⟨x3, e3, _, w3⟩ := DataW.trod_int Tryz.underlying5 f3
      obtain ⟨x4, e4, _, w4⟩ := DataW.trod_int Tryz.underlying2 f4
      simp at e0 e1 e2 e3 e4
      subst e0 e1 e2 e3 e4
      have b0 := of_wf_u8 w0
      have b1 := of_wf_u8 w1
      have b2 := of_wf_u8 w2
      have b3 := of_wf_u8 w3
      have b4 := of_wf_i64 w4
      exact ⟨⟨x0, x1, x2, x3, x4⟩, rfl, ⟨b0.1, b0.2, b1.1, b1.2, b2.1, b2.2, b3.1, b3.2, b4.1, b4.2⟩⟩
end
def cellsI (w : World) (b : Nat) (i : PIns) : Prop := w.cell? ⟨b, 0, none⟩ = some (.int .u8 i.op) ∧ w.cell? ⟨b, 1, none⟩ = some (.int .u8 i.a) ∧ w.cell? ⟨b, 2, none⟩ = some (.int .u8 i.b) ∧ w.cell? ⟨b, 3, none⟩ = some (.int .u8 i.c) ∧ w.cell? ⟨b, 4, none⟩ = some (.int .i64 i.n)
theorem cellsI_of {w : World} {b : Nat} {i : PIns} (h : blk w b (insC i) 27) : cellsI w b i := ⟨blk_cell h 0 _ rfl, blk_cell h 1 _ rfl, blk_cell h 2 _ rfl, blk_cell h 3 _ rfl, blk_cell h 4 _ rfl⟩
set_option maxRecDepth 100000 in
set_option maxHeartbeats 500000 in
theorem prints_big (w W0 : World) (p : PProg) (i : PIns) (a a' : Option Addr) (c c' : Nat) (hW0 : W0 = ((w.alloc (.cells #[.slice a p.types.length c, str p.locals, str p.globs, .slice a' p.code.length c'] 25)).alloc (.cells (insC i) 27))) (KP : Hid (blk W0 w.heap.size #[.slice a p.types.length c, str p.locals, str p.globs, .slice a' p.code.length c'] 25)) (KI : Hid (blk W0 (w.heap.size + 1) (insC i) 27)) (HS : Hid (Below w.heap.size w W0))
    (HAL : Hid (∀ w1, Below W0.heap.size W0 w1 → Calls Tryz.prog 5 #[] w1 (AggPost w1 (.bool true))))
    (HF : Hid (∀ w1, Below W0.heap.size W0 w1 → Calls Tryz.prog 6 #[.agg #[.slice a p.types.length c, str p.locals, str p.globs, .slice a' p.code.length c']] w1 (AggPost w1 (.bool false)))) :
    Calls Tryz.prog 3 #[.agg #[.slice a p.types.length c, str p.locals, str p.globs, .slice a' p.code.length c'], insV i] w (AggPost w (.bool true)) := by
  have HB := Lib.hid (Below.refl W0.heap.size W0)
  have c0 := blk_cell KP.out 0 _ rfl
  have c1 := blk_cell KP.out 1 _ rfl
  have c2 := blk_cell KP.out 2 _ rfl
  have c3 := blk_cell KP.out 3 _ rfl
  go_enter Tryz.func3, Tryz.ntmps3
  go_wp2_with (fail)
  rw [← hW0]
  clear hW0
  go_wp2_with (first
    | (go_at_call 5; refine (HAL.out _ HB.out).mono ?_; rintro e w1 ⟨rfl, hb⟩; clear HAL; have HB := Lib.hid (HB.out.trans (hb.mono HB.out.size)); have KP := Lib.hid (blk_below KP.out hb); have KI := Lib.hid (blk_below KI.out hb); clear hb c0 c1 c2 c3; have c0 := blk_cell KP.out 0 _ rfl; have c1 := blk_cell KP.out 1 _ rfl; have c2 := blk_cell KP.out 2 _ rfl; have c3 := blk_cell KP.out 3 _ rfl)
    | (go_at_call 6; refine (HF.out _ HB.out).mono ?_; rintro e w2 ⟨rfl, hb⟩; clear HF; have HB := Lib.hid (HB.out.trans (hb.mono HB.out.size)); have KP := Lib.hid (blk_below KP.out hb); have KI := Lib.hid (blk_below KI.out hb); clear hb c0 c1 c2 c3; have c0 := blk_cell KP.out 0 _ rfl; have c1 := blk_cell KP.out 1 _ rfl; have c2 := blk_cell KP.out 2 _ rfl; have c3 := blk_cell KP.out 3 _ rfl))
  go_ret
  exact ⟨rfl, HS.out.trans (HB.out.mono HS.out.size)⟩
set_option maxRecDepth 100000 in
set_option maxHeartbeats 500000 in
theorem prints_few (w W0 : World) (p : PProg) (i : PIns) (a a' : Option Addr) (c c' : Nat) (hW0 : W0 = ((w.alloc (.cells #[.slice a p.types.length c, str p.locals, str p.globs, .slice a' p.code.length c'] 25)).alloc (.cells (insC i) 27))) (KP : Hid (blk W0 w.heap.size #[.slice a p.types.length c, str p.locals, str p.globs, .slice a' p.code.length c'] 25)) (KI : Hid (blk W0 (w.heap.size + 1) (insC i) 27)) (HS : Hid (Below w.heap.size w W0))
    (HAL : Hid (∀ w1, Below W0.heap.size W0 w1 → Calls Tryz.prog 5 #[] w1 (AggPost w1 (.bool true))))
    (HF : Hid (∀ w1, Below W0.heap.size W0 w1 → Calls Tryz.prog 6 #[.agg #[.slice a p.types.length c, str p.locals, str p.globs, .slice a' p.code.length c']] w1 (AggPost w1 (.bool true))))
    (tp tq : Bs) (z z' : Int) (b : Bool) (htt : (tp == tq) = true) (hzz : (z == z') = true)
    (HP : Hid (∀ w1, Below W0.heap.size W0 w1 → Calls Tryz.prog 7 #[.agg #[.slice a p.types.length c, str p.locals, str p.globs, .slice a' p.code.length c']] w1 fun e w' => e = .returned (.tuple #[str tp, .int .i64 z]) ∧ Below w1.heap.size w1 w'))
    (HQ : Hid (∀ w1, Below W0.heap.size W0 w1 → Calls Tryz.prog 8 #[.agg #[.slice a p.types.length c, str p.locals, str p.globs, .slice a' p.code.length c']] w1 fun e w' => e = .returned (.tuple #[str tq, .int .i64 z']) ∧ Below w1.heap.size w1 w'))
    (HR : Hid (∀ w1, Below W0.heap.size W0 w1 → Calls Tryz.prog 9 #[insV i] w1 (AggPost w1 (.bool b))))
    (HRR : Hid (∀ w1, Below W0.heap.size W0 w1 → Calls Tryz.prog 10 #[insV i] w1 (AggPost w1 (.bool b)))) :
    Calls Tryz.prog 3 #[.agg #[.slice a p.types.length c, str p.locals, str p.globs, .slice a' p.code.length c'], insV i] w (AggPost w (.bool true)) := by
  have HB := Lib.hid (Below.refl W0.heap.size W0)
  have c0 := blk_cell KP.out 0 _ rfl
  have c1 := blk_cell KP.out 1 _ rfl
  have c2 := blk_cell KP.out 2 _ rfl
  have c3 := blk_cell KP.out 3 _ rfl
  go_enter Tryz.func3, Tryz.ntmps3
  go_wp2_with (fail)
  rw [← hW0]
  clear hW0
  go_wp2_with (first
    | (go_at_call 5; refine (HAL.out _ HB.out).mono ?_; rintro e w1 ⟨rfl, hb⟩; clear HAL; have HB := Lib.hid (HB.out.trans (hb.mono HB.out.size)); have KP := Lib.hid (blk_below KP.out hb); have KI := Lib.hid (blk_below KI.out hb); clear hb c0 c1 c2 c3; have c0 := blk_cell KP.out 0 _ rfl; have c1 := blk_cell KP.out 1 _ rfl; have c2 := blk_cell KP.out 2 _ rfl; have c3 := blk_cell KP.out 3 _ rfl)
    | (go_at_call 6; refine (HF.out _ HB.out).mono ?_; rintro e w2 ⟨rfl, hb⟩; clear HF; have HB := Lib.hid (HB.out.trans (hb.mono HB.out.size)); have KP := Lib.hid (blk_below KP.out hb); have KI := Lib.hid (blk_below KI.out hb); clear hb c0 c1 c2 c3; have c0 := blk_cell KP.out 0 _ rfl; have c1 := blk_cell KP.out 1 _ rfl; have c2 := blk_cell KP.out 2 _ rfl; have c3 := blk_cell KP.out 3 _ rfl)
    | (go_at_call 7; refine (HP.out _ HB.out).mono ?_; rintro e w3 ⟨rfl, hb⟩; clear HP; have HB := Lib.hid (HB.out.trans (hb.mono HB.out.size)); have KP := Lib.hid (blk_below KP.out hb); have KI := Lib.hid (blk_below KI.out hb); clear hb c0 c1 c2 c3; have c0 := blk_cell KP.out 0 _ rfl; have c1 := blk_cell KP.out 1 _ rfl; have c2 := blk_cell KP.out 2 _ rfl; have c3 := blk_cell KP.out 3 _ rfl)
    | (go_at_call 8; refine (HQ.out _ HB.out).mono ?_; rintro e w4 ⟨rfl, hb⟩; clear HQ; have HB := Lib.hid (HB.out.trans (hb.mono HB.out.size)); have KP := Lib.hid (blk_below KP.out hb); have KI := Lib.hid (blk_below KI.out hb); clear hb c0 c1 c2 c3; have c0 := blk_cell KP.out 0 _ rfl; have c1 := blk_cell KP.out 1 _ rfl; have c2 := blk_cell KP.out 2 _ rfl; have c3 := blk_cell KP.out 3 _ rfl))
  obtain ⟨d0, d1, d2, d3, d4⟩ := cellsI_of KI.out
  clear c0 c1 c2 c3
  cases b
  all_goals go_region_held3 (fun w' => w'.cell? ⟨w.heap.size + 1, 0, none⟩ = some (.int .u8 i.op) ∧ w'.cell? ⟨w.heap.size + 1, 1, none⟩ = some (.int .u8 i.a) ∧ w'.cell? ⟨w.heap.size + 1, 2, none⟩ = some (.int .u8 i.b) ∧ w'.cell? ⟨w.heap.size + 1, 3, none⟩ = some (.int .u8 i.c) ∧ w'.cell? ⟨w.heap.size + 1, 4, none⟩ = some (.int .i64 i.n)) (go_keep) (first
    | (go_at_call 9; ((with_reducible refine (HR.out _ ?_).mono ?_); (first | exact HB.out.drew | exact HB.out); rintro e w5 ⟨rfl, hb⟩; have HB5 := Lib.hid (HB.out.drew.trans (hb.mono HB.out.size)); have KJ := Lib.hid (blk_below (show blk w4.drew (w.heap.size + 1) (insC i) 27 from KI.out) hb); obtain ⟨z0, z1, z2, z3, z4⟩ := cellsI_of KJ.out; clear hb))
    | (go_at_call 10; ((with_reducible refine (HRR.out _ HB5.out).mono ?_); rintro e w6 ⟨rfl, hb⟩; have HB6 := Lib.hid (HB5.out.trans (hb.mono HB5.out.size)); clear z0 z1 z2 z3 z4; obtain ⟨z0, z1, z2, z3, z4⟩ := cellsI_of (blk_below KJ.out hb); clear hb)))
  all_goals
    go_wp2_with (fail)
    go_ret
    exact ⟨ret_bool (by simp), HS.out.trans (HB6.out.mono HS.out.size)⟩
theorem rprint_few (v : Value) (p : PProg) (w : World) (h : ProgAt w v p) (hs : OkP p) (hA : HasAll w) (hf : fewP p = true) (hl : p.types.length ≤ 8796093022208) : Calls Tryz.prog 8 #[v] w (PrintPost w (printL p)) := by
  unfold printL
  rcases hm : mayP p with _ | _
  · rw [if_neg (by simp)]; exact rprint_bad v p w h hs hA.t hm
  · obtain ⟨h1, h2⟩ := text_short hs hm hf hl
    have := fewS_join (linesP p) (fun x hx => (lines_good hs hm x hx).1)
    rw [if_pos rfl]; exact rprint_ok v p w h hs hA.t hm (by omega) (by omega)
theorem prints_walk (v : Value) (p : PProg) (i : PIns) (w : World) (h : ProgAt w v p) (hs : OkP p) (hl : p.types.length ≤ 8796093022208) (hi : OkI i) (hA : HasAll w) : Calls Tryz.prog 3 #[v, insV i] w fun e w' => e = .returned (.bool true) ∧ Below w.heap.size w w' := by
  obtain ⟨vt, vc, rfl, ht, hc⟩ := h
  obtain ⟨a, c, rfl, -, -, -⟩ := id ht.elems
  obtain ⟨a', c', rfl, -, -, -⟩ := id hc
  have hp0 : ProgAt w (.agg (#[.slice a p.types.length c, str p.locals, str p.globs, .slice a' p.code.length c'] : Array Value)) p := ⟨_, _, rfl, ht, hc⟩
  have hsz1 : (w.alloc (.cells #[.slice a p.types.length c, str p.locals, str p.globs, .slice a' p.code.length c'] 25)).heap.size = w.heap.size + 1 := by simp
  have hwb : Below w.heap.size w ((w.alloc (.cells #[.slice a p.types.length c, str p.locals, str p.globs, .slice a' p.code.length c'] 25)).alloc (.cells (insC i) 27)) := ((Below.refl _ _).alloc (Nat.le_refl _) _).alloc (by omega) _
  have kp : blk ((w.alloc (.cells #[.slice a p.types.length c, str p.locals, str p.globs, .slice a' p.code.length c'] 25)).alloc (.cells (insC i) 27)) w.heap.size #[.slice a p.types.length c, str p.locals, str p.globs, .slice a' p.code.length c'] 25 := blk_alloc (blk_new w _ 25) _
  have ki : blk ((w.alloc (.cells #[.slice a p.types.length c, str p.locals, str p.globs, .slice a' p.code.length c'] 25)).alloc (.cells (insC i) 27)) (w.heap.size + 1) (insC i) 27 := by rw [← hsz1]; exact blk_new _ _ _
  generalize hW0 : ((w.alloc (.cells #[.slice a p.types.length c, str p.locals, str p.globs, .slice a' p.code.length c'] 25)).alloc (.cells (insC i) 27)) = W0 at hwb kp ki
  have hp := hp0.below hwb
  have hA0 := hA.below hwb
  have HAL := Lib.hid (fun w1 (hb : Below W0.heap.size W0 w1) => alive_any w1 (hA0.below hb))
  rcases hf : fewP p with _ | _
  · exact prints_big w W0 p i a a' c c' hW0.symm (Lib.hid kp) (Lib.hid ki) (Lib.hid hwb) HAL (Lib.hid fun w1 hb => few_b _ p false w1 (hp.below hb) hs hf)
  · exact prints_few w W0 p i a a' c c' hW0.symm (Lib.hid kp) (Lib.hid ki) (Lib.hid hwb) HAL (Lib.hid fun w1 hb => few_b _ p true w1 (hp.below hb) hs hf) (printL p).1 (printL p).1 (printL p).2 (printL p).2 (rightL i) (by simp) (by simp)
      (Lib.hid fun w1 hb => print_few _ p w1 (hp.below hb) hs (hA0.below hb) hf hl)
      (Lib.hid fun w1 hb => rprint_few _ p w1 (hp.below hb) hs (hA0.below hb) hf hl)
      (Lib.hid fun w1 hb => right_any i w1 (hA0.below hb).o hi)
      (Lib.hid fun w1 hb => rightR_any i w1 hi (hA0.below hb).t)
end Go.Proofs.YtgmpggjikebcdaaGreatDoor
