/-
  CodeCuts: the walk.
-/
import Derived.Test.YtgmpggjikebcdaaDoorRCutP
namespace Go.Proofs.YtgmpggjikebcdaaDoor
open Go.RowKit

theorem cut_at {w : World} {vt : Value} {p : PProg} {a' : Option Addr} {n c' : Nat} (h : ProgAt w (.agg #[vt, str p.locals, str p.globs, .slice a' n c']) p) : ProgAt w (.agg #[vt, str p.locals, str p.globs, .slice a' (p.code.length - 1) c']) (cutP p) := by
  obtain ⟨vt', vc', he, ht, ⟨x, y, rfl, h1, h2, h3⟩⟩ := h
  have he' : vt = vt' ∧ Value.slice a' n c' = .slice x p.code.length y := by
    unfold progC at he
    simp only [Value.agg.injEq, Array.mk.injEq, List.cons.injEq] at he
    exact ⟨he.1, he.2.2.2.1⟩
  obtain ⟨rfl, he2⟩ := he'
  simp only [Value.slice.injEq] at he2
  obtain ⟨rfl, -, rfl⟩ := he2
  have hlen : (cutP p).code.length = p.code.length - 1 := by show (p.code.take _).length = _; rw [List.length_take]; omega
  refine ⟨vt, .slice a' (cutP p).code.length c', by rw [hlen]; rfl, ht, ⟨a', c', rfl, by omega, h2, fun j i hj => h3 j i ?_⟩⟩
  have : (p.code.take (p.code.length - 1))[j]? = some i := hj
  rw [List.getElem?_take] at this
  split at this
  · exact this
  · cases this
set_option maxRecDepth 100000 in
set_option maxHeartbeats 2000000 in
theorem cuts_big (v : Value) (p : PProg) (w : World) (h : ProgAt w v p) (hs : OkP p) (hA : HasAll w) (hf : fewP p = false) : Calls Tryd.prog 5 #[v] w (AggPost w (.bool true)) := by
  obtain ⟨vt, vc, rfl, ht, hc⟩ := h
  have hwb : Below w.heap.size w (w.alloc (.cells (progC vt p vc) 25)) := (Below.refl _ _).alloc (Nat.le_refl _) _
  have HAL := Lib.hid (alive_any _ (hA.below hwb))
  have HF : Hid (∀ w1, Below (w.alloc (.cells (progC vt p vc) 25)).heap.size (w.alloc (.cells (progC vt p vc) 25)) w1 → Calls Tryd.prog 9 #[.agg (progC vt p vc)] w1 (AggPost w1 (.bool false))) :=
    Lib.hid fun w1 hb => few_b _ p false w1 ⟨vt, vc, rfl, (ht.below hwb).below hb, (hc.below hwb).below hb⟩ hs hf
  have HW := Lib.hid hwb
  clear ht hc hs hA hf hwb
  go_enter Tryd.func5, Tryd.ntmps5
  go_wp2_with (first
    | (go_at_call 8; refine HAL.out.mono ?_; rintro e w1 ⟨rfl, hb1⟩; have K1 := Lib.hid (blk_below (blk_new w (progC vt p vc) 25) hb1); have s1 := hb1.size; rw [World.size_alloc] at s1; have HB1 := Lib.hid hb1; clear hb1)
    | (refine wpList_loadB rfl 25 _ rfl w.heap.size (progC vt p vc) rfl 25 K1.out _ Tryd.underlying25 rfl prog_info ?_)
    | (go_at_call 9; refine (HF.out _ HB1.out).mono ?_; rintro e w2 ⟨rfl, hb2⟩))
  go_ret
  have b1 := HB1.out
  rw [World.size_alloc] at b1
  exact ⟨rfl, (HW.out.trans (b1.mono (by omega))).trans (hb2.mono (by omega))⟩
set_option maxRecDepth 100000 in
set_option maxHeartbeats 2000000 in
theorem cuts_bad (w W0 : World) (p : PProg) (a a' : Option Addr) (c c' : Nat) (hW0 : W0 = (w.alloc (.cells #[.slice a p.types.length c, str p.locals, str p.globs, .slice a' p.code.length c'] 25))) (KP : Hid (Keep W0 w.heap.size (.slice a p.types.length c) (.slice a' p.code.length c') p)) (HS : Hid (Below w.heap.size w W0))
    (HAL : Hid (∀ w1, Below W0.heap.size W0 w1 → Calls Tryd.prog 8 #[] w1 (AggPost w1 (.bool true))))
    (HF : Hid (∀ w1, Below W0.heap.size W0 w1 → Calls Tryd.prog 9 #[.agg #[.slice a p.types.length c, str p.locals, str p.globs, .slice a' p.code.length c']] w1 (AggPost w1 (.bool true))))
    (HP : Hid (∀ w1, Below W0.heap.size W0 w1 → Calls Tryd.prog 10 #[.agg #[.slice a p.types.length c, str p.locals, str p.globs, .slice a' p.code.length c']] w1 (PrintPost w1 ([], 2)))) :
    Calls Tryd.prog 5 #[.agg #[.slice a p.types.length c, str p.locals, str p.globs, .slice a' p.code.length c']] w (AggPost w (.bool true)) := by
  have HB := Lib.hid (Below.refl W0.heap.size W0)
  obtain ⟨c0, c1, c2, c3⟩ := KP.out.cells
  go_enter Tryd.func5, Tryd.ntmps5
  go_wp2_with (fail)
  rw [← hW0]
  clear hW0
  go_wp2_with (first
    | (go_at_call 8; refine (HAL.out _ HB.out).mono ?_; rintro e w1 ⟨rfl, hb⟩; clear HAL; have HB := Lib.hid (HB.out.trans (hb.mono HB.out.size)); have KP := Lib.hid (KP.out.below hb); clear hb c0 c1 c2 c3; obtain ⟨c0, c1, c2, c3⟩ := KP.out.cells)
    | (go_at_call 9; refine (HF.out _ HB.out).mono ?_; rintro e w2 ⟨rfl, hb⟩; clear HF; have HB := Lib.hid (HB.out.trans (hb.mono HB.out.size)); have KP := Lib.hid (KP.out.below hb); clear hb c0 c1 c2 c3; obtain ⟨c0, c1, c2, c3⟩ := KP.out.cells)
    | (go_at_call 10; refine (HP.out _ HB.out).mono ?_; rintro e w3 ⟨rfl, hb⟩; clear HP; have HB := Lib.hid (HB.out.trans (hb.mono HB.out.size)); have KP := Lib.hid (KP.out.below hb); clear hb c0 c1 c2 c3; obtain ⟨c0, c1, c2, c3⟩ := KP.out.cells))
  go_ret
  exact ⟨rfl, HS.out.trans (HB.out.mono HS.out.size)⟩
set_option maxRecDepth 100000 in
set_option maxHeartbeats 2000000 in
theorem cuts_none (w W0 : World) (p : PProg) (a a' : Option Addr) (c c' : Nat) (tb : ByteArray) (hW0 : W0 = (w.alloc (.cells #[.slice a p.types.length c, str p.locals, str p.globs, .slice a' p.code.length c'] 25))) (KP : Hid (Keep W0 w.heap.size (.slice a p.types.length c) (.slice a' p.code.length c') p)) (HS : Hid (Below w.heap.size w W0))
    (HAL : Hid (∀ w1, Below W0.heap.size W0 w1 → Calls Tryd.prog 8 #[] w1 (AggPost w1 (.bool true))))
    (HF : Hid (∀ w1, Below W0.heap.size W0 w1 → Calls Tryd.prog 9 #[.agg #[.slice a p.types.length c, str p.locals, str p.globs, .slice a' p.code.length c']] w1 (AggPost w1 (.bool true))))
    (HP : Hid (∀ w1, Below W0.heap.size W0 w1 → Calls Tryd.prog 10 #[.agg #[.slice a p.types.length c, str p.locals, str p.globs, .slice a' p.code.length c']] w1 fun e w' => e = .returned (.tuple #[.string tb, .int .i64 0]) ∧ Below w1.heap.size w1 w')) (h0 : ((p.code.length : Int) == 0) = true) :
    Calls Tryd.prog 5 #[.agg #[.slice a p.types.length c, str p.locals, str p.globs, .slice a' p.code.length c']] w (AggPost w (.bool true)) := by
  have HB := Lib.hid (Below.refl W0.heap.size W0)
  obtain ⟨c0, c1, c2, c3⟩ := KP.out.cells
  go_enter Tryd.func5, Tryd.ntmps5
  go_wp2_with (fail)
  rw [← hW0]
  clear hW0
  go_wp2_with (first
    | (go_at_call 8; refine (HAL.out _ HB.out).mono ?_; rintro e w1 ⟨rfl, hb⟩; clear HAL; have HB := Lib.hid (HB.out.trans (hb.mono HB.out.size)); have KP := Lib.hid (KP.out.below hb); clear hb c0 c1 c2 c3; obtain ⟨c0, c1, c2, c3⟩ := KP.out.cells)
    | (go_at_call 9; refine (HF.out _ HB.out).mono ?_; rintro e w2 ⟨rfl, hb⟩; clear HF; have HB := Lib.hid (HB.out.trans (hb.mono HB.out.size)); have KP := Lib.hid (KP.out.below hb); clear hb c0 c1 c2 c3; obtain ⟨c0, c1, c2, c3⟩ := KP.out.cells)
    | (go_at_call 10; refine (HP.out _ HB.out).mono ?_; rintro e w3 ⟨rfl, hb⟩; clear HP; have HB := Lib.hid (HB.out.trans (hb.mono HB.out.size)); have KP := Lib.hid (KP.out.below hb); clear hb c0 c1 c2 c3; obtain ⟨c0, c1, c2, c3⟩ := KP.out.cells))
  go_ret
  exact ⟨rfl, HS.out.trans (HB.out.mono HS.out.size)⟩
set_option maxRecDepth 100000 in
set_option maxHeartbeats 2000000 in
theorem cuts_ok (w W0 : World) (p : PProg) (a a' : Option Addr) (c c' : Nat) (tb : ByteArray) (k0 M : Nat) (hW0 : W0 = (w.alloc (.cells #[.slice a p.types.length c, str p.locals, str p.globs, .slice a' p.code.length c'] 25))) (KP : Hid (Keep W0 w.heap.size (.slice a p.types.length c) (.slice a' p.code.length c') p)) (HS : Hid (Below w.heap.size w W0))
    (HAL : Hid (∀ w1, Below W0.heap.size W0 w1 → Calls Tryd.prog 8 #[] w1 (AggPost w1 (.bool true))))
    (HF : Hid (∀ w1, Below W0.heap.size W0 w1 → Calls Tryd.prog 9 #[.agg #[.slice a p.types.length c, str p.locals, str p.globs, .slice a' p.code.length c']] w1 (AggPost w1 (.bool true))))
    (HP : Hid (∀ w1, Below W0.heap.size W0 w1 → Calls Tryd.prog 10 #[.agg #[.slice a p.types.length c, str p.locals, str p.globs, .slice a' p.code.length c']] w1 fun e w' => e = .returned (.tuple #[.string tb, .int .i64 0]) ∧ Below w1.heap.size w1 w'))
    (HPA : Hid (∀ w1, Below W0.heap.size W0 w1 → Calls Tryd.prog 11 #[.string (tb.extract 0 k0)] w1 (RdPost w1 (cutP p) 0 0)))
    (HPE : Hid (∀ w1, Below W0.heap.size W0 w1 → Calls Tryd.prog 11 #[.string (tb ++ ⟨#[119, 104, 97, 116]⟩)] w1 (RdPost w1 noneP M 4))) (hM : ((M : Int) == (p.types.length : Int) + 3 + p.code.length) = true)
    (HS1 : Hid (∀ w1 v u, ProgAt w1 v (cutP p) → ProgAt w1 u (cutP p) → Calls Tryd.prog 12 #[v, u] w1 (AggPost w1 (.bool true))))
    (hcn : ((p.code.length : Int) == 0) = false) (hcl : 1 ≤ p.code.length) (hcm : p.code.length ≤ 210) (hcc : p.code.length ≤ c') (hcc2 : c' ≤ 9223372036854775807) (htl : p.types.length ≤ 250) (hsz : tb.size ≤ 20000) (h0 : 1 ≤ k0) (h1 : k0 + 1 ≤ tb.size)
    (HLA : Hid (∀ h : k0 - 1 < tb.size, tb[k0 - 1] = 10)) (HNO : Hid (∀ k (h : k < tb.size), k0 ≤ k → k + 1 < tb.size → tb[k] ≠ 10))  :
    Calls Tryd.prog 5 #[.agg #[.slice a p.types.length c, str p.locals, str p.globs, .slice a' p.code.length c']] w (AggPost w (.bool true)) := by
  have HB := Lib.hid (Below.refl W0.heap.size W0)
  obtain ⟨c0, c1, c2, c3⟩ := KP.out.cells
  go_enter Tryd.func5, Tryd.ntmps5
  go_wp2_with (fail)
  rw [← hW0]
  clear hW0
  go_wp2_with (first
    | (go_at_call 8; refine (HAL.out _ HB.out).mono ?_; rintro e w1 ⟨rfl, hb⟩; clear HAL; have HB := Lib.hid (HB.out.trans (hb.mono HB.out.size)); have KP := Lib.hid (KP.out.below hb); clear hb c0 c1 c2 c3; obtain ⟨c0, c1, c2, c3⟩ := KP.out.cells)
    | (go_at_call 9; refine (HF.out _ HB.out).mono ?_; rintro e w2 ⟨rfl, hb⟩; clear HF; have HB := Lib.hid (HB.out.trans (hb.mono HB.out.size)); have KP := Lib.hid (KP.out.below hb); clear hb c0 c1 c2 c3; obtain ⟨c0, c1, c2, c3⟩ := KP.out.cells)
    | (go_at_call 10; refine (HP.out _ HB.out).mono ?_; rintro e w3 ⟨rfl, hb⟩; clear HP; have HB := Lib.hid (HB.out.trans (hb.mono HB.out.size)); have KP := Lib.hid (KP.out.below hb); clear hb c0 c1 c2 c3; obtain ⟨c0, c1, c2, c3⟩ := KP.out.cells))
  go_loopw [5] (fun v5 wr => ∃ k : Nat, k0 ≤ k ∧ k + 1 ≤ tb.size ∧ v5 = .int .i64 k ∧ wr = w3) (fun v5 _ => (intOf v5).toNat)
  case atStart => exact ⟨tb.size - 1, by omega, by omega, by go_num, rfl⟩
  case round =>
    obtain ⟨k, hk0, hk1, rfl, rfl⟩ := hrel
    by_cases hlt : k0 < k
    · have e1 : (((tb[k - 1].toNat : Nat) : Int) != 10) = true := by rw [bne, ne10_of (HNO.out (k - 1) (by omega) (by omega) (by omega))]; rfl
      go_wp2
      go_roundw
      case rel => exact ⟨k - 1, by omega, by omega, by go_num, trivial⟩
      case measure => simp [intOf]; omega
    · obtain rfl : k = k0 := by omega
      have e1 : (((tb[k - 1].toNat : Nat) : Int) != 10) = false := by rw [bne, eq10_of (HLA.out (by omega))]; rfl
      go_wp2_with (first
        | (go_at_call 11; refine (HPA.out _ HB.out).mono ?_; rintro e wa ⟨vx, vcx, rfl, HX, hb0⟩; clear HPA; have hb := hb0.out; clear hb0; have HB := Lib.hid (HB.out.trans (hb.mono HB.out.size)); have KP := Lib.hid (KP.out.below hb); clear hb c0 c1 c2 c3; obtain ⟨c0, c1, c2, c3⟩ := KP.out.cells)
        | (refine wpList_putB rfl 25 _ _ rfl wa.heap.size #[vx, str (cutP p).locals, str (cutP p).globs, vcx] rfl rfl 25 _ (blk_new _ _ _) prog_info rfl HX.out.2 ?_; have hb := put_new wa #[vx, str (cutP p).locals, str (cutP p).globs, vcx]; have KX := Lib.hid (keep_put HX.out.1); clear HX; generalize putB (wa.alloc (.cells zeroP 25)) wa.heap.size #[vx, str (cutP p).locals, str (cutP p).globs, vcx] 25 = W1 at *; obtain ⟨x0, x1, x2, x3⟩ := KX.out.cells; have HB := Lib.hid (HB.out.trans (hb.mono HB.out.size)); have KP := Lib.hid (KP.out.below hb); clear hb c0 c1 c2 c3; obtain ⟨c0, c1, c2, c3⟩ := KP.out.cells; have ca3 := blk_cell (blk_alloc KP.out.1 (.cells #[.slice a p.types.length c, .string ⟨p.locals.toArray⟩, .string ⟨p.globs.toArray⟩, .slice a' p.code.length c'] 25)) 3 _ rfl; have cb3 := blk_cell (blk_new W1 #[.slice a p.types.length c, .string ⟨p.locals.toArray⟩, .string ⟨p.globs.toArray⟩, .slice a' p.code.length c'] 25) 3 _ rfl; have cf3 := blk_frozen (blk_new W1 #[.slice a p.types.length c, .string ⟨p.locals.toArray⟩, .string ⟨p.globs.toArray⟩, .slice a' p.code.length c'] 25) 3; have hb2 : Below W1.heap.size W1 (W1.alloc (.cells #[.slice a p.types.length c, .string ⟨p.locals.toArray⟩, .string ⟨p.globs.toArray⟩, .slice a' (p.code.length - 1) c'] 25)) := (Below.refl _ _).alloc (Nat.le_refl _) _; have HB2 := Lib.hid (HB.out.trans (hb2.mono HB.out.size)); have KX2 := Lib.hid (KX.out.below hb2); have KP2 := Lib.hid (KP.out.below hb2); have KY2 := Lib.hid ((⟨blk_new W1 #[.slice a p.types.length c, .string ⟨p.locals.toArray⟩, .string ⟨p.globs.toArray⟩, .slice a' (p.code.length - 1) c'] 25, (cut_at KP.out.2).below hb2⟩ : Keep (W1.alloc (.cells #[.slice a p.types.length c, .string ⟨p.locals.toArray⟩, .string ⟨p.globs.toArray⟩, .slice a' (p.code.length - 1) c'] 25)) W1.heap.size (.slice a p.types.length c) (.slice a' (p.code.length - 1) c') (cutP p))); clear hb2)
        | (go_at_call 11; go_loud (refine (HPE.out _ HB2.out).mono ?_); go_loud (rintro e wb hbb); go_loud (obtain ⟨vy, vcy, rfl, HY, hb0⟩ := hbb); go_loud (clear HPE); go_loud (have hb := hb0.out); go_loud (clear hb0 ca3 cb3 cf3 x0 x1 x2 x3 c0 c1 c2 c3); go_loud (have KX := Lib.hid (KX2.out.below hb)); go_loud (have KY := Lib.hid (Keep.below (p := cutP p) KY2.out hb)); go_loud (have KP := Lib.hid (KP2.out.below hb)); go_loud (have HB := Lib.hid (HB2.out.trans (hb.mono HB2.out.size))); go_loud (clear hb KX2 KY2 KP2); go_loud (obtain ⟨x0, x1, x2, x3⟩ := KX.out.cells); go_loud (obtain ⟨y0, y1, y2, y3⟩ := KY.out.cells); go_loud (obtain ⟨c0, c1, c2, c3⟩ := KP.out.cells))
        | (refine wpList_putB rfl 25 _ _ rfl wb.heap.size #[vy, str noneP.locals, str noneP.globs, vcy] rfl rfl 25 _ (blk_new _ _ _) prog_info rfl HY.out.2 ?_; have hb := put_new wb #[vy, str noneP.locals, str noneP.globs, vcy]; clear HY; generalize putB (wb.alloc (.cells zeroP 25)) wb.heap.size #[vy, str noneP.locals, str noneP.globs, vcy] 25 = W3 at *; have KX := Lib.hid (KX.out.below hb); clear x0 x1 x2 x3; obtain ⟨x0, x1, x2, x3⟩ := KX.out.cells; have KY := Lib.hid (KY.out.below hb); clear y0 y1 y2 y3; obtain ⟨y0, y1, y2, y3⟩ := KY.out.cells; have HB := Lib.hid (HB.out.trans (hb.mono HB.out.size)); have KP := Lib.hid (KP.out.below hb); clear hb c0 c1 c2 c3; obtain ⟨c0, c1, c2, c3⟩ := KP.out.cells)
        | (go_at_call 12; refine (HS1.out _ _ _ KX.out.2 KY.out.2).mono ?_; rintro e ws ⟨rfl, hb⟩; clear HS1; have HB := Lib.hid (HB.out.trans (hb.mono HB.out.size)); have KP := Lib.hid (KP.out.below hb); clear hb c0 c1 c2 c3; obtain ⟨c0, c1, c2, c3⟩ := KP.out.cells))
      go_ret
      exact ⟨rfl, HS.out.trans (HB.out.mono HS.out.size)⟩
theorem text_less {p : PProg} (hs : OkP p) (h : mayP p = true) (hf : fewP p = true) (hlen : p.types.length ≤ 8796093022208) : (joinL (linesP p)).length ≤ 19996 ∧ p.types.length ≤ 250 := by
  have h1 := few_sum h hf hlen
  obtain ⟨h2, _, _, h4, _⟩ := mayP_all h
  have h3 := sumT_two (fun t ht => (h2 t ht).1)
  have := text_len hs h
  omega
theorem cuts_walk (v : Value) (p : PProg) (w : World) (h : ProgAt w v p) (hs : OkP p) (hl : p.types.length ≤ 8796093022208) (hA : HasAll w) : Calls Tryd.prog 5 #[v] w fun e w' => e = .returned (.bool true) ∧ Below w.heap.size w w' := by
  rcases hf : fewP p with _ | _
  · exact cuts_big v p w h hs hA hf
  obtain ⟨vt, vc, rfl, ht, hc⟩ := h
  obtain ⟨a, c, rfl, -, -, -⟩ := id ht.elems
  obtain ⟨a', c', rfl, g1, g2, -⟩ := id hc
  have hwb : Below w.heap.size w (w.alloc (.cells #[.slice a p.types.length c, str p.locals, str p.globs, .slice a' p.code.length c'] 25)) := (Below.refl _ _).alloc (Nat.le_refl _) _
  have kp : Keep (w.alloc (.cells #[.slice a p.types.length c, str p.locals, str p.globs, .slice a' p.code.length c'] 25)) w.heap.size (.slice a p.types.length c) (.slice a' p.code.length c') p := ⟨blk_new w _ 25, ⟨_, _, rfl, ht.below hwb, hc.below hwb⟩⟩
  have hA0 := hA.below hwb
  generalize hW0 : (w.alloc (.cells #[.slice a p.types.length c, str p.locals, str p.globs, .slice a' p.code.length c'] 25)) = W0 at hwb kp hA0
  have HAL := Lib.hid (fun w1 (hb : Below W0.heap.size W0 w1) => alive_any w1 (hA0.below hb))
  have HF := Lib.hid (fun w1 (hb : Below W0.heap.size W0 w1) => few_b _ p true w1 (kp.below hb).2 hs hf)
  have hpr := fun w1 (hb : Below W0.heap.size W0 w1) => print_few _ p w1 (kp.below hb).2 hs (hA0.below hb) hf hl
  rcases m1 : mayP p with _ | _
  · have e : printL p = ([], 2) := by unfold printL; rw [m1]; rfl
    rw [e] at hpr
    exact cuts_bad w W0 p a a' c c' hW0.symm (Lib.hid kp) (Lib.hid hwb) HAL HF (Lib.hid hpr)
  have e : printL p = (joinL (linesP p), 0) := by unfold printL; rw [m1]; rfl
  rw [e] at hpr
  obtain ⟨t1, t2⟩ := text_less hs m1 hf hl
  by_cases hcl : 1 ≤ p.code.length
  case neg => exact cuts_none w W0 p a a' c c' ⟨(joinL (linesP p)).toArray⟩ hW0.symm (Lib.hid kp) (Lib.hid hwb) HAL HF (Lib.hid hpr) (by rw [beq_iff_eq]; omega)
  have hsz : (⟨(joinL (linesP p)).toArray⟩ : ByteArray).size = (joinL (linesP p)).length := bs_size _
  have hne : linesP (cutP p) ≠ [] := by intro h; have := linesP_len (cutP p); rw [h] at this; simp at this; omega
  obtain ⟨s, hi⟩ := joinL_last hne
  obtain ⟨l, hct, hno⟩ := cut_text hs m1 hcl
  have hfew : p.code.length ≤ 210 := by unfold fewP at hf; simp only [Bool.and_eq_true, decide_eq_true_eq] at hf; exact hf.2
  have hlen : (joinL (linesP p)).length = s.length + 1 + (l.length + 1) := by rw [hct, hi]; simp; omega
  have hpt := parse_text (cutP_ok hs) (cutP_may m1) (by rw [hct] at t1; simp at t1; omega)
  have hx : (⟨(joinL (linesP p)).toArray⟩ : ByteArray).extract 0 (joinL (linesP (cutP p))).length = ⟨(joinL (linesP (cutP p))).toArray⟩ := by
    apply ByteArray.ext
    apply Array.toList_inj.1
    rw [cut_list]
    show ((joinL (linesP p)).take (joinL (linesP (cutP p))).length).drop 0 = joinL (linesP (cutP p))
    rw [hct, List.take_left', List.drop_zero]; rfl
  have hy : (⟨(joinL (linesP p)).toArray⟩ ++ ⟨#[119, 104, 97, 116]⟩ : ByteArray) = ⟨(joinL (linesP p) ++ what).toArray⟩ := cat_str _ what
  refine cuts_ok w W0 p a a' c c' ⟨(joinL (linesP p)).toArray⟩ (joinL (linesP (cutP p))).length (p.types.length + 3 + p.code.length) hW0.symm (Lib.hid kp) (Lib.hid hwb) HAL HF (Lib.hid hpr)
    (Lib.hid fun w1 hb => by rw [hx]; exact parse_str _ (cutP p, 0, 0) w1 (hA0.below hb) (by rw [hct] at t1; simp at t1; omega) hpt)
    (Lib.hid fun w1 hb => by rw [hy]; exact parse_str _ (noneP, p.types.length + 3 + p.code.length, 4) w1 (hA0.below hb) (by simp [what]; omega) (parse_what hs m1 t1)) (by rw [beq_iff_eq]; omega)
    (Lib.hid fun w1 v u hv hu => same_any v u (cutP p) (cutP p) true w1 hv hu (by simp))
    (by simp only [beq_eq_false_iff_ne]; omega) hcl hfew g1 (by unfold maxLen at g2; omega) t2 (by omega) (by rw [hi]; simp) (by rw [hsz, hlen, hi]; simp) (Lib.hid fun h => ?_) (Lib.hid fun k h h1 h2 => ?_)
  · show (joinL (linesP p)).toArray[(joinL (linesP (cutP p))).length - 1] = 10
    simp [hct, hi]
  · have h3 : k < (joinL (linesP p)).length := by rw [← hsz]; exact h
    show (joinL (linesP p))[k] ≠ 10
    have h4 : k < (joinL (linesP (cutP p)) ++ (l ++ [10])).length := by rw [← hct]; exact h3
    have e4 : (joinL (linesP p))[k] = (joinL (linesP (cutP p)) ++ (l ++ [10]))[k] := by congr 1
    rw [hsz, hlen] at h2
    have h5 : k - (joinL (linesP (cutP p))).length < l.length := by rw [hi] at h1 ⊢; simp at h1 ⊢; omega
    rw [e4, List.getElem_append_right h1, List.getElem_append_left h5]
    exact hno _ (List.getElem_mem _)
end Go.Proofs.YtgmpggjikebcdaaDoor
