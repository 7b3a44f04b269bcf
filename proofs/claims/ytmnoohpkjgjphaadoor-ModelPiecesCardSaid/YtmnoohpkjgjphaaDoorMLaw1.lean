/-
  ModelFurther: the walk.
-/
import Derived.Test.YtmnoohpkjgjphaaDoorMAlv
import Derived.Deep.CutRange
namespace Go.Proofs.YtmnoohpkjgjphaaDoor
set_option linter.unusedSimpArgs false
set_option linter.unusedVariables false
open Go.RowKit

theorem rowN_form {w : World} {v : Value} {l : List Int} (h : RowN w v (i64s l)) : ∃ a c, v = .slice a l.length c ∧ l.length ≤ c ∧ c ≤ 9223372036854775807 := by
  obtain ⟨⟨a, c, rfl, h1, h2, h3⟩, -⟩ := h
  unfold maxLen at h2
  rw [i64s_len] at h1 ⊢
  exact ⟨a, c, rfl, h1, by omega⟩
theorem row_pre {w : World} {a : Option Addr} {n c : Nat} {l e : List Int} (h : RowAt w (.slice a n c) (i64s (l ++ e))) : RowAt w (.slice a l.length c) (i64s l) := by
  obtain ⟨a', c', he, h1, h2, h3⟩ := h
  simp only [Value.slice.injEq] at he
  obtain ⟨rfl, -, rfl⟩ := he
  refine ⟨a, c, by rw [i64s_len], by rw [i64s_len] at h1 ⊢; rw [List.length_append] at h1; omega, h2, ?_⟩
  rcases h3 with h3 | ⟨b, o, rfl, hb, hc⟩
  · left
    have := congrArg List.length h3
    simp at this
    simp [this.1]
  · exact .inr ⟨b, o, rfl, hb, fun j x hx => hc j x (by rw [show i64s (l ++ e) = i64s l ++ i64s e by simp]; rw [List.getElem?_append_left (List.getElem?_eq_some_iff.1 hx).1]; exact hx)⟩
set_option maxRecDepth 100000 in
set_option maxHeartbeats 2000000 in
theorem further_at (w W0 : World) (p : PProg) (a b : Nat) (l e : List Int) (z1 z2 : Nat) (f : Bool) (x x' : Option Addr) (k k' : Nat)
    (hW0 : W0 = w.alloc (.cells #[.slice x p.types.length k, str p.locals, str p.globs, .slice x' p.code.length k'] 25))
    (KP : Hid (Keep W0 w.heap.size (.slice x p.types.length k) (.slice x' p.code.length k') p)) (HS : Hid (Below w.heap.size w W0))
    (HAL : Hid (∀ w1, Below W0.heap.size W0 w1 → Calls Tryd.prog 11 #[] w1 (AggPost w1 (.bool true))))
    (HF : Hid (∀ w1, Below W0.heap.size W0 w1 → Calls Tryd.prog 10 #[.agg (progC (.slice x p.types.length k) p (.slice x' p.code.length k'))] w1 (AggPost w1 (.bool f))))
    (HR1 : Hid (∀ w1, Below W0.heap.size W0 w1 → Calls Tryd.prog 15 #[.agg (progC (.slice x p.types.length k) p (.slice x' p.code.length k')), .int .i64 a] w1 (RunPost w1 l z1)))
    (HR2 : Hid (∀ w1, Below W0.heap.size W0 w1 → Calls Tryd.prog 15 #[.agg (progC (.slice x p.types.length k) p (.slice x' p.code.length k')), .int .i64 ((a : Int) + b)] w1 (RunPost w1 (l ++ e) z2)))
    (ha : a ≤ 255) (hb : b ≤ 255) (hz : z1 ≠ 10 → z2 = z1 ∧ e = []) :
    Calls Tryd.prog 5 #[.agg (progC (.slice x p.types.length k) p (.slice x' p.code.length k')), .int .u8 a, .int .u8 b] w (AggPost w (.bool true)) := by
  have HB := Lib.hid (Below.refl W0.heap.size W0)
  go_enter Tryd.func5, Tryd.ntmps5
  go_wp2_with (fail)
  rw [← hW0]
  clear hW0
  rcases f with _ | _
  · go_wp2_with (first
      | (refine wpList_loadB rfl 25 _ rfl w.heap.size (progC (.slice x p.types.length k) p (.slice x' p.code.length k')) rfl 25 KP.out.blk _ Tryd.underlying25 rfl prog_info ?_)
      | (go_at_call 11; refine (HAL.out _ HB.out).mono ?_; rintro e1 w1 ⟨rfl, hb⟩; have HB := Lib.hid (HB.out.trans (hb.mono HB.out.size)); have KP := Lib.hid (KP.out.below hb); clear hb)
      | (go_at_call 10; refine (HF.out _ HB.out).mono ?_; rintro e1 w1 ⟨rfl, hb⟩; have HB := Lib.hid (HB.out.trans (hb.mono HB.out.size)); clear hb))
    go_ret
    exact ⟨rfl, HS.out.trans (HB.out.mono HS.out.size)⟩
  have HZ := Lib.hid hz
  clear hz
  go_upto_region 9 with (first
    | (refine wpList_loadB rfl 25 _ rfl w.heap.size (progC (.slice x p.types.length k) p (.slice x' p.code.length k')) rfl 25 KP.out.blk _ Tryd.underlying25 rfl prog_info ?_)
    | (go_at_call 11; refine (HAL.out _ HB.out).mono ?_; rintro e1 w1 ⟨rfl, hb⟩; have HB := Lib.hid (HB.out.trans (hb.mono HB.out.size)); have KP := Lib.hid (KP.out.below hb); clear hb)
    | (go_at_call 10; refine (HF.out _ HB.out).mono ?_; rintro e1 w2 ⟨rfl, hb⟩; have HB := Lib.hid (HB.out.trans (hb.mono HB.out.size)); have KP := Lib.hid (KP.out.below hb); clear hb)
    | (go_at_call 15; refine (HR1.out _ HB.out).mono ?_; rintro e1 w3 ⟨v1, rfl, hn1, hb⟩; clear HR1; have HB := Lib.hid (HB.out.trans (hb.mono HB.out.size)); have KP := Lib.hid (KP.out.below hb); clear hb; obtain ⟨a1, c1, hv1, g1, g2⟩ := rowN_form hn1; subst hv1; have HN1 := Lib.hid hn1.1; clear hn1)
    | (go_at_call 15; refine (HR2.out _ HB.out).mono ?_; rintro e1 w4 ⟨v2, rfl, hn2, hb⟩; clear HR2; have HB := Lib.hid (HB.out.trans (hb.mono HB.out.size)); have HN1 := Lib.hid (HN1.out.below hb); clear hb; obtain ⟨a2, c2, hv2, k1, k2⟩ := rowN_form hn2; subst hv2; have HN2 := Lib.hid (row_pre hn2.1); clear hn2; rw [List.length_append] at k1; have k3 := k1; have k4 : l.length ≤ l.length + e.length := Nat.le_add_right _ _; have k5 : l.length ≤ c2 := by omega)
    | (go_at_call 17; refine (nums_n _ _ l l true _ HN1.out HN2.out (by simp)).mono ?_; rintro e1 w5 ⟨rfl, hb⟩; have HB := Lib.hid (HB.out.trans (hb.mono HB.out.size)); clear hb))
  by_cases h10 : z1 = 10
  · have e10 : ((z1 : Int) == 10) = true := by simp [h10]
    clear h10
    go_wp2
    go_ret
    exact ⟨rfl, HS.out.trans (HB.out.mono HS.out.size)⟩
  · obtain ⟨hz2, he⟩ := HZ.out h10
    have e10 : ((z1 : Int) == 10) = false := by simp; omega
    subst hz2 he
    clear h10
    go_wp2
    go_ret
    exact ⟨rfl, HS.out.trans (HB.out.mono HS.out.size)⟩
theorem further_walk (v : Value) (p : PProg) (a b : Int) (w : World) (h : ProgAt w v p) (hs : OkP p) (ha0 : 0 ≤ a) (ha : a ≤ 255) (hb0 : 0 ≤ b) (hb : b ≤ 255) (ho : HasO w) : Calls Tryd.prog 5 #[v, .int .u8 a, .int .u8 b] w fun e w' => e = .returned (.bool true) ∧ Below w.heap.size w w' := by
  obtain ⟨vt, vc, rfl, ht, hc⟩ := id h
  have hwb : Below w.heap.size w (w.alloc (.cells (progC vt p vc) 25)) := (Below.refl _ _).alloc (Nat.le_refl _) _
  have HK := keep_new h
  obtain ⟨x, c, rfl, -, -, -⟩ := id ht.elems
  obtain ⟨x', c', rfl, -, -, -⟩ := id hc
  obtain ⟨ka, rfl⟩ : ∃ ka : Nat, a = ka := ⟨a.toNat, by omega⟩
  obtain ⟨kb, rfl⟩ : ∃ kb : Nat, b = kb := ⟨b.toNat, by omega⟩
  have ho' : ∀ {w1}, Below (w.alloc (.cells (progC (.slice x p.types.length c) p (.slice x' p.code.length c')) 25)).heap.size (w.alloc (.cells (progC (.slice x p.types.length c) p (.slice x' p.code.length c')) 25)) w1 → HasO w1 := fun hb1 => (ho.below hwb).below hb1
  have hp' : ∀ {w1}, Below (w.alloc (.cells (progC (.slice x p.types.length c) p (.slice x' p.code.length c')) 25)).heap.size (w.alloc (.cells (progC (.slice x p.types.length c) p (.slice x' p.code.length c')) 25)) w1 → ProgAt w1 _ p := fun hb1 => (h.below hwb).below hb1
  obtain ⟨⟨e, h1⟩, h2⟩ := law_further hs.ins ka kb (by omega)
  refine further_at w _ p ka kb (runL p ka).1 e (runL p ka).2 (runL p (ka + kb : Nat)).2 (fewP p) x x' c c' rfl (Lib.hid HK) (Lib.hid hwb) (Lib.hid fun w1 hb1 => malive_n w1 (ho' hb1)) (Lib.hid fun w1 hb1 => few_b _ p _ w1 (hp' hb1) hs rfl)
    (Lib.hid fun w1 hb1 => run_z _ p w1 ka _ _ (hp' hb1) hs (ho' hb1) (by omega) rfl) (Lib.hid fun w1 hb1 => run_z _ p w1 ((ka : Int) + kb) _ _ (hp' hb1) hs (ho' hb1) (by omega) ?_) (by omega) (by omega) (fun h10 => ?_)
  · rw [show ((ka : Int) + kb) = ((ka + kb : Nat) : Int) by omega, ← h1]
  · have := h2 h10
    refine ⟨by rw [this], ?_⟩
    rw [this] at h1
    have := congrArg List.length h1
    simp at this
    exact this
end Go.Proofs.YtmnoohpkjgjphaaDoor
