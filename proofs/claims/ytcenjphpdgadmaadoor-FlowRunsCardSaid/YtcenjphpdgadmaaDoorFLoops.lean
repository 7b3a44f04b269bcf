/-
  The document's Reach and Loops of any place; the statements' own Sound.
-/
import Derived.Test.YtcenjphpdgadmaaDoorFReach
import Derived.Test.YtcenjphpdgadmaaDoorFSafe
import Derived.Test.YtcenjphpdgadmaaDoorMChk
namespace Go.Proofs.YtcenjphpdgadmaaDoor
set_option linter.unusedSimpArgs false
set_option linter.unusedVariables false
open Go.RowKit

def wayV (q : PProg) (k : Int) : List Bool := if 0 ≤ k ∧ k ≤ q.code.length then wayL q k.toNat else []
def loopV (q : PProg) (k : Int) : Bool := (wayV q k).getD k.toNat false && decide (0 ≤ k)
def soundB (q : PProg) : Bool := fewP q && decide (q.code.length ≤ 60) && decide ((checkL q).2 = 0)
theorem wayV_len {q : PProg} {k : Int} (h : 0 ≤ k ∧ k ≤ q.code.length) : (wayV q k).length = q.code.length + 1 := by unfold wayV; rw [if_pos h, reach_len]
set_option maxRecDepth 100000 in
set_option maxHeartbeats 4000000 in
theorem rreach_bad (w W0 : World) (p : PProg) (vt' : Value) (x' : Option Addr) (k' : Nat) (k : Int)
    (hW0 : W0 = w.alloc (.cells (progC vt' p (.slice x' p.code.length k')) 25)) (HS : Hid (Below w.heap.size w W0)) (KP : Hid (blk W0 w.heap.size (progC vt' p (.slice x' p.code.length k')) 25))
    (hk : k < 0 ∨ (0 ≤ k ∧ (p.code.length : Int) < k)) :
    Calls Tryd.prog 12 #[.agg (progC vt' p (.slice x' p.code.length k')), .int .i64 k] w (BoolsPost w []) := by
  have p3 : W0.cell? ⟨w.heap.size, 3, none⟩ = some (.slice x' p.code.length k') := blk_cell KP.out 3 _ rfl
  go_enter Tryd.func12, Tryd.ntmps12
  go_upto_region 1 with (fail)
  rw [← hW0]
  clear hW0
  rcases hk with hk | ⟨hk0, hk⟩
  · go_wp2
    go_ret
    exact ⟨_, rfl, World.ownsRow_nil _ _ _ _, HS.out⟩
  · go_wp2
    go_ret
    exact ⟨_, rfl, World.ownsRow_nil _ _ _ _, HS.out⟩
theorem rreach_n (v : Value) (p : PProg) (w : World) (k : Int) (h : ProgAt w v p) (hs : OkP p) (hin : InP p) (hlen : p.code.length ≤ 200) : Calls Tryd.prog 12 #[v, .int .i64 k] w (BoolsPost w (wayV p k)) := by
  obtain ⟨vt', vc, rfl, htl, hc⟩ := id h
  obtain ⟨x', kx', rfl, g1, g2, g3⟩ := id hc
  have hwb : Below w.heap.size w (w.alloc (.cells (progC vt' p (.slice x' p.code.length kx')) 25)) := (Below.refl _ _).alloc (Nat.le_refl _) _
  by_cases hk : 0 ≤ k ∧ k ≤ p.code.length
  · unfold wayV
    rw [if_pos hk]
    obtain ⟨m, rfl⟩ : ∃ m : Nat, k = m := ⟨k.toNat, by omega⟩
    rw [Int.toNat_natCast]
    exact rreach_at w _ p vt' x' kx' m rfl (Lib.hid hwb) (Lib.hid (blk_new _ _ _)) (by omega) hlen (Lib.hid hin) (Lib.hid fun w1 k1 hb1 => rnext_n _ p w1 k1 (h.below hb1) hs hin (by omega))
  · unfold wayV
    rw [if_neg hk]
    exact rreach_bad w _ p vt' x' kx' k rfl (Lib.hid hwb) (Lib.hid (blk_new _ _ _)) (by omega)
set_option maxRecDepth 100000 in
set_option maxHeartbeats 4000000 in
theorem rloops_at (w W0 : World) (p : PProg) (C : Array Value) (k : Int) (l : List Bool) (r : Bool)
    (hW0 : W0 = w.alloc (.cells C 25)) (HS : Hid (Below w.heap.size w W0)) (KP : Hid (blk W0 w.heap.size C 25)) (hC : Hid (C.size = 4))
    (HR : Hid (∀ w1, Below w.heap.size w w1 → Calls Tryd.prog 12 #[.agg C, .int .i64 k] w1 (BoolsPost w1 l))) (hl : l.length ≤ 1000000)
    (hk : (k < 0 ∧ r = false) ∨ (0 ≤ k ∧ l = [] ∧ r = false) ∨ ∃ m : Nat, k = m ∧ m < l.length ∧ l.getD m false = r) :
    Calls Tryd.prog 19 #[.agg C, .int .i64 k] w (AggPost w (.bool r)) := by
  go_enter Tryd.func19, Tryd.ntmps19
  go_upto_region 1 with (fail)
  rw [← hW0]
  clear hW0
  go_upto_region 2 with (first
    | (refine wpList_loadB rfl 25 _ rfl w.heap.size C rfl 25 KP.out _ Tryd.underlying25 rfl (by rw [hC.out]; exact prog_info) ?_)
    | (go_at_call 12; refine (HR.out _ HS.out).mono ?_; rintro e1 w2 ⟨v2, rfl, ho, hb⟩; have HB := Lib.hid (HS.out.trans (hb.mono HS.out.size)); obtain ⟨ad, cap, hv, hc1, hc2⟩ := own_form ho; subst hv; have HO := Lib.hid ho; clear ho hb))
  rcases hk with ⟨hk, rfl⟩ | ⟨hk, rfl, rfl⟩ | ⟨m, rfl, hm, hr⟩
  · have hkn : ¬ (0 ≤ k) := by omega
    go_wp2
    go_ret
    exact ⟨rfl, HB.out⟩
  · have hkn : ¬ (k < 0) := by omega
    go_wp2
    go_ret
    exact ⟨rfl, HB.out⟩
  · have hmi : (m : Int) < (l.length : Int) := by omega
    have hm0 : (0 : Int) ≤ (m : Int) := by omega
    rcases HO.out.2 with ⟨hv, hz⟩ | ⟨g, cp, cr, hv, hbz, hg, h3, h4, h5, h6⟩
    · omega
    · simp only [Value.slice.injEq] at hv
      obtain ⟨rfl, -, rfl⟩ := hv
      have cm : w2.cell? ⟨g, m, none⟩ = some (.bool r) := by
        have e : (boolsV l)[m]? = some (.bool r) := by
          have e1 : l[m]? = some (l.getD m false) := by rw [List.getD_eq_getElem?_getD, List.getElem?_eq_getElem hm]; rfl
          rw [List.getElem?_map, e1, hr]; rfl
        rw [Nat.mul_one] at h6
        rw [← h6, List.getElem?_take, if_pos hm] at e
        refine blk_cell hg m _ ?_
        rw [← Array.getElem?_toList]; exact e
      clear hg h3 h4 h5 h6 hbz hr HO
      rcases r with _ | _
      · go_wp2
        go_ret
        exact ⟨rfl, HB.out⟩
      · go_wp2
        go_ret
        exact ⟨rfl, HB.out⟩
theorem rloops_n (v : Value) (p : PProg) (w : World) (k : Int) (r : Bool) (h : ProgAt w v p) (hs : OkP p) (hin : InP p) (hlen : p.code.length ≤ 200) (hr : loopV p k = r) : Calls Tryd.prog 19 #[v, .int .i64 k] w (AggPost w (.bool r)) := by
  obtain ⟨vt', vc, rfl, htl, hc⟩ := id h
  have hwb : Below w.heap.size w (w.alloc (.cells (progC vt' p vc) 25)) := (Below.refl _ _).alloc (Nat.le_refl _) _
  have hl : (wayV p k).length ≤ 1000000 := by
    by_cases hk : 0 ≤ k ∧ k ≤ p.code.length
    · rw [wayV_len hk]; omega
    · unfold wayV; rw [if_neg hk]; simp
  refine rloops_at w _ p _ k (wayV p k) r rfl (Lib.hid hwb) (Lib.hid (blk_new _ _ _)) (Lib.hid rfl) (Lib.hid fun w1 hb1 => rreach_n _ p w1 k (h.below hb1) hs hin hlen) hl ?_
  unfold loopV at hr
  by_cases h0 : k < 0
  · exact .inl ⟨h0, by rw [← hr]; simp; omega⟩
  by_cases hk : 0 ≤ k ∧ k ≤ p.code.length
  · exact .inr (.inr ⟨k.toNat, by omega, by rw [wayV_len hk]; omega, by rw [← hr]; simp [hk.1]⟩)
  · have : wayV p k = [] := by unfold wayV; rw [if_neg hk]
    exact .inr (.inl ⟨by omega, this, by rw [← hr, this]; simp⟩)
set_option maxRecDepth 100000 in
set_option maxHeartbeats 4000000 in
theorem sound_at (w W0 : World) (p : PProg) (vt' : Value) (x' : Option Addr) (k' : Nat) (f : Bool) (z e : Int) (r : Bool)
    (hW0 : W0 = w.alloc (.cells (progC vt' p (.slice x' p.code.length k')) 25)) (HS : Hid (Below w.heap.size w W0)) (KP : Hid (blk W0 w.heap.size (progC vt' p (.slice x' p.code.length k')) 25))
    (HF : Hid (∀ w1, Below w.heap.size w w1 → Calls Tryd.prog 21 #[.agg (progC vt' p (.slice x' p.code.length k'))] w1 (AggPost w1 (.bool f))))
    (HCK : Hid (∀ w1, Below w.heap.size w w1 → Calls Tryd.prog 22 #[.agg (progC vt' p (.slice x' p.code.length k'))] w1 (ChkPost w1 z e)))
    (hc : (f = false ∧ r = false) ∨ (f = true ∧ 60 < p.code.length ∧ r = false) ∨ (f = true ∧ p.code.length ≤ 60 ∧ (e == 0) = r)) :
    Calls Tryd.prog 10 #[.agg (progC vt' p (.slice x' p.code.length k'))] w (AggPost w (.bool r)) := by
  go_enter Tryd.func10, Tryd.ntmps10
  go_upto_region 1 with (fail)
  rw [← hW0]
  clear hW0
  rcases hc with ⟨rfl, rfl⟩ | ⟨rfl, hl, rfl⟩ | ⟨rfl, hl, he⟩
  · go_wp2_with (first
      | (refine wpList_loadB rfl 25 _ rfl w.heap.size (progC vt' p (.slice x' p.code.length k')) rfl 25 KP.out _ Tryd.underlying25 rfl prog_info ?_)
      | (go_at_call 21; refine (HF.out _ HS.out).mono ?_; rintro e1 w2 ⟨rfl, hb⟩; have HB := Lib.hid (HS.out.trans (hb.mono HS.out.size)); clear hb))
    go_ret
    exact ⟨rfl, HB.out⟩
  · have hli : (60 : Int) < (p.code.length : Int) := by omega
    go_wp2_with (first
      | (refine wpList_loadB rfl 25 _ rfl w.heap.size (progC vt' p (.slice x' p.code.length k')) rfl 25 KP.out _ Tryd.underlying25 rfl prog_info ?_)
      | (go_at_call 21; refine (HF.out _ HS.out).mono ?_; rintro e1 w2 ⟨rfl, hb⟩; have HB := Lib.hid (HS.out.trans (hb.mono HS.out.size)); have p3 : w2.cell? ⟨w.heap.size, 3, none⟩ = some (.slice x' p.code.length k') := blk_cell (blk_below KP.out hb) 3 _ rfl; clear hb))
    go_ret
    exact ⟨rfl, HB.out⟩
  · have hli : ¬ ((60 : Int) < (p.code.length : Int)) := by omega
    go_wp2_with (first
      | (refine wpList_loadB rfl 25 _ rfl w.heap.size (progC vt' p (.slice x' p.code.length k')) rfl 25 KP.out _ Tryd.underlying25 rfl prog_info ?_)
      | (go_at_call 21; refine (HF.out _ HS.out).mono ?_; rintro e1 w2 ⟨rfl, hb⟩; have HB := Lib.hid (HS.out.trans (hb.mono HS.out.size)); have KP := Lib.hid (blk_below KP.out hb); have p3 : w2.cell? ⟨w.heap.size, 3, none⟩ = some (.slice x' p.code.length k') := blk_cell KP.out 3 _ rfl; clear hb)
      | (go_at_call 22; refine (HCK.out _ HB.out).mono ?_; rintro e1 w3 ⟨rfl, hb⟩; have HB := Lib.hid (HB.out.trans (hb.mono HB.out.size)); clear hb))
    go_ret
    exact ⟨by rw [← he]; rfl, HB.out⟩
theorem sound_n (v : Value) (p : PProg) (w : World) (r : Bool) (h : ProgAt w v p) (hs : OkP p) (ht : HasT w) (hr : soundB p = r) : Calls Tryd.prog 10 #[v] w (AggPost w (.bool r)) := by
  obtain ⟨vt', vc, rfl, htl, hc⟩ := id h
  obtain ⟨x', kx', rfl, g1, g2, g3⟩ := id hc
  have hwb : Below w.heap.size w (w.alloc (.cells (progC vt' p (.slice x' p.code.length kx')) 25)) := (Below.refl _ _).alloc (Nat.le_refl _) _
  refine sound_at w _ p vt' x' kx' (fewP p) (checkL p).1 (checkL p).2 r rfl (Lib.hid hwb) (Lib.hid (blk_new _ _ _)) (Lib.hid fun w1 hb1 => few_b _ p _ w1 (h.below hb1) hs rfl) (Lib.hid fun w1 hb1 => rcheck_n _ p _ _ w1 (h.below hb1) hs (ht.below hb1) rfl rfl) ?_
  unfold soundB at hr
  rcases hf : fewP p with _ | _
  · exact .inl ⟨rfl, by rw [← hr, hf]; rfl⟩
  · by_cases hl : p.code.length ≤ 60
    · refine .inr (.inr ⟨rfl, hl, ?_⟩)
      rw [← hr, hf]
      simp only [Bool.true_and, hl, decide_true]
      rw [Bool.eq_iff_iff]; simp
    · exact .inr (.inl ⟨rfl, by omega, by rw [← hr, hf]; simp [hl]⟩)
end Go.Proofs.YtcenjphpdgadmaaDoor
