/-
  The program's flow: contracts.
  The program's plan: Best, None, Fits and Saved do what they are to do.
-/
import Derived.Test.YtapjgobkpehgfaaDoorFPReach
import Derived.Test.YtapjgobkpehgfaaDoorPLPrgA
import Derived.Test.YtapjgobkpehgfaaDoorJProg
import Derived.Test.YtapjgobkpehgfaaDoorUProg
import Derived.Test.YtapjgobkpehgfaaDoorYProg

/- The program's flow: contracts. -/
namespace Go.Proofs.YtapjgobkpehgfaaDoor
set_option linter.unusedSimpArgs false
set_option linter.unusedVariables false
open Go.RowKit

set_option maxRecDepth 100000 in
set_option maxHeartbeats 4000000 in
theorem preach_bad (w W0 : World) (p : PProg) (vt' : Value) (x' : Option Addr) (k' : Nat) (k : Int)
    (hW0 : W0 = w.alloc (.cells (progC vt' p (.slice x' p.code.length k')) 32)) (HS : Hid (Below w.heap.size w W0)) (KP : Hid (blk W0 w.heap.size (progC vt' p (.slice x' p.code.length k')) 32))
    (hk : ¬ (0 ≤ k ∧ k ≤ (p.code.length : Int))) :
    Calls Tryd.prog 33 #[.agg (progC vt' p (.slice x' p.code.length k')), .int .i64 k] w (BoolsPost w []) := by
  have HIS := Lib.hid (fun w1 => pplace_n w1 p vt' x' k' k false (decide_eq_false hk))
  go_enter Tryd.func33, Tryd.ntmps33
  go_upto_region 1 with (fail)
  rw [← hW0]
  clear hW0
  go_wp2_with (first
    | (refine wpList_loadB rfl 32 _ rfl w.heap.size (progC vt' p (.slice x' p.code.length k')) rfl 32 KP.out _ Tryd.underlying32 rfl prog_info ?_)
    | (go_at_call 32; ((with_reducible refine (HIS.out _).mono ?_); rintro e w1 ⟨rfl, hb⟩; have HS1 := Lib.hid (HS.out.trans (hb.mono HS.out.size)); clear hb)))
  go_ret
  exact ⟨_, rfl, World.ownsRow_nil _ _ _ _, HS1.out⟩
theorem preach_n (v : Value) (p : PProg) (w : World) (k : Int) (h : ProgAt w v p) (hin : InP p) (hlen : p.code.length ≤ 200) : Calls Tryd.prog 33 #[v, .int .i64 k] w (BoolsPost w (wayV p k)) := by
  obtain ⟨vt', vc, rfl, htl, hc⟩ := id h
  obtain ⟨x', kx', rfl, g1, g2, g3⟩ := id hc
  have hwb : Below w.heap.size w (w.alloc (.cells (progC vt' p (.slice x' p.code.length kx')) 32)) := (Below.refl _ _).alloc (Nat.le_refl _) _
  by_cases hk : 0 ≤ k ∧ k ≤ p.code.length
  · unfold wayV
    rw [if_pos hk]
    obtain ⟨m, rfl⟩ : ∃ m : Nat, k = m := ⟨k.toNat, by omega⟩
    rw [Int.toNat_natCast]
    exact preach_at w _ p vt' x' kx' m rfl (Lib.hid hwb) (Lib.hid (blk_new _ _ _)) (by omega) hlen (Lib.hid hin) (Lib.hid fun w1 k1 hb1 => pnext_n _ p w1 k1 (h.below hb1) hin (by omega))
  · unfold wayV
    rw [if_neg hk]
    exact preach_bad w _ p vt' x' kx' k rfl (Lib.hid hwb) (Lib.hid (blk_new _ _ _)) hk
set_option maxRecDepth 100000 in
set_option maxHeartbeats 4000000 in
theorem ploops_at (w W0 : World) (p : PProg) (vt' : Value) (x' : Option Addr) (k' : Nat) (k : Int) (l : List Bool) (r : Bool)
    (hW0 : W0 = w.alloc (.cells (progC vt' p (.slice x' p.code.length k')) 32)) (HS : Hid (Below w.heap.size w W0)) (KP : Hid (blk W0 w.heap.size (progC vt' p (.slice x' p.code.length k')) 32))
    (HR : Hid (∀ w1, Below w.heap.size w w1 → Calls Tryd.prog 33 #[.agg (progC vt' p (.slice x' p.code.length k')), .int .i64 k] w1 (BoolsPost w1 l))) (hl : l.length ≤ 1000000)
    (hk : (¬ (0 ≤ k ∧ k ≤ (p.code.length : Int)) ∧ r = false) ∨ ∃ m : Nat, k = m ∧ m ≤ p.code.length ∧ m < l.length ∧ l.getD m false = r) :
    Calls Tryd.prog 19 #[.agg (progC vt' p (.slice x' p.code.length k')), .int .i64 k] w (AggPost w (.bool r)) := by
  rcases hk with ⟨hk, rfl⟩ | ⟨m, rfl, hmp, hm, hr⟩
  · have HIS := Lib.hid (fun w1 => pplace_n w1 p vt' x' k' k false (decide_eq_false hk))
    clear hk
    go_enter Tryd.func19, Tryd.ntmps19
    go_upto_region 1 with (fail)
    rw [← hW0]
    clear hW0
    go_wp2_with (first
      | (refine wpList_loadB rfl 32 _ rfl w.heap.size (progC vt' p (.slice x' p.code.length k')) rfl 32 KP.out _ Tryd.underlying32 rfl prog_info ?_)
      | (go_at_call 32; ((with_reducible refine (HIS.out _).mono ?_); rintro e w1 ⟨rfl, hb⟩; have HS1 := Lib.hid (HS.out.trans (hb.mono HS.out.size)); clear hb)))
    go_ret
    exact ⟨rfl, HS1.out⟩
  · have HIS := Lib.hid (fun w1 => pplace_n w1 p vt' x' k' (m : Int) true (by simp; omega))
    have hmi : (m : Int) < (l.length : Int) := by omega
    have hm0 : (0 : Int) ≤ (m : Int) := by omega
    go_enter Tryd.func19, Tryd.ntmps19
    go_upto_region 1 with (fail)
    rw [← hW0]
    clear hW0
    have HC : Hid (∀ (w2 : World) (B : Nat) (v2 : Value), w2.ownsRow B 4 1 v2 l.length (boolsV l) → ∃ g cp, v2 = .slice (some ⟨g, 0, none⟩) l.length cp ∧ w2.cell? ⟨g, m, none⟩ = some (.bool r)) := Lib.hid (by
      intro w2 B v2 ho
      rcases ho.2 with ⟨hv, hz⟩ | ⟨g, cp, cr, hv, hbz, hg, h3, h4, h5, h6⟩
      · omega
      · refine ⟨g, cp, hv, ?_⟩
        have e : (boolsV l)[m]? = some (.bool r) := by
          have e1 : l[m]? = some (l.getD m false) := by rw [List.getD_eq_getElem?_getD, List.getElem?_eq_getElem hm]; rfl
          rw [List.getElem?_map, e1, hr]; rfl
        rw [Nat.mul_one] at h6
        rw [← h6, List.getElem?_take, if_pos hm] at e
        refine blk_cell hg m _ ?_
        rw [← Array.getElem?_toList]; exact e)
    clear hr
    go_wp2_with (first
      | (refine wpList_loadB rfl 32 _ rfl w.heap.size (progC vt' p (.slice x' p.code.length k')) rfl 32 KP.out _ Tryd.underlying32 rfl prog_info ?_)
      | (refine wpList_loadBw (by rfl) 32 _ rfl w.heap.size (progC vt' p (.slice x' p.code.length k')) rfl 32 KP1.out _ Tryd.underlying32 rfl prog_info ?_)
      | (go_at_call 32; ((with_reducible refine (HIS.out _).mono ?_); rintro e w1 ⟨rfl, hb⟩; have HS1 := Lib.hid (HS.out.trans (hb.mono HS.out.size)); have KP1 := Lib.hid (blk_below KP.out hb); clear hb))
      | (go_at_call 33; refine (HR.out _ HS1.out).mono ?_; rintro e1 w2 ⟨v2, rfl, ho, hb⟩; have HB := Lib.hid (HS1.out.trans (hb.mono HS1.out.size)); obtain ⟨g, cp, hv, cm⟩ := HC.out _ _ _ ho; subst hv; clear ho hb))
    go_ret
    exact ⟨rfl, HB.out⟩
theorem ploops_n (v : Value) (p : PProg) (w : World) (k : Int) (r : Bool) (h : ProgAt w v p) (hin : InP p) (hlen : p.code.length ≤ 200) (hr : loopV p k = r) : Calls Tryd.prog 19 #[v, .int .i64 k] w (AggPost w (.bool r)) := by
  obtain ⟨vt', vc, rfl, htl, hc⟩ := id h
  obtain ⟨x', kx', rfl, -, -, -⟩ := id hc
  have hwb : Below w.heap.size w (w.alloc (.cells (progC vt' p (.slice x' p.code.length kx')) 32)) := (Below.refl _ _).alloc (Nat.le_refl _) _
  have hl : (wayV p k).length ≤ 1000000 := by
    by_cases hk : 0 ≤ k ∧ k ≤ p.code.length
    · rw [wayV_len hk]; omega
    · unfold wayV; rw [if_neg hk]; simp
  refine ploops_at w _ p vt' x' kx' k (wayV p k) r rfl (Lib.hid hwb) (Lib.hid (blk_new _ _ _)) (Lib.hid fun w1 hb1 => preach_n _ p w1 k (h.below hb1) hin hlen) hl ?_
  unfold loopV at hr
  by_cases hk : 0 ≤ k ∧ k ≤ (p.code.length : Int)
  · exact .inr ⟨k.toNat, by omega, by omega, by rw [wayV_len hk]; omega, by rw [← hr]; simp [hk.1]⟩
  · have : wayV p k = [] := by unfold wayV; rw [if_neg hk]
    exact .inl ⟨hk, by rw [← hr, this]; simp⟩

theorem floops_n (v : Value) (p : PProg) (w : World) (k : Int) (r : Bool) (h : ProgAt w v p) (_hs : OkP p) (hin : InP p) (hlen : p.code.length ≤ 200) (hr : loopV p k = r) : Calls Tryd.prog 19 #[v, .int .i64 k] w (AggPost w (.bool r)) := ploops_n v p w k r h hin hlen hr
end Go.Proofs.YtapjgobkpehgfaaDoor

/- The program's plan: Best, None, Fits and Saved do what they are to do. -/
namespace Go.Proofs.YtapjgobkpehgfaaDoor
set_option linter.unusedSimpArgs false
set_option linter.unusedVariables false
open Go.RowKit

theorem plnone_o (v : Value) (p : PProg) (w : World) (h : ProgAt w v p) (hs : OkP p) (hO : HasO w) (hc : (checkL p).2 = 0) : Calls Tryd.prog 7 #[v] w (NonePost w p) := by
  obtain ⟨vt', vc, rfl, htl, hcc⟩ := id h
  obtain ⟨x', kx', rfl, g1, g2, g3⟩ := id hcc
  obtain ⟨hh, hl1, hl2, hall, _⟩ := check_ok hc
  have e := check_none hh hl1 hl2 hall
  exact plnone_at w _ p vt' x' kx' rfl (Lib.hid ((Below.refl _ _).alloc (Nat.le_refl _) _)) (Lib.hid (blk_new _ _ _)) hl2 (Lib.hid fun w1 hb => check_n _ p (-1) 0 w1 (h.below hb) hs (hO.below hb) (by rw [e]) (by rw [e]; rfl))
theorem plnone_n (v : Value) (p : PProg) (w : World) (h : ProgAt w v p) (hs : OkP p) (hO : HasO w) (hc : (checkL p).2 = 0) : Calls Tryd.prog 7 #[v] w (FactsPost w (noneL p)) := by
  refine (plnone_o v p w h hs hO hc).mono ?_
  rintro e w' ⟨g, rfl, hg, hr, hb⟩
  exact ⟨_, rfl, none_facts (w := w) hr (check_ok hc).2.2.1, hb⟩
theorem plbest_n (v : Value) (p : PProg) (w : World) (h : ProgAt w v p) (hs : OkP p) (hO : HasO w) (hc : (checkL p).2 = 0) : Calls Tryd.prog 6 #[v] w (FactsPost w (bestL p)) := by
  obtain ⟨vt', vc, rfl, htl, hcc⟩ := id h
  obtain ⟨x', kx', rfl, g1, g2, g3⟩ := id hcc
  unfold maxLen at g2
  obtain ⟨hh, hl1, hl2, hall, _⟩ := check_ok hc
  obtain ⟨bb, o, rfl, hbb, hco⟩ := prog_base h hl1
  have hin := inP_check hc
  refine plbest_at w _ p vt' bb o kx' rfl (Lib.hid ((Below.refl _ _).alloc (Nat.le_refl _) _)) (Lib.hid (blk_new _ _ _)) hl2 g1 (by omega) hbb (Lib.hid hco) (Lib.hid fun i hm h11 => ?_) (Lib.hid fun k => fresh_part.2.lt k)
    (Lib.hid fun w1 hb => plnone_o _ p w1 (h.below hb) hs (hO.below hb) hc) (Lib.hid fun w1 hb => yin_n _ p w1 (h.below hb) hs hin hl2)
    (Lib.hid fun w1 k hb hk => plonce_in w1 _ k (loopL p k) ⟨_, _, _, _, rfl⟩ (Lib.hid fun w2 hb2 => ?_)) (Lib.hid fun w1 k hb hk => ?_) (Lib.hid fun w1 k hb hk => ?_)
  · obtain ⟨_, _, _, hk⟩ := ins_parts (hall i hm)
    obtain ⟨o0, o1, a0, a1, b0, b1, c0, c1, n0, n1⟩ := hs.ins i hm
    have hl : 0 ≤ localI p i.a ∧ sameT (localI p i.b) (toP p.types (localI p i.a) i.n) = true := by unfold kindsB at hk; rw [h11] at hk; simpa using hk
    have hlt := (local_lt hh a0 hl.1).1
    have := (head_parts hh).2.2.1
    omega
  · refine floops_n _ p w2 k (loopL p k) (h.below (hb.trans (hb2.mono hb.size))) hs hin hl2 ?_
    unfold loopV wayV
    rw [if_pos ⟨by omega, by omega⟩]
    simp [loopL]
  · have h9 := jleaks_n _ p w1 k (h.below hb) hs hc
    rw [leakV_nat] at h9
    exact h9
  · have h9 := ufull_n _ p w1 k (h.below hb) hs hc
    rw [lastV_nat hk] at h9
    exact h9
theorem plfits_n (v vl : Value) (p : PProg) (l : List PFact) (w : World) (h : ProgAt w v p) (hs : OkP p) (hO : HasO w) (hc : (checkL p).2 = 0) (hl : FactsAt w vl l) : Calls Tryd.prog 8 #[v, vl] w (AggPost w (.bool (fitsL l (bestL p)))) := by
  obtain ⟨vt', vc, rfl, htl, hcc⟩ := id h
  obtain ⟨x', kx', rfl, g1, g2, g3⟩ := id hcc
  obtain ⟨a, c, rfl, h1, h2⟩ := hl.form
  exact plfits_at w _ p vt' x' kx' a c l rfl (Lib.hid ((Below.refl _ _).alloc (Nat.le_refl _) _)) (Lib.hid (blk_new _ _ _)) (Lib.hid hl) h1 h2 (Lib.hid fun w1 hb => plbest_n _ p w1 (h.below hb) hs (hO.below hb) hc)
end Go.Proofs.YtapjgobkpehgfaaDoor
