/-
  The program's Next of any place, and Safe.
-/
import Derived.Test.YtapjgobkpehgfaaDoorFPNext
namespace Go.Proofs.YtapjgobkpehgfaaDoor
set_option linter.unusedSimpArgs false
set_option linter.unusedVariables false
open Go.RowKit

set_option maxRecDepth 100000 in
set_option maxHeartbeats 4000000 in
theorem pnext_bad (w W0 : World) (p : PProg) (vt' : Value) (x' : Option Addr) (k' : Nat) (k : Int)
    (hW0 : W0 = w.alloc (.cells (progC vt' p (.slice x' p.code.length k')) 32)) (HS : Hid (Below w.heap.size w W0)) (KP : Hid (blk W0 w.heap.size (progC vt' p (.slice x' p.code.length k')) 32))
    (hk : k < 0 ∨ (0 ≤ k ∧ (p.code.length : Int) ≤ k)) :
    Calls Tryd.prog 31 #[.agg (progC vt' p (.slice x' p.code.length k')), .int .i64 k] w (RowPost w []) := by
  have HIS := Lib.hid (fun w1 => pins_n w1 p vt' x' k' k false (by simp; omega))
  go_enter Tryd.func31, Tryd.ntmps31
  go_upto_region 1 with (fail)
  rw [← hW0]
  clear hW0
  go_wp2_with (first
    | (refine wpList_loadB rfl 32 _ rfl w.heap.size (progC vt' p (.slice x' p.code.length k')) rfl 32 KP.out _ Tryd.underlying32 rfl prog_info ?_)
    | (go_at_call 52; ((with_reducible refine (HIS.out _).mono ?_); rintro e w1 ⟨rfl, hb⟩; have HS1 := Lib.hid (HS.out.trans (hb.mono HS.out.size)); clear hb)))
  go_ret
  exact ⟨_, rfl, World.ownsRow_nil _ _ _ _, HS1.out⟩
theorem pnext_n (v : Value) (p : PProg) (w : World) (k : Int) (h : ProgAt w v p) (hin : InP p) (hlen : p.code.length ≤ 1000000) : Calls Tryd.prog 31 #[v, .int .i64 k] w (RowPost w (nextV p k)) := by
  obtain ⟨vt', vc, rfl, htl, hc⟩ := id h
  obtain ⟨x', kx', rfl, g1, g2, g3⟩ := id hc
  unfold maxLen at g2
  have hwb : Below w.heap.size w (w.alloc (.cells (progC vt' p (.slice x' p.code.length kx')) 32)) := (Below.refl _ _).alloc (Nat.le_refl _) _
  by_cases hk : k < 0 ∨ (p.code.length : Int) ≤ k
  · rw [nextV_none hk]
    exact pnext_bad w _ p vt' x' kx' k rfl (Lib.hid hwb) (Lib.hid (blk_new _ _ _)) (by omega)
  · obtain ⟨m, rfl⟩ : ∃ m : Nat, k = m := ⟨k.toNat, by omega⟩
    have hi : p.code[m]? = some (p.code[m]'(by omega)) := List.getElem?_eq_getElem (by omega)
    generalize p.code[m]'(by omega) = i at hi
    obtain ⟨bb, o, rfl, hbb, hrng⟩ := g3 m i hi
    have hp := hin i (List.mem_of_getElem? hi)
    have hx := nextV_at (q := p) (k := m) hi (fun e => (hp e).1)
    have hrw := rawV_next (i := i) (k := m)
    rw [← hx] at hrw
    have hle : (nextV p (m : Int)).length ≤ (rawV i m).length := by
      rw [hx]; unfold rawV
      by_cases h3 : i.op = 3
      · simp [h3]
      · by_cases h4 : i.op = 4
        · simp only [h4, if_neg (show ¬ (4 : Int) = 3 by decide)]
          split
          · simp
          · split <;> simp
        · simp [h3, h4]
    obtain ⟨op, a, b, c, n⟩ := i
    simp only at hp
    refine pnext_at w _ p vt' bb o kx' m op a b c n rfl (Lib.hid hwb) (Lib.hid (blk_new _ _ _)) (by omega) g1 (by omega) hlen (Nat.lt_of_lt_of_le hbb hwb.size) (Lib.hid (rangeAt_below hrng hbb hwb)) _ (rawV ⟨op, a, b, c, n⟩ m) (Lib.hid hrw) (Lib.hid hle) ?_
    unfold rawV
    by_cases h3 : op = 3
    · exact .inl ⟨h3, (hp (.inl h3)).1, (hp (.inl h3)).2, by simp [h3]⟩
    · by_cases h4 : op = 4
      · exact .inr (.inl ⟨h4, (hp (.inr h4)).1, (hp (.inr h4)).2, by simp [h4]⟩)
      · exact .inr (.inr ⟨h3, h4, by simp [h3, h4]⟩)

/-! ### Safe -/
set_option maxRecDepth 100000 in
set_option maxHeartbeats 8000000 in
theorem psafe_at (w W0 : World) (p : PProg) (vt' : Value) (bb o k' : Nat) (k : Nat) (op a b c n : Int) (r : Bool)
    (hW0 : W0 = w.alloc (.cells (progC vt' p (.slice (some ⟨bb, o, none⟩) p.code.length k')) 32)) (HS : Hid (Below w.heap.size w W0)) (KP : Hid (blk W0 w.heap.size (progC vt' p (.slice (some ⟨bb, o, none⟩) p.code.length k')) 32))
    (hk : k < p.code.length) (g1 : p.code.length ≤ k') (g2 : k' ≤ 9223372036854775807) (hbb : bb < W0.heap.size) (HR : Hid (W0.rangeAt bb (o + k * 5) (insC ⟨op, a, b, c, n⟩).toList)) (jr : Bool)
    (HJ : Hid (∀ w1, Calls Tryd.prog 53 #[.agg (insC ⟨op, a, b, c, n⟩)] w1 (AggPost w1 (.bool jr))))
    (hc : ((op == 5) = true ∧ r = true) ∨ ((op == 5) = false ∧ jr = false ∧ r = false) ∨ ((op == 5) = false ∧ jr = true ∧ n ≤ (k : Int) ∧ r = true) ∨ ((op == 5) = false ∧ jr = true ∧ (k : Int) < n ∧ r = false)) :
    Calls Tryd.prog 50 #[.agg (progC vt' p (.slice (some ⟨bb, o, none⟩) p.code.length k')), .int .i64 k] w (AggPost w (.bool r)) := by
  have hki : (k : Int) < (p.code.length : Int) := by omega
  have hk0 : (0 : Int) ≤ (k : Int) := by omega
  have HIS := Lib.hid (fun w1 => pins_n w1 p vt' (some ⟨bb, o, none⟩) k' (k : Int) true (by simp; omega))
  go_enter Tryd.func50, Tryd.ntmps50
  go_upto_region 1 with (fail)
  rw [← hW0]
  clear hW0
  go_upto_region 3 with (first
    | (refine wpList_loadB rfl 32 _ rfl w.heap.size (progC vt' p (.slice (some ⟨bb, o, none⟩) p.code.length k')) rfl 32 KP.out _ Tryd.underlying32 rfl prog_info ?_)
    | (go_at_call 52; ((with_reducible refine (HIS.out _).mono ?_); rintro e w1 ⟨rfl, hb⟩; have HS1 := Lib.hid (HS.out.trans (hb.mono HS.out.size)); have KP1 := Lib.hid (blk_below KP.out hb); have HR1 := Lib.hid (rangeAt_below HR.out hbb hb); clear hb HS KP HR)))
  have p3 := blk_cell KP1.out 3 _ rfl
  obtain ⟨d0, d1, d2, d3, d4⟩ : (w1.cell? ⟨bb, o + k * 5, none⟩ = some (.int .u8 op)) ∧ w1.cell? ⟨bb, o + k * 5 + 1, none⟩ = some (.int .u8 a) ∧ w1.cell? ⟨bb, o + k * 5 + 2, none⟩ = some (.int .u8 b) ∧ w1.cell? ⟨bb, o + k * 5 + 3, none⟩ = some (.int .u8 c) ∧ w1.cell? ⟨bb, o + k * 5 + 4, none⟩ = some (.int .i64 n) := ⟨HR1.out 0 _ rfl, HR1.out 1 _ rfl, HR1.out 2 _ rfl, HR1.out 3 _ rfl, HR1.out 4 _ rfl⟩
  go_upto_region 4 with (fail)
  have HB2 : Hid (Below w.heap.size w (w1.alloc (.cells (insC ⟨op, a, b, c, n⟩) 29))) := Lib.hid (HS1.out.trans (((Below.refl _ _).alloc (Nat.le_refl _) _).mono HS1.out.size))
  have HI : Hid (blk (w1.alloc (.cells (insC ⟨op, a, b, c, n⟩) 29)) w1.heap.size (insC ⟨op, a, b, c, n⟩) 29) := Lib.hid (blk_new _ _ _)
  obtain ⟨w2, hw2⟩ : ∃ w2, w2 = w1.alloc (.cells (insC ⟨op, a, b, c, n⟩) 29) := ⟨_, rfl⟩
  obtain ⟨I, hI⟩ : ∃ I, I = w1.heap.size := ⟨_, rfl⟩
  rw [← hw2] at HB2 HI ⊢
  rw [← hI] at HI ⊢
  clear hw2 hI p3 d0 d1 d2 d3 d4 HR1 KP1 HS1 HIS
  have e0 : w2.cell? ⟨I, 0, none⟩ = some (.int .u8 op) := blk_cell HI.out 0 _ rfl
  rcases hc with ⟨h5, rfl⟩ | ⟨h5, rfl, rfl⟩ | ⟨h5, rfl, h6, rfl⟩ | ⟨h5, rfl, h6, rfl⟩
  · go_wp2
    go_ret
    exact ⟨rfl, HB2.out⟩
  · go_wp2_with (first
      | (refine wpList_loadBw (by rfl) 29 _ rfl I (insC ⟨op, a, b, c, n⟩) rfl 29 HI.out _ Tryd.underlying29 rfl ins_info ?_)
      | (go_at_call 53; ((with_reducible refine (HJ.out _).mono ?_); rintro e w3 ⟨rfl, hb⟩; have HB3 := Lib.hid (HB2.out.trans (hb.mono HB2.out.size)); have HI3 := Lib.hid (blk_below HI.out hb); clear hb e0; have e4 : w3.cell? ⟨I, 4, none⟩ = some (.int .i64 n) := blk_cell HI3.out 4 _ rfl)))
    go_ret
    exact ⟨rfl, HB3.out⟩
  · go_wp2_with (first
      | (refine wpList_loadBw (by rfl) 29 _ rfl I (insC ⟨op, a, b, c, n⟩) rfl 29 HI.out _ Tryd.underlying29 rfl ins_info ?_)
      | (go_at_call 53; ((with_reducible refine (HJ.out _).mono ?_); rintro e w3 ⟨rfl, hb⟩; have HB3 := Lib.hid (HB2.out.trans (hb.mono HB2.out.size)); have HI3 := Lib.hid (blk_below HI.out hb); clear hb e0; have e4 : w3.cell? ⟨I, 4, none⟩ = some (.int .i64 n) := blk_cell HI3.out 4 _ rfl)))
    go_ret
    exact ⟨rfl, HB3.out⟩
  · have h7 : ¬ (n ≤ (k : Int)) := by omega
    go_wp2_with (first
      | (refine wpList_loadBw (by rfl) 29 _ rfl I (insC ⟨op, a, b, c, n⟩) rfl 29 HI.out _ Tryd.underlying29 rfl ins_info ?_)
      | (go_at_call 53; ((with_reducible refine (HJ.out _).mono ?_); rintro e w3 ⟨rfl, hb⟩; have HB3 := Lib.hid (HB2.out.trans (hb.mono HB2.out.size)); have HI3 := Lib.hid (blk_below HI.out hb); clear hb e0; have e4 : w3.cell? ⟨I, 4, none⟩ = some (.int .i64 n) := blk_cell HI3.out 4 _ rfl)))
    go_ret
    exact ⟨ret_bool (decide_eq_false (by omega)), HB3.out⟩
set_option maxRecDepth 100000 in
set_option maxHeartbeats 4000000 in
theorem psafe_bad (w W0 : World) (p : PProg) (vt' : Value) (x' : Option Addr) (k' : Nat) (k : Int)
    (hW0 : W0 = w.alloc (.cells (progC vt' p (.slice x' p.code.length k')) 32)) (HS : Hid (Below w.heap.size w W0)) (KP : Hid (blk W0 w.heap.size (progC vt' p (.slice x' p.code.length k')) 32))
    (hk : k < 0 ∨ (0 ≤ k ∧ (p.code.length : Int) ≤ k)) :
    Calls Tryd.prog 50 #[.agg (progC vt' p (.slice x' p.code.length k')), .int .i64 k] w (AggPost w (.bool false)) := by
  have HIS := Lib.hid (fun w1 => pins_n w1 p vt' x' k' k false (by simp; omega))
  go_enter Tryd.func50, Tryd.ntmps50
  go_upto_region 1 with (fail)
  rw [← hW0]
  clear hW0
  go_wp2_with (first
    | (refine wpList_loadB rfl 32 _ rfl w.heap.size (progC vt' p (.slice x' p.code.length k')) rfl 32 KP.out _ Tryd.underlying32 rfl prog_info ?_)
    | (go_at_call 52; ((with_reducible refine (HIS.out _).mono ?_); rintro e w1 ⟨rfl, hb⟩; have HS1 := Lib.hid (HS.out.trans (hb.mono HS.out.size)); clear hb)))
  go_ret
  exact ⟨rfl, HS1.out⟩
theorem psafe_n (v : Value) (p : PProg) (w : World) (k : Int) (r : Bool) (h : ProgAt w v p) (hr : safeV p k = r) : Calls Tryd.prog 50 #[v, .int .i64 k] w (AggPost w (.bool r)) := by
  obtain ⟨vt', vc, rfl, htl, hc⟩ := id h
  obtain ⟨x', kx', rfl, g1, g2, g3⟩ := id hc
  unfold maxLen at g2
  have hwb : Below w.heap.size w (w.alloc (.cells (progC vt' p (.slice x' p.code.length kx')) 32)) := (Below.refl _ _).alloc (Nat.le_refl _) _
  by_cases hk : k < 0 ∨ (p.code.length : Int) ≤ k
  · have : r = false := by
      rw [← hr]; unfold safeV
      rcases Int.lt_or_le k 0 with h0 | h0
      · simp; omega
      · unfold safeL; rw [List.getElem?_eq_none (by omega)]; simp
    rw [this]
    exact psafe_bad w _ p vt' x' kx' k rfl (Lib.hid hwb) (Lib.hid (blk_new _ _ _)) (by omega)
  · obtain ⟨m, rfl⟩ : ∃ m : Nat, k = m := ⟨k.toNat, by omega⟩
    have hi : p.code[m]? = some (p.code[m]'(by omega)) := List.getElem?_eq_getElem (by omega)
    generalize p.code[m]'(by omega) = i at hi
    obtain ⟨bb, o, rfl, hbb, hrng⟩ := g3 m i hi
    have hr' : r = (decide (i.op = 5) || (decide (i.op = 3) || decide (i.op = 4)) && decide (i.n ≤ (m : Int))) := by
      rw [← hr]; unfold safeV safeL; rw [Int.toNat_natCast, hi]; simp
    obtain ⟨op, a, b, c, n⟩ := i
    simp only at hr'
    refine psafe_at w _ p vt' bb o kx' m op a b c n r rfl (Lib.hid hwb) (Lib.hid (blk_new _ _ _)) (by omega) g1 (by omega) (Nat.lt_of_lt_of_le hbb hwb.size) (Lib.hid (rangeAt_below hrng hbb hwb)) (decide (op = 3) || decide (op = 4)) (Lib.hid fun w1 => pjumps_n _ w1 _ rfl) ?_
    by_cases h5 : op = 5
    · exact .inl ⟨by simpa using h5, by rw [hr']; simp [h5]⟩
    rcases hj : (decide (op = 3) || decide (op = 4)) with _ | _
    · exact .inr (.inl ⟨by simpa using h5, rfl, by rw [hr', hj]; simp [h5]⟩)
    · by_cases hn : n ≤ (m : Int)
      · exact .inr (.inr (.inl ⟨by simpa using h5, rfl, hn, by rw [hr', hj]; simp [hn]⟩))
      · exact .inr (.inr (.inr ⟨by simpa using h5, rfl, by omega, by rw [hr', hj]; simp [h5, hn]⟩))
end Go.Proofs.YtapjgobkpehgfaaDoor
