/-
  The document's Safe: its contract.
-/
import Derived.Test.YtbpijfncjboamaaDoorFNext
namespace Go.Proofs.YtbpijfncjboamaaDoor
set_option linter.unusedSimpArgs false
set_option linter.unusedVariables false
open Go.RowKit

set_option maxRecDepth 100000 in
set_option maxHeartbeats 4000000 in
theorem rsafe_at (w W0 : World) (p : PProg) (vt' : Value) (bb o k' : Nat) (k : Nat) (op a b c n : Int) (r : Bool)
    (hW0 : W0 = w.alloc (.cells (progC vt' p (.slice (some ⟨bb, o, none⟩) p.code.length k')) 25)) (HS : Hid (Below w.heap.size w W0)) (KP : Hid (blk W0 w.heap.size (progC vt' p (.slice (some ⟨bb, o, none⟩) p.code.length k')) 25))
    (hk : k < p.code.length) (g1 : p.code.length ≤ k') (g2 : k' ≤ 9223372036854775807) (HR : Hid (W0.rangeAt bb (o + k * 5) (insC ⟨op, a, b, c, n⟩).toList))
    (hc : (op = 5 ∧ r = true) ∨ (op = 3 ∧ n ≤ (k : Int) ∧ r = true) ∨ (op = 3 ∧ (k : Int) < n ∧ r = false) ∨ (op = 4 ∧ n ≤ (k : Int) ∧ r = true) ∨ (op = 4 ∧ (k : Int) < n ∧ r = false) ∨ ((op == 5) = false ∧ (op == 3) = false ∧ (op == 4) = false ∧ r = false)) :
    Calls Tryd.prog 13 #[.agg (progC vt' p (.slice (some ⟨bb, o, none⟩) p.code.length k')), .int .i64 k] w (AggPost w (.bool r)) := by
  have p3 := blk_cell KP.out 3 _ rfl
  obtain ⟨d0, d1, d2, d3, d4⟩ : (W0.cell? ⟨bb, o + k * 5, none⟩ = some (.int .u8 op)) ∧ W0.cell? ⟨bb, o + k * 5 + 1, none⟩ = some (.int .u8 a) ∧ W0.cell? ⟨bb, o + k * 5 + 2, none⟩ = some (.int .u8 b) ∧ W0.cell? ⟨bb, o + k * 5 + 3, none⟩ = some (.int .u8 c) ∧ W0.cell? ⟨bb, o + k * 5 + 4, none⟩ = some (.int .i64 n) := ⟨HR.out 0 _ rfl, HR.out 1 _ rfl, HR.out 2 _ rfl, HR.out 3 _ rfl, HR.out 4 _ rfl⟩
  have hki : (k : Int) < (p.code.length : Int) := by omega
  have hk0 : (0 : Int) ≤ (k : Int) := by omega
  have hkn : ¬ ((p.code.length : Int) ≤ (k : Int)) := by omega
  go_enter Tryd.func13, Tryd.ntmps13
  go_upto_region 1 with (fail)
  rw [← hW0]
  clear hW0
  go_upto_region 4 with (fail)
  have HB1 : Hid (Below w.heap.size w (W0.alloc (.cells (insC ⟨op, a, b, c, n⟩) 39))) := Lib.hid (HS.out.trans (((Below.refl _ _).alloc (Nat.le_refl _) _).mono HS.out.size))
  have HI : Hid (blk (W0.alloc (.cells (insC ⟨op, a, b, c, n⟩) 39)) W0.heap.size (insC ⟨op, a, b, c, n⟩) 39) := Lib.hid (blk_new _ _ _)
  obtain ⟨w1, hw1⟩ : ∃ w1, w1 = W0.alloc (.cells (insC ⟨op, a, b, c, n⟩) 39) := ⟨_, rfl⟩
  obtain ⟨I, hI⟩ : ∃ I, I = W0.heap.size := ⟨_, rfl⟩
  rw [← hw1] at HB1 HI ⊢
  rw [← hI] at HI ⊢
  clear hw1 hI p3 d0 d1 d2 d3 d4 KP HS HR
  have e0 : w1.cell? ⟨I, 0, none⟩ = some (.int .u8 op) := blk_cell HI.out 0 _ rfl
  have e4 : w1.cell? ⟨I, 4, none⟩ = some (.int .i64 n) := blk_cell HI.out 4 _ rfl
  rcases hc with ⟨rfl, rfl⟩ | ⟨rfl, h5, rfl⟩ | ⟨rfl, h5, rfl⟩ | ⟨rfl, h5, rfl⟩ | ⟨rfl, h5, rfl⟩ | ⟨h5, h3, h4, rfl⟩
  · go_wp2
    go_ret
    exact ⟨rfl, HB1.out⟩
  · go_wp2
    go_ret
    exact ⟨rfl, HB1.out⟩
  · have h6 : ¬ (n ≤ (k : Int)) := by omega
    go_wp2
    go_ret
    exact ⟨rfl, HB1.out⟩
  · go_wp2
    go_ret
    exact ⟨rfl, HB1.out⟩
  · have h6 : ¬ (n ≤ (k : Int)) := by omega
    go_wp2
    go_ret
    exact ⟨rfl, HB1.out⟩
  · go_wp2
    go_ret
    exact ⟨rfl, HB1.out⟩
set_option maxRecDepth 100000 in
set_option maxHeartbeats 4000000 in
theorem rsafe_bad (w W0 : World) (p : PProg) (vt' : Value) (x' : Option Addr) (k' : Nat) (k : Int)
    (hW0 : W0 = w.alloc (.cells (progC vt' p (.slice x' p.code.length k')) 25)) (HS : Hid (Below w.heap.size w W0)) (KP : Hid (blk W0 w.heap.size (progC vt' p (.slice x' p.code.length k')) 25))
    (hk : k < 0 ∨ (0 ≤ k ∧ (p.code.length : Int) ≤ k)) :
    Calls Tryd.prog 13 #[.agg (progC vt' p (.slice x' p.code.length k')), .int .i64 k] w (AggPost w (.bool false)) := by
  have p3 : W0.cell? ⟨w.heap.size, 3, none⟩ = some (.slice x' p.code.length k') := blk_cell KP.out 3 _ rfl
  go_enter Tryd.func13, Tryd.ntmps13
  go_upto_region 1 with (fail)
  rw [← hW0]
  clear hW0
  rcases hk with hk | ⟨hk0, hk⟩
  · go_wp2
    go_ret
    exact ⟨rfl, HS.out⟩
  · go_wp2
    go_ret
    exact ⟨rfl, HS.out⟩
theorem rsafe_n (v : Value) (p : PProg) (w : World) (k : Int) (r : Bool) (h : ProgAt w v p) (hr : safeV p k = r) : Calls Tryd.prog 13 #[v, .int .i64 k] w (AggPost w (.bool r)) := by
  obtain ⟨vt', vc, rfl, htl, hc⟩ := id h
  obtain ⟨x', kx', rfl, g1, g2, g3⟩ := id hc
  unfold maxLen at g2
  have hwb : Below w.heap.size w (w.alloc (.cells (progC vt' p (.slice x' p.code.length kx')) 25)) := (Below.refl _ _).alloc (Nat.le_refl _) _
  by_cases hk : k < 0 ∨ (p.code.length : Int) ≤ k
  · have : r = false := by
      rw [← hr]; unfold safeV
      rcases Int.lt_or_le k 0 with h0 | h0
      · simp; omega
      · unfold safeL; rw [List.getElem?_eq_none (by omega)]; simp
    rw [this]
    exact rsafe_bad w _ p vt' x' kx' k rfl (Lib.hid hwb) (Lib.hid (blk_new _ _ _)) (by omega)
  · obtain ⟨m, rfl⟩ : ∃ m : Nat, k = m := ⟨k.toNat, by omega⟩
    have hi : p.code[m]? = some (p.code[m]'(by omega)) := List.getElem?_eq_getElem (by omega)
    generalize p.code[m]'(by omega) = i at hi
    obtain ⟨bb, o, rfl, hbb, hrng⟩ := g3 m i hi
    have hr' : r = (decide (i.op = 5) || (decide (i.op = 3) || decide (i.op = 4)) && decide (i.n ≤ (m : Int))) := by
      rw [← hr]; unfold safeV safeL; rw [Int.toNat_natCast, hi]; simp
    obtain ⟨op, a, b, c, n⟩ := i
    simp only at hr'
    refine rsafe_at w _ p vt' bb o kx' m op a b c n r rfl (Lib.hid hwb) (Lib.hid (blk_new _ _ _)) (by omega) g1 (by omega) (Lib.hid (rangeAt_below hrng hbb hwb)) ?_
    by_cases h5 : op = 5
    · exact .inl ⟨h5, by rw [hr']; simp [h5]⟩
    by_cases h3 : op = 3
    · by_cases hn : n ≤ (m : Int)
      · exact .inr (.inl ⟨h3, hn, by rw [hr']; simp [h3, hn]⟩)
      · exact .inr (.inr (.inl ⟨h3, by omega, by rw [hr']; simp [h3, hn]⟩))
    by_cases h4 : op = 4
    · by_cases hn : n ≤ (m : Int)
      · exact .inr (.inr (.inr (.inl ⟨h4, hn, by rw [hr']; simp [h4, hn]⟩)))
      · exact .inr (.inr (.inr (.inr (.inl ⟨h4, by omega, by rw [hr']; simp [h4, hn]⟩))))
    · exact .inr (.inr (.inr (.inr (.inr ⟨by simpa using h5, by simpa using h3, by simpa using h4, by rw [hr']; simp [h3, h4, h5]⟩))))
end Go.Proofs.YtbpijfncjboamaaDoor
