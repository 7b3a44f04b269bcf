/-
  The document's Next and Safe: contracts.
-/
import Derived.Test.YtapjgobkpehgfaaGreatDoorUAH
import Derived.Test.YtapjgobkpehgfaaGreatDoorUAQ
namespace Go.Proofs.YtapjgobkpehgfaaGreatDoor
set_option linter.unusedSimpArgs false
set_option linter.unusedVariables false
open Go.RowKit

def nextV (q : PProg) (k : Int) : List Int := if 0 ≤ k then (nextL q k.toNat).map (fun n : Nat => (n : Int)) else []
def safeV (q : PProg) (k : Int) : Bool := decide (0 ≤ k) && safeL q k.toNat
def RowPost (w : World) (l : List Int) (e : Ending) (w' : World) : Prop := ∃ v, e = .returned v ∧ w'.ownsRow w.heap.size 3 1 v l.length (i64s l) ∧ Below w.heap.size w w'
theorem own_new (w : World) {B : Nat} (l : List Int) (t : TypeId) (hB : B ≤ w.heap.size) (h : l.length ≤ 1000000) : (w.alloc (.cells (i64s l).toArray t)).ownsRow B t 1 (.slice (some ⟨w.heap.size, 0, none⟩) l.length l.length) l.length (i64s l) :=
  ⟨by simp, .inr ⟨w.heap.size, l.length, (i64s l).toArray, rfl, hB, blk_new _ _ _, Nat.le_refl _, by unfold maxLen; omega, by simp, by rw [Nat.mul_one]; exact List.take_of_length_le (by simp)⟩⟩
theorem nextV_at {q : PProg} {k : Nat} {i : PIns} (hi : q.code[k]? = some i) (hp : i.op = 3 ∨ i.op = 4 → 0 ≤ i.n) : nextV q k = (if i.op = 3 then [i.n] else if i.op = 4 ∧ i.n < (k : Int) + 1 then [i.n, (k : Int) + 1] else if i.op = 4 ∧ (k : Int) + 1 < i.n then [(k : Int) + 1, i.n] else [(k : Int) + 1]) := by
  unfold nextV
  rw [if_pos (by omega), Int.toNat_natCast, next_form hi hp]
  by_cases h3 : i.op = 3
  · have := hp (.inl h3)
    rw [if_pos h3, if_pos h3]; simp; omega
  · by_cases h4 : i.op = 4
    · have := hp (.inr h4)
      by_cases h5 : i.n < (k : Int) + 1
      · simp [h4, h5]; omega
      · by_cases h6 : (k : Int) + 1 < i.n
        · simp [h4, h5, h6]; omega
        · simp [h4, h5, h6]
    · simp [h3, h4]
theorem nextV_none {q : PProg} {k : Int} (h : k < 0 ∨ (q.code.length : Int) ≤ k) : nextV q k = [] := by
  unfold nextV
  split
  · unfold nextL; rw [List.getElem?_eq_none (by omega)]; rfl
  · rfl
set_option maxRecDepth 100000 in
set_option maxHeartbeats 4000000 in
theorem rnext_at (w W0 : World) (p : PProg) (vt' : Value) (bb o k' : Nat) (k : Nat) (op a b c n : Int)
    (hW0 : W0 = w.alloc (.cells (progC vt' p (.slice (some ⟨bb, o, none⟩) p.code.length k')) 25)) (HS : Hid (Below w.heap.size w W0)) (KP : Hid (blk W0 w.heap.size (progC vt' p (.slice (some ⟨bb, o, none⟩) p.code.length k')) 25))
    (hk : k < p.code.length) (g1 : p.code.length ≤ k') (g2 : k' ≤ 9223372036854775807) (hlen : p.code.length ≤ 1000000) (HR : Hid (W0.rangeAt bb (o + k * 5) (insC ⟨op, a, b, c, n⟩).toList)) (l : List Int)
    (hc : (op = 3 ∧ l = [n]) ∨ ((op == 3) = false ∧ op = 4 ∧ n < (k : Int) + 1 ∧ l = [n, (k : Int) + 1]) ∨ ((op == 3) = false ∧ op = 4 ∧ (k : Int) + 1 < n ∧ l = [(k : Int) + 1, n]) ∨ ((op == 3) = false ∧ op = 4 ∧ n = (k : Int) + 1 ∧ l = [(k : Int) + 1]) ∨ ((op == 3) = false ∧ (op == 4) = false ∧ l = [(k : Int) + 1])) :
    Calls Tryz.prog 56 #[.agg (progC vt' p (.slice (some ⟨bb, o, none⟩) p.code.length k')), .int .i64 k] w (RowPost w l) := by
  have p3 := blk_cell KP.out 3 _ rfl
  obtain ⟨d0, d1, d2, d3, d4⟩ : (W0.cell? ⟨bb, o + k * 5, none⟩ = some (.int .u8 op)) ∧ W0.cell? ⟨bb, o + k * 5 + 1, none⟩ = some (.int .u8 a) ∧ W0.cell? ⟨bb, o + k * 5 + 2, none⟩ = some (.int .u8 b) ∧ W0.cell? ⟨bb, o + k * 5 + 3, none⟩ = some (.int .u8 c) ∧ W0.cell? ⟨bb, o + k * 5 + 4, none⟩ = some (.int .i64 n) := ⟨HR.out 0 _ rfl, HR.out 1 _ rfl, HR.out 2 _ rfl, HR.out 3 _ rfl, HR.out 4 _ rfl⟩
  have hki : (k : Int) < (p.code.length : Int) := by omega
  have hk0 : (0 : Int) ≤ (k : Int) := by omega
  have hkn : ¬ ((p.code.length : Int) ≤ (k : Int)) := by omega
  go_enter Tryz.func56, Tryz.ntmps56
  go_upto_region 1 with (fail)
  rw [← hW0]
  clear hW0
  go_upto_region 4 with (fail)
  have HB1 : Hid (Below w.heap.size w (W0.alloc (.cells (insC ⟨op, a, b, c, n⟩) 46))) := Lib.hid (HS.out.trans (((Below.refl _ _).alloc (Nat.le_refl _) _).mono HS.out.size))
  have HI : Hid (blk (W0.alloc (.cells (insC ⟨op, a, b, c, n⟩) 46)) W0.heap.size (insC ⟨op, a, b, c, n⟩) 46) := Lib.hid (blk_new _ _ _)
  obtain ⟨w1, hw1⟩ : ∃ w1, w1 = W0.alloc (.cells (insC ⟨op, a, b, c, n⟩) 46) := ⟨_, rfl⟩
  obtain ⟨I, hI⟩ : ∃ I, I = W0.heap.size := ⟨_, rfl⟩
  rw [← hw1] at HB1 HI ⊢
  rw [← hI] at HI ⊢
  clear hw1 hI p3 d0 d1 d2 d3 d4 KP HS HR
  have e0 : w1.cell? ⟨I, 0, none⟩ = some (.int .u8 op) := blk_cell HI.out 0 _ rfl
  have e4 : w1.cell? ⟨I, 4, none⟩ = some (.int .i64 n) := blk_cell HI.out 4 _ rfl
  rcases hc with ⟨rfl, rfl⟩ | ⟨h3, rfl, h5, rfl⟩ | ⟨h3, rfl, h5, rfl⟩ | ⟨h3, rfl, rfl, rfl⟩ | ⟨h3, h4, rfl⟩
  · go_wp2
    go_ret
    exact ⟨_, rfl, own_new w1 [n] 3 HB1.out.size (by simp), HB1.out.trans (((Below.refl _ _).alloc (Nat.le_refl _) _).mono HB1.out.size)⟩
  · go_wp2
    go_ret
    exact ⟨_, rfl, own_new w1 [n, (k : Int) + 1] 3 HB1.out.size (by simp), HB1.out.trans (((Below.refl _ _).alloc (Nat.le_refl _) _).mono HB1.out.size)⟩
  · have h6 : ¬ (n < (k : Int) + 1) := by omega
    go_wp2
    go_ret
    exact ⟨_, rfl, own_new w1 [(k : Int) + 1, n] 3 HB1.out.size (by simp), HB1.out.trans (((Below.refl _ _).alloc (Nat.le_refl _) _).mono HB1.out.size)⟩
  · go_wp2
    go_ret
    exact ⟨_, rfl, own_new w1 [(k : Int) + 1] 3 HB1.out.size (by simp), HB1.out.trans (((Below.refl _ _).alloc (Nat.le_refl _) _).mono HB1.out.size)⟩
  · go_wp2
    go_ret
    exact ⟨_, rfl, own_new w1 [(k : Int) + 1] 3 HB1.out.size (by simp), HB1.out.trans (((Below.refl _ _).alloc (Nat.le_refl _) _).mono HB1.out.size)⟩
set_option maxRecDepth 100000 in
set_option maxHeartbeats 4000000 in
theorem rnext_bad (w W0 : World) (p : PProg) (vt' : Value) (x' : Option Addr) (k' : Nat) (k : Int)
    (hW0 : W0 = w.alloc (.cells (progC vt' p (.slice x' p.code.length k')) 25)) (HS : Hid (Below w.heap.size w W0)) (KP : Hid (blk W0 w.heap.size (progC vt' p (.slice x' p.code.length k')) 25))
    (hk : k < 0 ∨ (0 ≤ k ∧ (p.code.length : Int) ≤ k)) :
    Calls Tryz.prog 56 #[.agg (progC vt' p (.slice x' p.code.length k')), .int .i64 k] w (RowPost w []) := by
  have p3 : W0.cell? ⟨w.heap.size, 3, none⟩ = some (.slice x' p.code.length k') := blk_cell KP.out 3 _ rfl
  go_enter Tryz.func56, Tryz.ntmps56
  go_upto_region 1 with (fail)
  rw [← hW0]
  clear hW0
  rcases hk with hk | ⟨hk0, hk⟩
  · go_wp2
    go_ret
    exact ⟨_, rfl, World.ownsRow_nil _ _ _ _, HS.out⟩
  · go_wp2
    go_ret
    exact ⟨_, rfl, World.ownsRow_nil _ _ _ _, HS.out⟩
theorem rnext_n (v : Value) (p : PProg) (w : World) (k : Int) (h : ProgAt w v p) (hs : OkP p) (hin : InP p) (hlen : p.code.length ≤ 1000000) : Calls Tryz.prog 56 #[v, .int .i64 k] w (RowPost w (nextV p k)) := by
  obtain ⟨vt', vc, rfl, htl, hc⟩ := id h
  obtain ⟨x', kx', rfl, g1, g2, g3⟩ := id hc
  unfold maxLen at g2
  have hwb : Below w.heap.size w (w.alloc (.cells (progC vt' p (.slice x' p.code.length kx')) 25)) := (Below.refl _ _).alloc (Nat.le_refl _) _
  by_cases hk : k < 0 ∨ (p.code.length : Int) ≤ k
  · rw [nextV_none hk]
    exact rnext_bad w _ p vt' x' kx' k rfl (Lib.hid hwb) (Lib.hid (blk_new _ _ _)) (by omega)
  · obtain ⟨m, rfl⟩ : ∃ m : Nat, k = m := ⟨k.toNat, by omega⟩
    have hi : p.code[m]? = some (p.code[m]'(by omega)) := List.getElem?_eq_getElem (by omega)
    generalize p.code[m]'(by omega) = i at hi
    obtain ⟨bb, o, rfl, hbb, hrng⟩ := g3 m i hi
    have hp := hin i (List.mem_of_getElem? hi)
    rw [nextV_at hi (fun e => (hp e).1)]
    obtain ⟨op, a, b, c, n⟩ := i
    simp only at hp
    refine rnext_at w _ p vt' bb o kx' m op a b c n rfl (Lib.hid hwb) (Lib.hid (blk_new _ _ _)) (by omega) g1 (by omega) hlen (Lib.hid (rangeAt_below hrng hbb hwb)) _ ?_
    simp only
    by_cases h3 : op = 3
    · exact .inl ⟨h3, by rw [if_pos h3]⟩
    · have q3 : (op == 3) = false := by simpa using h3
      by_cases h4 : op = 4
      · by_cases h5 : n < (m : Int) + 1
        · exact .inr (.inl ⟨q3, h4, h5, by rw [if_neg h3, if_pos ⟨h4, h5⟩]⟩)
        · by_cases h6 : (m : Int) + 1 < n
          · exact .inr (.inr (.inl ⟨q3, h4, h6, by rw [if_neg h3, if_neg (fun h => h5 h.2), if_pos ⟨h4, h6⟩]⟩))
          · exact .inr (.inr (.inr (.inl ⟨q3, h4, by omega, by rw [if_neg h3, if_neg (fun h => h5 h.2), if_neg (fun h => h6 h.2)]⟩)))
      · exact .inr (.inr (.inr (.inr ⟨q3, by simpa using h4, by rw [if_neg h3, if_neg (fun h => h4 h.1), if_neg (fun h => h4 h.1)]⟩)))
end Go.Proofs.YtapjgobkpehgfaaGreatDoor
