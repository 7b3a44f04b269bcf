/-
  The document's Reach and Loops: contracts.
  The document's Reach and Loops of any place; the statements' own Sound.
  What the statements want of the program's flow.
-/
import Derived.Test.YtjkpbajojgdooaaDoorVPa
import Derived.Test.YtjkpbajojgdooaaDoorQMem
import Derived.Test.YtjkpbajojgdooaaDoorPNA
import Derived.Deep.LoopGhost
import Derived.Test.YtjkpbajojgdooaaDoorMChk

/- The document's Reach and Loops: contracts. -/
namespace Go.Proofs.YtjkpbajojgdooaaDoor
set_option linter.unusedSimpArgs false
set_option linter.unusedVariables false
open Go.RowKit

abbrev boolsV (l : List Bool) : List Value := l.map Value.bool
abbrev bArr (l : List Bool) : Array Value := (boolsV l).toArray
/-- The world in Reach. -/
structure RcW (w wr : World) (H : Nat) (C : Array Value) (had : List Bool) : Prop where
  below : Below w.heap.size w wr
  prog : blk wr w.heap.size C 25
  hd : blk wr H (bArr had) 4
  hH : w.heap.size < H
theorem RcW.next {w wr w' : World} {H : Nat} {C : Array Value} {had : List Bool} (h : RcW w wr H C had) (hb : Below wr.heap.size wr w') : RcW w w' H C had :=
  ⟨h.below.trans (hb.mono h.below.size), blk_below h.prog hb, blk_below h.hd hb, h.hH⟩
def BoolsPost (w : World) (l : List Bool) (e : Ending) (w' : World) : Prop := ∃ v, e = .returned v ∧ w'.ownsRow w.heap.size 4 1 v l.length (boolsV l) ∧ Below w.heap.size w w'
theorem RcW.post {w wr : World} {H : Nat} {C : Array Value} {had : List Bool} (h : RcW w wr H C had) (hl : had.length ≤ 1000000) : BoolsPost w had (.returned (.slice (some ⟨H, 0, none⟩) had.length had.length)) wr :=
  ⟨_, rfl, ⟨by simp, .inr ⟨H, had.length, bArr had, rfl, by have := h.hH; omega, h.hd, Nat.le_refl _, by unfold maxLen; omega, by simp, by rw [Nat.mul_one]; exact List.take_of_length_le (by simp)⟩⟩, h.below⟩
end Go.Proofs.YtjkpbajojgdooaaDoor

/- The document's Reach and Loops of any place; the statements' own Sound. -/
namespace Go.Proofs.YtjkpbajojgdooaaDoor
set_option linter.unusedSimpArgs false
set_option linter.unusedVariables false
open Go.RowKit

def soundB (q : PProg) : Bool := fewP q && decide (q.code.length ≤ 60) && decide ((checkL q).2 = 0)
set_option maxRecDepth 100000 in
set_option maxHeartbeats 4000000 in
theorem sound_at (w W0 : World) (p : PProg) (vt' : Value) (x' : Option Addr) (k' : Nat) (f : Bool) (z e : Int) (r : Bool)
    (hW0 : W0 = w.alloc (.cells (progC vt' p (.slice x' p.code.length k')) 25)) (HS : Hid (Below w.heap.size w W0)) (KP : Hid (blk W0 w.heap.size (progC vt' p (.slice x' p.code.length k')) 25))
    (HF : Hid (∀ w1, Below w.heap.size w w1 → Calls Tryd.prog 13 #[.agg (progC vt' p (.slice x' p.code.length k'))] w1 (AggPost w1 (.bool f))))
    (HCK : Hid (∀ w1, Below w.heap.size w w1 → Calls Tryd.prog 14 #[.agg (progC vt' p (.slice x' p.code.length k'))] w1 (ChkPost w1 z e)))
    (hc : (f = false ∧ r = false) ∨ (f = true ∧ 60 < p.code.length ∧ r = false) ∨ (f = true ∧ p.code.length ≤ 60 ∧ (e == 0) = r)) :
    Calls Tryd.prog 6 #[.agg (progC vt' p (.slice x' p.code.length k'))] w (AggPost w (.bool r)) := by
  go_enter Tryd.func6, Tryd.ntmps6
  go_upto_region 1 with (fail)
  rw [← hW0]
  clear hW0
  rcases hc with ⟨rfl, rfl⟩ | ⟨rfl, hl, rfl⟩ | ⟨rfl, hl, he⟩
  · go_wp2_with (first
      | (refine wpList_loadB rfl 25 _ rfl w.heap.size (progC vt' p (.slice x' p.code.length k')) rfl 25 KP.out _ Tryd.underlying25 rfl prog_info ?_)
      | (go_at_call 13; refine (HF.out _ HS.out).mono ?_; rintro e1 w2 ⟨rfl, hb⟩; have HB := Lib.hid (HS.out.trans (hb.mono HS.out.size)); clear hb))
    go_ret
    exact ⟨rfl, HB.out⟩
  · have hli : (60 : Int) < (p.code.length : Int) := by omega
    go_wp2_with (first
      | (refine wpList_loadB rfl 25 _ rfl w.heap.size (progC vt' p (.slice x' p.code.length k')) rfl 25 KP.out _ Tryd.underlying25 rfl prog_info ?_)
      | (go_at_call 13; refine (HF.out _ HS.out).mono ?_; rintro e1 w2 ⟨rfl, hb⟩; have HB := Lib.hid (HS.out.trans (hb.mono HS.out.size)); have p3 : w2.cell? ⟨w.heap.size, 3, none⟩ = some (.slice x' p.code.length k') := blk_cell (blk_below KP.out hb) 3 _ rfl; clear hb))
    go_ret
    exact ⟨rfl, HB.out⟩
  · have hli : ¬ ((60 : Int) < (p.code.length : Int)) := by omega
    go_wp2_with (first
      | (refine wpList_loadB rfl 25 _ rfl w.heap.size (progC vt' p (.slice x' p.code.length k')) rfl 25 KP.out _ Tryd.underlying25 rfl prog_info ?_)
      | (go_at_call 13; refine (HF.out _ HS.out).mono ?_; rintro e1 w2 ⟨rfl, hb⟩; have HB := Lib.hid (HS.out.trans (hb.mono HS.out.size)); have KP := Lib.hid (blk_below KP.out hb); have p3 : w2.cell? ⟨w.heap.size, 3, none⟩ = some (.slice x' p.code.length k') := blk_cell KP.out 3 _ rfl; clear hb)
      | (go_at_call 14; refine (HCK.out _ HB.out).mono ?_; rintro e1 w3 ⟨rfl, hb⟩; have HB := Lib.hid (HB.out.trans (hb.mono HB.out.size)); clear hb))
    go_ret
    exact ⟨by rw [← he]; rfl, HB.out⟩
theorem sound_n (v : Value) (p : PProg) (w : World) (r : Bool) (h : ProgAt w v p) (hs : OkP p) (ht : HasT w) (hr : soundB p = r) : Calls Tryd.prog 6 #[v] w (AggPost w (.bool r)) := by
  obtain ⟨vt', vc, rfl, htl, hc⟩ := id h
  obtain ⟨x', kx', rfl, g1, g2, g3⟩ := id hc
  have hwb : Below w.heap.size w (w.alloc (.cells (progC vt' p (.slice x' p.code.length kx')) 25)) := (Below.refl _ _).alloc (Nat.le_refl _) _
  refine sound_at w _ p vt' x' kx' (fewP p) (checkL p).1 (checkL p).2 r rfl (Lib.hid hwb) (Lib.hid (blk_new _ _ _)) (Lib.hid fun w1 hb1 => few_b _ p _ w1 (h.below hb1) hs rfl) (Lib.hid fun w1 hb1 => rcheck_n _ p _ _ w1 (h.below hb1) hs (ht.below hb1) rfl rfl) ?_
  unfold soundB at hr
  rcases hf : fewP p with _ | _
  · exact .inl ⟨rfl, by rw [← hr, hf]; rfl⟩
  · by_cases hl : p.code.length ≤ 60
    · refine .inr (.inr ⟨rfl, hl, ?_⟩)
      rw [← hr, hf]
      simp only [Bool.true_and, hl, decide_true]
      rw [Bool.eq_iff_iff]; simp
    · exact .inr (.inl ⟨rfl, by omega, by rw [← hr, hf]; simp [hl]⟩)
end Go.Proofs.YtjkpbajojgdooaaDoor

/- What the statements want of the program's flow. -/
namespace Go.Proofs.YtjkpbajojgdooaaDoor
set_option linter.unusedSimpArgs false
set_option linter.unusedVariables false
open Go.RowKit

/-- A row of numbers: its value, and its cells. -/
theorem rowA_form {w : World} {v : Value} {l : List Int} (h : RowAt w v (i64s l)) : ∃ a c, v = .slice a l.length c ∧ l.length ≤ c ∧ c ≤ 9223372036854775807 ∧ ∀ j x, l[j]? = some x → ∃ b o, a = some ⟨b, o, none⟩ ∧ b < w.heap.size ∧ w.cell? ⟨b, o + j, none⟩ = some (.int .i64 x) := by
  obtain ⟨a, c, rfl, h1, h2, h3⟩ := h
  unfold maxLen at h2
  have hl : (i64s l).length = l.length := by simp
  rw [hl] at h1 ⊢
  refine ⟨a, c, rfl, h1, by omega, fun j x hx => ?_⟩
  rcases h3 with h3 | ⟨b, o, rfl, hb, hc⟩
  · have : l = [] := by simpa using h3
    rw [this] at hx; simp at hx
  · exact ⟨b, o, rfl, hb, hc j _ (i64s_get hx)⟩
/-- An instruction of a program that lies somewhere. -/
theorem prog_ins {w : World} {p : PProg} {vt : Value} {x' : Option Addr} {kx' : Nat} (h : ProgAt w (.agg (progC vt p (.slice x' p.code.length kx'))) p) {m : Nat} {i : PIns} (hi : p.code[m]? = some i) : ∃ bb o, x' = some ⟨bb, o, none⟩ ∧ bb < w.heap.size ∧ w.rangeAt bb (o + m * 5) (insC i).toList := by
  obtain ⟨vt1, vc1, e1, -, hc⟩ := h
  simp only [progC, Value.agg.injEq, Array.mk.injEq, List.cons.injEq, and_true] at e1
  obtain ⟨-, -, -, e4⟩ := e1
  obtain ⟨x1, k1, e5, -, -, g3⟩ := hc
  rw [← e4] at e5
  simp only [Value.slice.injEq] at e5
  obtain ⟨rfl, -, -⟩ := e5
  exact g3 m i hi
theorem sound_parts {p : PProg} (h : soundB p = true) : fewP p = true ∧ p.code.length ≤ 60 ∧ (checkL p).2 = 0 ∧ InP p ∧ 1 ≤ p.code.length := by
  unfold soundB at h
  simp only [Bool.and_eq_true, decide_eq_true_eq] at h
  exact ⟨h.1.1, h.1.2, h.2, inP_check h.2, (check_ok h.2).2.1⟩
end Go.Proofs.YtjkpbajojgdooaaDoor
