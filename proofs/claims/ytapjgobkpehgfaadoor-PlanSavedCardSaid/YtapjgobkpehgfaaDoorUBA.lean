/-
  The document's Reach and Loops of any place; the statements' own Sound.
  What the statements want of the program's flow.
  Bits of bytes: what the machine makes of them; the document's bit, Uses and Sets.
  The document's In: its contract.
  What May answers, wherever it lies: a row of rows of truths.
-/
import Derived.Test.YtapjgobkpehgfaaDoorUAX
import Derived.Test.YtapjgobkpehgfaaDoorFNext
import Derived.Test.YtapjgobkpehgfaaDoorMChk
import Derived.Test.YtapjgobkpehgfaaDoorVPure
import Derived.Test.YtapjgobkpehgfaaDoorUAU
import Derived.Test.YtapjgobkpehgfaaDoorUAV
import Derived.Laws.BitsLemmas
import Derived.Deep.RegionHeld3
import Derived.Deep.CutRange
import Derived.Deep.QuietTactic
import Derived.Laws.IdiomCopy
import Derived.StillTailTactics
import Derived.ChangeKeysEq
import Derived.Lib.SliceRun
import Derived.Deep.LoopGhost
import Derived.Test.YtapjgobkpehgfaaDoorUAB
import Derived.Test.YtapjgobkpehgfaaDoorUAQ

/- The document's Reach and Loops of any place; the statements' own Sound. -/
namespace Go.Proofs.YtapjgobkpehgfaaDoor
set_option linter.unusedSimpArgs false
set_option linter.unusedVariables false
open Go.RowKit

def wayV (q : PProg) (k : Int) : List Bool := if 0 ≤ k ∧ k ≤ q.code.length then wayL q k.toNat else []
def loopV (q : PProg) (k : Int) : Bool := (wayV q k).getD k.toNat false && decide (0 ≤ k)
theorem wayV_len {q : PProg} {k : Int} (h : 0 ≤ k ∧ k ≤ q.code.length) : (wayV q k).length = q.code.length + 1 := by unfold wayV; rw [if_pos h, reach_len]
end Go.Proofs.YtapjgobkpehgfaaDoor

/- What the statements want of the program's flow. -/
namespace Go.Proofs.YtapjgobkpehgfaaDoor
set_option linter.unusedSimpArgs false
set_option linter.unusedVariables false
open Go.RowKit

/-- An instruction of a program that lies somewhere. -/
theorem prog_ins {w : World} {p : PProg} {vt : Value} {x' : Option Addr} {kx' : Nat} (h : ProgAt w (.agg (progC vt p (.slice x' p.code.length kx'))) p) {m : Nat} {i : PIns} (hi : p.code[m]? = some i) : ∃ bb o, x' = some ⟨bb, o, none⟩ ∧ bb < w.heap.size ∧ w.rangeAt bb (o + m * 5) (insC i).toList := by
  obtain ⟨vt1, vc1, e1, -, hc⟩ := h
  simp only [progC, Value.agg.injEq, Array.mk.injEq, List.cons.injEq, and_true] at e1
  obtain ⟨-, -, -, e4⟩ := e1
  obtain ⟨x1, k1, e5, -, -, g3⟩ := hc
  rw [← e4] at e5
  simp only [Value.slice.injEq] at e5
  obtain ⟨rfl, -, -⟩ := e5
  exact g3 m i hi
theorem wayV_at {q : PProg} {k : Nat} (h : k ≤ q.code.length) : wayV q k = wayL q k := by unfold wayV; rw [if_pos ⟨by omega, by omega⟩, Int.toNat_natCast]
theorem wayV_n {q : PProg} {k : Nat} (h : k ≤ q.code.length) : (wayV q k).length = q.code.length + 1 := wayV_len ⟨by omega, by omega⟩
end Go.Proofs.YtapjgobkpehgfaaDoor

/- Bits of bytes: what the machine makes of them; the document's bit, Uses and Sets. -/
namespace Go.Proofs.YtapjgobkpehgfaaDoor
set_option linter.unusedSimpArgs false
set_option linter.unusedVariables false
open Go.RowKit

theorem or_u8 {a b : Nat} (ha : a < 256) (hb : b < 256) : bits .or .u8 (a : Int) (b : Int) = ((a ||| b : Nat) : Int) :=
  (bits_nat .u8 8 (Nat.le_refl _) (fun n h0 h1 => wraps_u8 n h0 h1) a b ha hb).2
theorem but_u8 {a b : Nat} (ha : a < 256) (hb : b < 256) : bits .andNot .u8 (a : Int) (b : Int) = ((butN a b : Nat) : Int) := by
  have h1 : (BitVec.ofNat 8 a &&& ~~~(BitVec.ofNat 8 b)).toNat = butN a b := by
    refine eq_bits fun k => ?_
    rw [testBit_but, BitVec.toNat_and, Nat.testBit_and, BitVec.toNat_not, BitVec.toNat_ofNat, BitVec.toNat_ofNat, Nat.mod_eq_of_lt ha, Nat.mod_eq_of_lt hb]
    rcases Nat.lt_or_ge k 8 with h8 | h8
    · rw [show 2 ^ 8 - 1 - b = 2 ^ 8 - (b + 1) by omega, Nat.testBit_two_pow_sub_succ (show b < 2 ^ 8 from hb)]
      simp [h8]
    · rw [testBit_hi ha h8]; rfl
  show IntKind.u8.wrap ((BitVec.ofInt 8 (a : Int) &&& ~~~(BitVec.ofInt 8 (b : Int))).toNat : Int) = _
  rw [BitVec.ofInt_natCast, BitVec.ofInt_natCast, h1]
  exact wraps_u8 _ (Int.natCast_nonneg _) (by have := but_lt b ha; have e : (2 : Int) ^ 8 = 256 := by decide
                                              rw [e]; omega)
abbrev u8s (xs : List Nat) : List Value := xs.map (fun n : Nat => Value.int .u8 (n : Int))
theorem u8s_get {xs : List Nat} {k : Nat} (h : k < xs.length) : (u8s xs)[k]? = some (.int .u8 ((xs.getD k 0 : Nat) : Int)) := by
  rw [List.getElem?_map, List.getD_eq_getElem?_getD, List.getElem?_eq_getElem h]; rfl

end Go.Proofs.YtapjgobkpehgfaaDoor

/- The document's In: its contract. -/
namespace Go.Proofs.YtapjgobkpehgfaaDoor
set_option linter.unusedSimpArgs false
set_option linter.unusedVariables false
open Go.RowKit

abbrev u8Arr (l : List Nat) : Array Value := (u8s l).toArray
theorem infoU8 : (Tryd.prog.info? 5).map (fun i => (i.zero, i.size, i.bytes)) = some (some (.int .u8 0), 1, 1) := by kernel_rfl
theorem u8Arr_get {l : List Nat} {k : Nat} (h : k < l.length) : (u8Arr l)[k]? = some (.int .u8 ((l.getD k 0 : Nat) : Int)) := by
  show ((u8s l).toArray)[k]? = _
  rw [List.getElem?_toArray, u8s_get h]
theorem u8Arr_set (l : List Nat) (k v : Nat) : (u8Arr l).setIfInBounds k (.int .u8 (v : Int)) = u8Arr (l.set k v) := by simp [u8s]
theorem u8Arr_zeros (n : Nat) : madeCells #[.int .u8 0] n = u8Arr (List.replicate n 0) := by
  rw [made_rep]
  apply Array.ext'
  simp
/-- The world in In. -/
structure LvW (w wr : World) (H : Nat) (C : Array Value) (out : List Nat) : Prop where
  below : Below w.heap.size w wr
  prog : blk wr w.heap.size C 32
  ar : blk wr H (u8Arr out) 5
  hH : w.heap.size < H
theorem LvW.next {w wr w' : World} {H : Nat} {C : Array Value} {out : List Nat} (h : LvW w wr H C out) (hb : Below wr.heap.size wr w') : LvW w w' H C out :=
  ⟨h.below.trans (hb.mono h.below.size), blk_below h.prog hb, blk_below h.ar hb, h.hH⟩
theorem LvW.put {w wr : World} {H : Nat} {C : Array Value} {out : List Nat} (h : LvW w wr H C out) (k v : Nat) : LvW w (wr.setCell ⟨H, k, none⟩ (.int .u8 (v : Int))) H C (out.set k v) := by
  have hH := h.hH
  rw [setCell_putB h.ar, u8Arr_set]
  exact ⟨h.below.trans (putB_below _ (by omega) _ _), by unfold blk; rw [putB_ne _ (by omega)]; exact h.prog, putB_at h.ar _ _, h.hH⟩
def U8sPost (w : World) (l : List Nat) (e : Ending) (w' : World) : Prop := ∃ v, e = .returned v ∧ RowAt w' v (u8s l) ∧ Below w.heap.size w w'
theorem LvW.post {w wr : World} {H : Nat} {C : Array Value} {out : List Nat} {n : Nat} (h : LvW w wr H C out) (hn : out.length = n) (hl : n ≤ 1000000) : U8sPost w out (.returned (.slice (some ⟨H, 0, none⟩) n n)) wr := by
  subst hn
  refine ⟨_, rfl, ⟨some ⟨H, 0, none⟩, out.length, by simp, by simp, by unfold maxLen; omega, .inr ⟨H, 0, rfl, blk_lt h.ar, fun j x hx => ?_⟩⟩, h.below⟩
  rw [Nat.zero_add]
  exact blk_cell h.ar j x (by show ((u8s out).toArray)[j]? = _; rw [List.getElem?_toArray]; exact hx)
end Go.Proofs.YtapjgobkpehgfaaDoor

/- What May answers, wherever it lies: a row of rows of truths. -/
namespace Go.Proofs.YtapjgobkpehgfaaDoor
set_option linter.unusedSimpArgs false
set_option linter.unusedVariables false
open Go.RowKit

section
variable {w w' : World} {v : Value} {q : PProg}
/-- One local's row. -/
noncomputable def mayRow (q : PProg) (a : Nat) : List Value := (List.range (q.code.length + 1)).map fun k => .bool (mayB q (a : Int) k)
theorem mayRow_len (q : PProg) (a : Nat) : (mayRow q a).length = q.code.length + 1 := by unfold mayRow; simp
theorem mayRow_at {a k : Nat} (h : k ≤ q.code.length) : (mayRow q a)[k]? = some (.bool (mayB q (a : Int) k)) := by
  unfold mayRow
  rw [List.getElem?_map, List.getElem?_range (by omega)]; rfl
/-- All rows. -/
def MayAt (w : World) (v : Value) (q : PProg) : Prop :=
  ∃ rows : List Value, rows.length = q.locals.length ∧ RowAt w v rows ∧ ∀ (a : Nat) (r : Value), rows[a]? = some r → RowAt w r (mayRow q a)
theorem MayAt.below (h : MayAt w v q) (hb : Below w.heap.size w w') : MayAt w' v q := by
  obtain ⟨rows, h1, h2, h3⟩ := h
  exact ⟨rows, h1, h2.below hb, fun a r hr => (h3 a r hr).below hb⟩
theorem MayAt.form (h : MayAt w v q) : ∃ x c, v = .slice x q.locals.length c ∧ q.locals.length ≤ c ∧ c ≤ 9223372036854775807 := by
  obtain ⟨rows, h1, ⟨x, c, rfl, h2, h3, -⟩, -⟩ := h
  unfold maxLen at h3
  exact ⟨x, c, by rw [h1], by omega, by omega⟩
/-- A row of it. -/
theorem MayAt.row {x : Option Addr} {n c a : Nat} (h : MayAt w (.slice x n c) q) (ha : a < q.locals.length) : ∃ b o b2 o2 c2, x = some ⟨b, o, none⟩ ∧ b < w.heap.size ∧ b2 < w.heap.size ∧ q.code.length + 1 ≤ c2 ∧ c2 ≤ 9223372036854775807 ∧
    w.cell? ⟨b, o + a, none⟩ = some (.slice (some ⟨b2, o2, none⟩) (q.code.length + 1) c2) ∧ ∀ k, k ≤ q.code.length → w.cell? ⟨b2, o2 + k, none⟩ = some (.bool (mayB q (a : Int) k)) := by
  obtain ⟨rows, h1, ⟨x', c', e, h2, h3, h4⟩, h5⟩ := h
  cases e
  have hlt : a < rows.length := by omega
  rcases h4 with h4 | ⟨b, o, rfl, hb, h4⟩
  · rw [h4] at hlt; exact absurd hlt (by simp)
  have hr := List.getElem?_eq_getElem hlt
  obtain ⟨y, c2, e2, g1, g2, g3⟩ := h5 a _ hr
  rcases g3 with g3 | ⟨b2, o2, rfl, hb2, g3⟩
  · have := mayRow_len q a; rw [g3] at this; simp at this
  rw [mayRow_len] at g1 e2
  unfold maxLen at g2
  exact ⟨b, o, b2, o2, c2, rfl, hb, hb2, g1, by omega, by rw [h4 a _ hr, e2], fun k hk => g3 k _ (mayRow_at hk)⟩
/-- Leaks, at any number. -/
noncomputable def leakV (q : PProg) (k : Int) : Bool := decide (0 ≤ k) && leakB q k.toNat
theorem leakV_nat (k : Nat) : leakV q (k : Int) = leakB q k := by unfold leakV; simp
end
end Go.Proofs.YtapjgobkpehgfaaDoor
