/-
  The document's Reach and Loops of any place; the statements' own Sound.
  What the statements want of the program's flow.
  Bits of bytes: what the machine makes of them; the document's bit, Uses and Sets.
  The document's In: its contract.
  What May answers, wherever it lies: a row of rows of truths.
  What Best writes, place by place; where its rows lie.
-/
import Derived.Test.YtcjhgibhenocpaaGreatDoorUAY
import Derived.Test.YtcjhgibhenocpaaGreatDoorFNext
import Derived.Test.YtcjhgibhenocpaaGreatDoorMChk
import Derived.Test.YtcjhgibhenocpaaGreatDoorVPure
import Derived.Test.YtcjhgibhenocpaaGreatDoorUAW
import Derived.Laws.BitsLemmas
import Derived.Deep.RegionHeld3
import Derived.Deep.CutRange
import Derived.Deep.QuietTactic
import Derived.Laws.IdiomCopy
import Derived.StillTailTactics
import Derived.ChangeKeysEq
import Derived.Lib.SliceRun
import Derived.Deep.LoopGhost
import Derived.Test.YtcjhgibhenocpaaGreatDoorUAR
import Derived.Test.YtcjhgibhenocpaaGreatDoorUAT

/- The document's Reach and Loops of any place; the statements' own Sound. -/
namespace Go.Proofs.YtcjhgibhenocpaaGreatDoor
set_option linter.unusedSimpArgs false
set_option linter.unusedVariables false
open Go.RowKit

def wayV (q : PProg) (k : Int) : List Bool := if 0 ≤ k ∧ k ≤ q.code.length then wayL q k.toNat else []
def loopV (q : PProg) (k : Int) : Bool := (wayV q k).getD k.toNat false && decide (0 ≤ k)
def soundB (q : PProg) : Bool := fewP q && decide (q.code.length ≤ 60) && decide ((checkL q).2 = 0)
theorem wayV_len {q : PProg} {k : Int} (h : 0 ≤ k ∧ k ≤ q.code.length) : (wayV q k).length = q.code.length + 1 := by unfold wayV; rw [if_pos h, reach_len]
set_option maxRecDepth 100000 in
set_option maxHeartbeats 4000000 in
theorem sound_at (w W0 : World) (p : PProg) (vt' : Value) (x' : Option Addr) (k' : Nat) (f : Bool) (z e : Int) (r : Bool)
    (hW0 : W0 = w.alloc (.cells (progC vt' p (.slice x' p.code.length k')) 25)) (HS : Hid (Below w.heap.size w W0)) (KP : Hid (blk W0 w.heap.size (progC vt' p (.slice x' p.code.length k')) 25))
    (HF : Hid (∀ w1, Below w.heap.size w w1 → Calls Tryz.prog 17 #[.agg (progC vt' p (.slice x' p.code.length k'))] w1 (AggPost w1 (.bool f))))
    (HCK : Hid (∀ w1, Below w.heap.size w w1 → Calls Tryz.prog 18 #[.agg (progC vt' p (.slice x' p.code.length k'))] w1 (ChkPost w1 z e)))
    (hc : (f = false ∧ r = false) ∨ (f = true ∧ 60 < p.code.length ∧ r = false) ∨ (f = true ∧ p.code.length ≤ 60 ∧ (e == 0) = r)) :
    Calls Tryz.prog 5 #[.agg (progC vt' p (.slice x' p.code.length k'))] w (AggPost w (.bool r)) := by
  go_enter Tryz.func5, Tryz.ntmps5
  go_upto_region 1 with (fail)
  rw [← hW0]
  clear hW0
  rcases hc with ⟨rfl, rfl⟩ | ⟨rfl, hl, rfl⟩ | ⟨rfl, hl, he⟩
  · go_wp2_with (first
      | (refine wpList_loadB rfl 25 _ rfl w.heap.size (progC vt' p (.slice x' p.code.length k')) rfl 25 KP.out _ Tryz.underlying25 rfl prog_info ?_)
      | (go_at_call 17; refine (HF.out _ HS.out).mono ?_; rintro e1 w2 ⟨rfl, hb⟩; have HB := Lib.hid (HS.out.trans (hb.mono HS.out.size)); clear hb))
    go_ret
    exact ⟨rfl, HB.out⟩
  · have hli : (60 : Int) < (p.code.length : Int) := by omega
    go_wp2_with (first
      | (refine wpList_loadB rfl 25 _ rfl w.heap.size (progC vt' p (.slice x' p.code.length k')) rfl 25 KP.out _ Tryz.underlying25 rfl prog_info ?_)
      | (go_at_call 17; refine (HF.out _ HS.out).mono ?_; rintro e1 w2 ⟨rfl, hb⟩; have HB := Lib.hid (HS.out.trans (hb.mono HS.out.size)); have p3 : w2.cell? ⟨w.heap.size, 3, none⟩ = some (.slice x' p.code.length k') := blk_cell (blk_below KP.out hb) 3 _ rfl; clear hb))
    go_ret
    exact ⟨rfl, HB.out⟩
  · have hli : ¬ ((60 : Int) < (p.code.length : Int)) := by omega
    go_wp2_with (first
      | (refine wpList_loadB rfl 25 _ rfl w.heap.size (progC vt' p (.slice x' p.code.length k')) rfl 25 KP.out _ Tryz.underlying25 rfl prog_info ?_)
      | (go_at_call 17; refine (HF.out _ HS.out).mono ?_; rintro e1 w2 ⟨rfl, hb⟩; have HB := Lib.hid (HS.out.trans (hb.mono HS.out.size)); have KP := Lib.hid (blk_below KP.out hb); have p3 : w2.cell? ⟨w.heap.size, 3, none⟩ = some (.slice x' p.code.length k') := blk_cell KP.out 3 _ rfl; clear hb)
      | (go_at_call 18; refine (HCK.out _ HB.out).mono ?_; rintro e1 w3 ⟨rfl, hb⟩; have HB := Lib.hid (HB.out.trans (hb.mono HB.out.size)); clear hb))
    go_ret
    exact ⟨by rw [← he]; rfl, HB.out⟩
theorem sound_n (v : Value) (p : PProg) (w : World) (r : Bool) (h : ProgAt w v p) (hs : OkP p) (ht : HasT w) (hr : soundB p = r) : Calls Tryz.prog 5 #[v] w (AggPost w (.bool r)) := by
  obtain ⟨vt', vc, rfl, htl, hc⟩ := id h
  obtain ⟨x', kx', rfl, g1, g2, g3⟩ := id hc
  have hwb : Below w.heap.size w (w.alloc (.cells (progC vt' p (.slice x' p.code.length kx')) 25)) := (Below.refl _ _).alloc (Nat.le_refl _) _
  refine sound_at w _ p vt' x' kx' (fewP p) (checkL p).1 (checkL p).2 r rfl (Lib.hid hwb) (Lib.hid (blk_new _ _ _)) (Lib.hid fun w1 hb1 => few_b _ p _ w1 (h.below hb1) hs rfl) (Lib.hid fun w1 hb1 => rcheck_n _ p _ _ w1 (h.below hb1) hs (ht.below hb1) rfl rfl) ?_
  unfold soundB at hr
  rcases hf : fewP p with _ | _
  · exact .inl ⟨rfl, by rw [← hr, hf]; rfl⟩
  · by_cases hl : p.code.length ≤ 60
    · refine .inr (.inr ⟨rfl, hl, ?_⟩)
      rw [← hr, hf]
      simp only [Bool.true_and, hl, decide_true]
      rw [Bool.eq_iff_iff]; simp
    · exact .inr (.inl ⟨rfl, by omega, by rw [← hr, hf]; simp [hl]⟩)
end Go.Proofs.YtcjhgibhenocpaaGreatDoor

/- What the statements want of the program's flow. -/
namespace Go.Proofs.YtcjhgibhenocpaaGreatDoor
set_option linter.unusedSimpArgs false
set_option linter.unusedVariables false
open Go.RowKit

/-- An instruction of a program that lies somewhere. -/
theorem prog_ins {w : World} {p : PProg} {vt : Value} {x' : Option Addr} {kx' : Nat} (h : ProgAt w (.agg (progC vt p (.slice x' p.code.length kx'))) p) {m : Nat} {i : PIns} (hi : p.code[m]? = some i) : ∃ bb o, x' = some ⟨bb, o, none⟩ ∧ bb < w.heap.size ∧ w.rangeAt bb (o + m * 5) (insC i).toList := by
  obtain ⟨vt1, vc1, e1, -, hc⟩ := h
  simp only [progC, Value.agg.injEq, Array.mk.injEq, List.cons.injEq, and_true] at e1
  obtain ⟨-, -, -, e4⟩ := e1
  obtain ⟨x1, k1, e5, -, -, g3⟩ := hc
  rw [← e4] at e5
  simp only [Value.slice.injEq] at e5
  obtain ⟨rfl, -, -⟩ := e5
  exact g3 m i hi
theorem wayV_at {q : PProg} {k : Nat} (h : k ≤ q.code.length) : wayV q k = wayL q k := by unfold wayV; rw [if_pos ⟨by omega, by omega⟩, Int.toNat_natCast]
theorem wayV_n {q : PProg} {k : Nat} (h : k ≤ q.code.length) : (wayV q k).length = q.code.length + 1 := wayV_len ⟨by omega, by omega⟩
theorem sound_parts {p : PProg} (h : soundB p = true) : fewP p = true ∧ p.code.length ≤ 60 ∧ (checkL p).2 = 0 ∧ InP p ∧ 1 ≤ p.code.length := by
  unfold soundB at h
  simp only [Bool.and_eq_true, decide_eq_true_eq] at h
  exact ⟨h.1.1, h.1.2, h.2, inP_check h.2, (check_ok h.2).2.1⟩
end Go.Proofs.YtcjhgibhenocpaaGreatDoor

/- Bits of bytes: what the machine makes of them; the document's bit, Uses and Sets. -/
namespace Go.Proofs.YtcjhgibhenocpaaGreatDoor
set_option linter.unusedSimpArgs false
set_option linter.unusedVariables false
open Go.RowKit

theorem or_u8 {a b : Nat} (ha : a < 256) (hb : b < 256) : bits .or .u8 (a : Int) (b : Int) = ((a ||| b : Nat) : Int) :=
  (bits_nat .u8 8 (Nat.le_refl _) (fun n h0 h1 => wraps_u8 n h0 h1) a b ha hb).2
theorem but_u8 {a b : Nat} (ha : a < 256) (hb : b < 256) : bits .andNot .u8 (a : Int) (b : Int) = ((butN a b : Nat) : Int) := by
  have h1 : (BitVec.ofNat 8 a &&& ~~~(BitVec.ofNat 8 b)).toNat = butN a b := by
    refine eq_bits fun k => ?_
    rw [testBit_but, BitVec.toNat_and, Nat.testBit_and, BitVec.toNat_not, BitVec.toNat_ofNat, BitVec.toNat_ofNat, Nat.mod_eq_of_lt ha, Nat.mod_eq_of_lt hb]
    rcases Nat.lt_or_ge k 8 with h8 | h8
    · rw [show 2 ^ 8 - 1 - b = 2 ^ 8 - (b + 1) by omega, Nat.testBit_two_pow_sub_succ (show b < 2 ^ 8 from hb)]
      simp [h8]
    · rw [testBit_hi ha h8]; rfl
  show IntKind.u8.wrap ((BitVec.ofInt 8 (a : Int) &&& ~~~(BitVec.ofInt 8 (b : Int))).toNat : Int) = _
  rw [BitVec.ofInt_natCast, BitVec.ofInt_natCast, h1]
  exact wraps_u8 _ (Int.natCast_nonneg _) (by have := but_lt b ha; have e : (2 : Int) ^ 8 = 256 := by decide
                                              rw [e]; omega)
abbrev u8s (xs : List Nat) : List Value := xs.map (fun n : Nat => Value.int .u8 (n : Int))
theorem u8s_get {xs : List Nat} {k : Nat} (h : k < xs.length) : (u8s xs)[k]? = some (.int .u8 ((xs.getD k 0 : Nat) : Int)) := by
  rw [List.getElem?_map, List.getD_eq_getElem?_getD, List.getElem?_eq_getElem h]; rfl

end Go.Proofs.YtcjhgibhenocpaaGreatDoor

/- The document's In: its contract. -/
namespace Go.Proofs.YtcjhgibhenocpaaGreatDoor
set_option linter.unusedSimpArgs false
set_option linter.unusedVariables false
open Go.RowKit

abbrev u8Arr (l : List Nat) : Array Value := (u8s l).toArray
theorem infoU8 : (Tryz.prog.info? 5).map (fun i => (i.zero, i.size, i.bytes)) = some (some (.int .u8 0), 1, 1) := by kernel_rfl
theorem u8Arr_get {l : List Nat} {k : Nat} (h : k < l.length) : (u8Arr l)[k]? = some (.int .u8 ((l.getD k 0 : Nat) : Int)) := by
  show ((u8s l).toArray)[k]? = _
  rw [List.getElem?_toArray, u8s_get h]
theorem u8Arr_set (l : List Nat) (k v : Nat) : (u8Arr l).setIfInBounds k (.int .u8 (v : Int)) = u8Arr (l.set k v) := by simp [u8s]
theorem u8Arr_zeros (n : Nat) : madeCells #[.int .u8 0] n = u8Arr (List.replicate n 0) := by
  rw [made_rep]
  apply Array.ext'
  simp
/-- The world in In. -/
structure LvW (w wr : World) (H : Nat) (C : Array Value) (out : List Nat) : Prop where
  below : Below w.heap.size w wr
  prog : blk wr w.heap.size C 25
  ar : blk wr H (u8Arr out) 5
  hH : w.heap.size < H
theorem LvW.next {w wr w' : World} {H : Nat} {C : Array Value} {out : List Nat} (h : LvW w wr H C out) (hb : Below wr.heap.size wr w') : LvW w w' H C out :=
  ⟨h.below.trans (hb.mono h.below.size), blk_below h.prog hb, blk_below h.ar hb, h.hH⟩
theorem LvW.put {w wr : World} {H : Nat} {C : Array Value} {out : List Nat} (h : LvW w wr H C out) (k v : Nat) : LvW w (wr.setCell ⟨H, k, none⟩ (.int .u8 (v : Int))) H C (out.set k v) := by
  have hH := h.hH
  rw [setCell_putB h.ar, u8Arr_set]
  exact ⟨h.below.trans (putB_below _ (by omega) _ _), by unfold blk; rw [putB_ne _ (by omega)]; exact h.prog, putB_at h.ar _ _, h.hH⟩
def U8sPost (w : World) (l : List Nat) (e : Ending) (w' : World) : Prop := ∃ v, e = .returned v ∧ RowAt w' v (u8s l) ∧ Below w.heap.size w w'
theorem LvW.post {w wr : World} {H : Nat} {C : Array Value} {out : List Nat} {n : Nat} (h : LvW w wr H C out) (hn : out.length = n) (hl : n ≤ 1000000) : U8sPost w out (.returned (.slice (some ⟨H, 0, none⟩) n n)) wr := by
  subst hn
  refine ⟨_, rfl, ⟨some ⟨H, 0, none⟩, out.length, by simp, by simp, by unfold maxLen; omega, .inr ⟨H, 0, rfl, blk_lt h.ar, fun j x hx => ?_⟩⟩, h.below⟩
  rw [Nat.zero_add]
  exact blk_cell h.ar j x (by show ((u8s out).toArray)[j]? = _; rw [List.getElem?_toArray]; exact hx)
end Go.Proofs.YtcjhgibhenocpaaGreatDoor

/- What May answers, wherever it lies: a row of rows of truths. -/
namespace Go.Proofs.YtcjhgibhenocpaaGreatDoor
set_option linter.unusedSimpArgs false
set_option linter.unusedVariables false
open Go.RowKit

section
variable {w w' : World} {v : Value} {q : PProg}
/-- One local's row. -/
noncomputable def mayRow (q : PProg) (a : Nat) : List Value := (List.range (q.code.length + 1)).map fun k => .bool (mayB q (a : Int) k)
theorem mayRow_len (q : PProg) (a : Nat) : (mayRow q a).length = q.code.length + 1 := by unfold mayRow; simp
theorem mayRow_at {a k : Nat} (h : k ≤ q.code.length) : (mayRow q a)[k]? = some (.bool (mayB q (a : Int) k)) := by
  unfold mayRow
  rw [List.getElem?_map, List.getElem?_range (by omega)]; rfl
/-- All rows. -/
def MayAt (w : World) (v : Value) (q : PProg) : Prop :=
  ∃ rows : List Value, rows.length = q.locals.length ∧ RowAt w v rows ∧ ∀ (a : Nat) (r : Value), rows[a]? = some r → RowAt w r (mayRow q a)
theorem MayAt.below (h : MayAt w v q) (hb : Below w.heap.size w w') : MayAt w' v q := by
  obtain ⟨rows, h1, h2, h3⟩ := h
  exact ⟨rows, h1, h2.below hb, fun a r hr => (h3 a r hr).below hb⟩
theorem MayAt.form (h : MayAt w v q) : ∃ x c, v = .slice x q.locals.length c ∧ q.locals.length ≤ c ∧ c ≤ 9223372036854775807 := by
  obtain ⟨rows, h1, ⟨x, c, rfl, h2, h3, -⟩, -⟩ := h
  unfold maxLen at h3
  exact ⟨x, c, by rw [h1], by omega, by omega⟩
/-- A row of it. -/
theorem MayAt.row {x : Option Addr} {n c a : Nat} (h : MayAt w (.slice x n c) q) (ha : a < q.locals.length) : ∃ b o b2 o2 c2, x = some ⟨b, o, none⟩ ∧ b < w.heap.size ∧ b2 < w.heap.size ∧ q.code.length + 1 ≤ c2 ∧ c2 ≤ 9223372036854775807 ∧
    w.cell? ⟨b, o + a, none⟩ = some (.slice (some ⟨b2, o2, none⟩) (q.code.length + 1) c2) ∧ ∀ k, k ≤ q.code.length → w.cell? ⟨b2, o2 + k, none⟩ = some (.bool (mayB q (a : Int) k)) := by
  obtain ⟨rows, h1, ⟨x', c', e, h2, h3, h4⟩, h5⟩ := h
  cases e
  have hlt : a < rows.length := by omega
  rcases h4 with h4 | ⟨b, o, rfl, hb, h4⟩
  · rw [h4] at hlt; exact absurd hlt (by simp)
  have hr := List.getElem?_eq_getElem hlt
  obtain ⟨y, c2, e2, g1, g2, g3⟩ := h5 a _ hr
  rcases g3 with g3 | ⟨b2, o2, rfl, hb2, g3⟩
  · have := mayRow_len q a; rw [g3] at this; simp at this
  rw [mayRow_len] at g1 e2
  unfold maxLen at g2
  exact ⟨b, o, b2, o2, c2, rfl, hb, hb2, g1, by omega, by rw [h4 a _ hr, e2], fun k hk => g3 k _ (mayRow_at hk)⟩
/-- Leaks, at any number. -/
noncomputable def leakV (q : PProg) (k : Int) : Bool := decide (0 ≤ k) && leakB q k.toNat
theorem leakV_nat (k : Nat) : leakV q (k : Int) = leakB q k := by unfold leakV; simp
end
end Go.Proofs.YtcjhgibhenocpaaGreatDoor

/- What Best writes, place by place; where its rows lie. -/
namespace Go.Proofs.YtcjhgibhenocpaaGreatDoor
set_option linter.unusedSimpArgs false
set_option linter.unusedVariables false
open Go.RowKit

section
variable {q : PProg} {i : PIns} {k j : Nat}
/-- The facts of the first k places; none of those behind. -/
noncomputable def bestP (q : PProg) (k : Nat) : List PFact := (List.range q.code.length).map fun j => if j < k then bestK q j else noFact
theorem bestP_len : (bestP q k).length = q.code.length := by unfold bestP; simp
theorem bestP_get (hj : j < q.code.length) : (bestP q k)[j]? = some (if j < k then bestK q j else noFact) := by
  unfold bestP; rw [List.getElem?_map, List.getElem?_range hj]; rfl
theorem bestP_0 : bestP q 0 = noneL q := by
  unfold bestP noneL
  refine List.ext_getElem (by simp) fun j h1 h2 => ?_
  simp
theorem bestP_all : bestP q q.code.length = bestL q := by
  unfold bestP bestL
  refine List.map_congr_left fun j hj => ?_
  rw [if_pos (List.mem_range.1 hj)]
theorem bestP_here (hk : k < q.code.length) : (bestP q k)[k]? = some noFact := by rw [bestP_get hk, if_neg (Nat.lt_irrefl k)]
theorem bestP_set {f : PFact} (hk : k < q.code.length) (hf : bestK q k = f) : (bestP q k).set k f = bestP q (k + 1) := by
  refine List.ext_getElem? fun j => ?_
  by_cases hj : j < q.code.length
  · rw [bestP_get hj, List.getElem?_set]
    by_cases e : k = j
    · subst e
      rw [if_pos rfl, if_pos (by rw [bestP_len]; exact hk), if_pos (Nat.lt_succ_self k), hf]
    · rw [if_neg e, bestP_get hj]
      congr 1
      by_cases h : j < k
      · rw [if_pos h, if_pos (by omega)]
      · rw [if_neg h, if_neg (by omega)]
  · rw [List.getElem?_eq_none (by rw [List.length_set, bestP_len]; omega), List.getElem?_eq_none (by rw [bestP_len]; omega)]
theorem bestP_skip (hk : k < q.code.length) (hf : bestK q k = noFact) : bestP q k = bestP q (k + 1) := by
  rw [← bestP_set hk hf]
  refine (List.ext_getElem? fun j => ?_)
  rw [List.getElem?_set]
  split
  · next e => subst e; rw [if_pos (by rw [bestP_len]; exact hk), bestP_here hk]
  · rfl
theorem bestK_of (hi : q.code[k]? = some i) : bestK q k = bestI q k i := by unfold bestK; rw [hi]
theorem bestK_no (hi : q.code[k]? = some i) (h5 : i.op ≠ 5) (h11 : i.op ≠ 11) : bestK q k = noFact := by
  rw [bestK_of hi]; unfold bestI noFact; simp [h5, h11]
theorem bestK_5 (hi : q.code[k]? = some i) (h5 : i.op = 5) : bestK q k = putF (putF noFact 0 (!loopL q k && !leakB q k)) 1 (decide (0 ≤ lastL q k)) := by
  rw [bestK_of hi]; unfold bestI noFact putF; simp [h5, Bool.and_comm]
theorem bestK_11 (hi : q.code[k]? = some i) (h11 : i.op = 11) : bestK q k = putF noFact 2 (((freshL q).getD k 0).testBit i.a.toNat) := by
  rw [bestK_of hi]; unfold bestI noFact putF; simp [h11]
end
/-! ### As its row lies while it is written -/
def factsA (l : List PFact) : Array Value := (cellsS factC l).toArray
theorem factsA_get {l : List PFact} {m : Nat} {u : Value} (h : (factsA l)[m]? = some u) : ∃ b, u = .bool b := by
  unfold factsA at h
  have h1 : (cellsS factC l)[m]? = some u := by simpa using h
  have h2 := List.mem_of_getElem? h1
  unfold cellsS at h2
  obtain ⟨x, _, hx⟩ := List.mem_flatMap.1 h2
  unfold factC at hx
  simp at hx
  rcases hx with rfl | rfl | rfl <;> exact ⟨_, rfl⟩
theorem factsA_put {l : List PFact} {k t : Nat} {f : PFact} (b : Bool) (hk : l[k]? = some f) (ht : t < 3) : (factsA l).setIfInBounds (k * 3 + t) (.bool b) = factsA (l.set k (putF f t b)) := by
  apply Array.toList_inj.1
  unfold factsA
  rw [Array.toList_setIfInBounds]
  exact cells_put hk ht
theorem cells_none (n : Nat) : cellsS factC (List.replicate n noFact) = List.replicate (n * 3) (.bool false) := by
  induction n with
  | zero => rfl
  | succ n ih =>
    unfold cellsS at ih ⊢
    rw [List.replicate_succ, List.flatMap_cons, ih]
    show List.replicate 3 (Value.bool false) ++ List.replicate (n * 3) (.bool false) = _
    rw [List.replicate_append_replicate, show 3 + n * 3 = (n + 1) * 3 by omega]
theorem zeroF_get (j : Nat) : zeroF[j % zeroF.size]! = .bool false := by
  have h3 : j % zeroF.size < 3 := Nat.mod_lt _ (by decide)
  generalize j % zeroF.size = r at h3
  rcases (by omega : r = 0 ∨ r = 1 ∨ r = 2) with rfl | rfl | rfl <;> rfl
theorem made_none (n : Nat) : madeCells zeroF (n * 3) = factsA (List.replicate n noFact) := by
  apply Array.toList_inj.1
  unfold factsA
  rw [cells_none]
  refine List.eq_replicate_iff.2 ⟨by simp [madeCells], fun b hb => ?_⟩
  unfold madeCells at hb
  rw [Array.toList_map] at hb
  obtain ⟨x, _, rfl⟩ := List.mem_map.1 hb
  exact zeroF_get x
structure BsW (w wr : World) (g : Nat) (C : Array Value) (vin : Value) (p : PProg) (l : List PFact) : Prop where
  below : Below w.heap.size w wr
  prog : blk wr w.heap.size C 25
  row : blk wr g (factsA l) 39
  inn : RowAt wr vin (u8s (freshL p))
  hg : w.heap.size < g
section
variable {w wr w' : World} {g : Nat} {C : Array Value} {vin : Value} {p : PProg} {l : List PFact}
theorem BsW.next (h : BsW w wr g C vin p l) (hb : Below wr.heap.size wr w') : BsW w w' g C vin p l :=
  ⟨h.below.trans (hb.mono h.below.size), blk_below h.prog hb, blk_below h.row hb, h.inn.below hb, h.hg⟩
theorem BsW.put (h : BsW w wr g C vin p l) {k t : Nat} {f : PFact} (b : Bool) (hk : l[k]? = some f) (ht : t < 3) : BsW w (wr.setCell ⟨g, k * 3 + t, none⟩ (.bool b)) g C vin p (l.set k (putF f t b)) := by
  have hg := h.hg
  rw [setCell_putB h.row, factsA_put b hk ht]
  refine ⟨h.below.trans (putB_below _ (by omega) _ _), by unfold blk; rw [putB_ne _ (by omega)]; exact h.prog, putB_at h.row _ _, ?_, hg⟩
  obtain ⟨a, c, e, h1, h2, h3⟩ := h.inn
  refine ⟨a, c, e, h1, h2, h3.imp id ?_⟩
  rintro ⟨bb, o, e2, hlt, hc⟩
  refine ⟨bb, o, e2, by rw [putB_size]; exact hlt, fun j x hx => ?_⟩
  have hx' := hc j x hx
  have hne : bb ≠ g := by
    rintro rfl
    have hr := h.row
    unfold blk at hr
    simp only [World.cell?, hr] at hx'
    have hx2 : (factsA l)[o + j]? = some x := by simpa using hx'
    obtain ⟨b1, rfl⟩ := factsA_get hx2
    have := List.mem_of_getElem? hx
    unfold u8s at this
    simp at this
  have e3 : (putB wr g (factsA (l.set k (putF f t b))) 39).cell? ⟨bb, o + j, none⟩ = wr.cell? ⟨bb, o + j, none⟩ := by
    simp only [World.cell?]
    rw [putB_ne _ hne]
  rw [e3]; exact hx'
theorem BsW.cell (h : BsW w wr g C vin p l) {k : Nat} {f : PFact} (hk : l[k]? = some f) : wr.cell? ⟨g, k * 3, none⟩ = some (.bool f.st) ∧ wr.cell? ⟨g, k * 3 + 1, none⟩ = some (.bool f.ra) ∧ wr.cell? ⟨g, k * 3 + 2, none⟩ = some (.bool f.pl) ∧ ∀ j, wr.frozen? ⟨g, j, none⟩ = false := by
  have hc : ∀ t v, (factC f)[t]? = some v → wr.cell? ⟨g, k * 3 + t, none⟩ = some v := fun t v hv => blk_cell h.row _ v (by
    unfold factsA
    have := cellsS_get factC_len l k f t v hk hv
    simpa using this)
  exact ⟨hc 0 _ rfl, hc 1 _ rfl, hc 2 _ rfl, fun j => blk_frozen h.row j⟩
theorem BsW.facts (h : BsW w wr g C vin p l) (hl : l.length ≤ 200) : FactsAt wr (.slice (some ⟨g, 0, none⟩) l.length l.length) l := rowS_blk factC_len h.row (by unfold factsA; rfl) (by unfold maxLen; omega)
end
/-- Best's answer, in a row of its own. -/
def OwnBest (w : World) (p : PProg) (e : Ending) (w' : World) : Prop := ∃ g, e = .returned (.tuple #[.slice (some ⟨g, 0, none⟩) p.code.length p.code.length, .int .i64 0]) ∧ w.heap.size < g ∧ blk w' g (factsA (bestL p)) 39 ∧ Below w.heap.size w w'
theorem best_facts {w' : World} {p : PProg} {g : Nat} (h : blk w' g (factsA (bestL p)) 39) (hlen : p.code.length ≤ 200) : FactsAt w' (.slice (some ⟨g, 0, none⟩) p.code.length p.code.length) (bestL p) := by
  have := rowS_blk factC_len (l := bestL p) h (by unfold factsA; rfl) (by rw [best_len]; unfold maxLen; omega)
  rw [best_len] at this
  exact this
/-- The row of a new list of facts, of its own. -/
def NonePost (w : World) (p : PProg) (e : Ending) (w' : World) : Prop := ∃ g, e = .returned (.tuple #[.slice (some ⟨g, 0, none⟩) p.code.length p.code.length, .int .i64 0]) ∧ w.heap.size ≤ g ∧ blk w' g (factsA (noneL p)) 39 ∧ Below w.heap.size w w'
end Go.Proofs.YtcjhgibhenocpaaGreatDoor
