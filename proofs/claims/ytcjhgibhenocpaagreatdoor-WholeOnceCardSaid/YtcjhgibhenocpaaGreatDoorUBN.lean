/-
  The document's Out.
  The document's In.
  What the statements want of the program's In: its answer, cell by cell.
  Contracts of the library: those of Shelf.
  What can be reached, by a list of places yet to be seen; rows of numbers, sorted and without repetitions.
  The program's flow: places, instructions, jumps.
-/
import Derived.Test.YtcjhgibhenocpaaGreatDoorUAQ
import Derived.Test.YtcjhgibhenocpaaGreatDoorUBE
import Derived.Test.YtcjhgibhenocpaaGreatDoorFNext
import Derived.Test.YtcjhgibhenocpaaGreatDoorUAY
import Derived.Deep.LoopGhost
import Derived.Test.YtcjhgibhenocpaaGreatDoorShelf
import Derived.Sort.Grow
import Derived.Laws.OwnMore

/- The document's Out. -/
namespace Go.Proofs.YtcjhgibhenocpaaGreatDoor
set_option linter.unusedSimpArgs false
set_option linter.unusedVariables false
open Go.RowKit

theorem and9_u8 {a b : Nat} (ha : a < 256) (hb : b < 256) : bits .and .u8 (a : Int) (b : Int) = ((a &&& b : Nat) : Int) :=
  (bits_nat .u8 8 (Nat.le_refl _) (fun n h0 h1 => wraps_u8 n h0 h1) a b ha hb).1
end Go.Proofs.YtcjhgibhenocpaaGreatDoor

/- The document's In. -/
namespace Go.Proofs.YtcjhgibhenocpaaGreatDoor
set_option linter.unusedSimpArgs false
set_option linter.unusedVariables false
open Go.RowKit

theorem meets_next {out : List Nat} {v j n : Nat} {ns : List Nat} (h : ns[j]? = some n) : (ns.take (j + 1)).foldl (meetN v) out = meetN v ((ns.take j).foldl (meetN v) out) n := by
  rw [List.take_add_one, h, List.foldl_append]; rfl
theorem sweepsF_next {q : PProg} {k : Nat} {out : List Nat} : (List.range (k + 1)).foldl (sweepF q) out = sweepF q ((List.range k).foldl (sweepF q) out) k := by
  rw [List.range_succ, List.foldl_append]; rfl
end Go.Proofs.YtcjhgibhenocpaaGreatDoor

/- What the statements want of the program's In: its answer, cell by cell. -/
namespace Go.Proofs.YtcjhgibhenocpaaGreatDoor
set_option linter.unusedSimpArgs false
set_option linter.unusedVariables false
open Go.RowKit

/-- The cells of In's answer, wherever they lie. -/
structure U8At (w : World) (b o n : Nat) (l : List Nat) : Prop where
  lt : b < w.heap.size
  c : ∀ j, j ≤ n → w.cell? ⟨b, o + j, none⟩ = some (.int .u8 ((l.getD j 0 : Nat) : Int))
theorem U8At.next {w w' : World} {b o n : Nat} {l : List Nat} (h : U8At w b o n l) (hb : Below w.heap.size w w') : U8At w' b o n l :=
  ⟨Nat.lt_of_lt_of_le h.lt hb.size, fun j hj => by rw [(bcell hb).1 b _ h.lt]; exact h.c j hj⟩
end Go.Proofs.YtcjhgibhenocpaaGreatDoor

/- Contracts of the library: those of Shelf. -/


/- What can be reached, by a list of places yet to be seen; rows of numbers, sorted and without repetitions. -/
namespace Go.Proofs.YtcjhgibhenocpaaGreatDoor
set_option linter.unusedSimpArgs false
set_option linter.unusedVariables false
open Go.RowKit

structure StkAt (q : PProg) (a : Nat) (had : List Bool) (op : List Nat) : Prop where
  len : had.length = q.code.length + 1
  ok : OkB q a had
  way : ∀ n ∈ op, Way q a n
  shut : ∀ k, k ≤ q.code.length → (k = a ∨ had.getD k false = true) → ∀ n ∈ nextL q k, had.getD n false = true ∨ n ∈ op
  few : 3 * (q.code.length + 1 - cnt had) + op.length ≤ 3 * (q.code.length + 1) + 2
section
variable {q : PProg}
theorem getD_replF (m k : Nat) : (List.replicate m false).getD k false = false := by
  rw [List.getD_eq_getElem?_getD, List.getElem?_replicate]
  split <;> rfl
theorem StkAt.start (a : Nat) : StkAt q a (List.replicate (q.code.length + 1) false) (nextL q a) := by
  refine ⟨by simp, fun k hk => ?_, fun n hn => .one hn, fun k _ hc n hn => ?_, ?_⟩
  · rw [getD_replF] at hk; cases hk
  · rcases hc with rfl | hc
    · exact .inr hn
    · rw [getD_replF] at hc; cases hc
  · have := (next_sorted (q := q) a).1
    omega
theorem StkAt.known {a m0 : Nat} {had : List Bool} {xs : List Nat} (h : StkAt q a had (xs ++ [m0])) (ht : had.getD m0 false = true) : StkAt q a had xs := by
  refine ⟨h.len, h.ok, fun n hn => h.way n (by simp [hn]), fun k hk hc n hn => ?_, ?_⟩
  · rcases h.shut k hk hc n hn with h1 | h1
    · exact .inl h1
    · rcases List.mem_append.1 h1 with h1 | h1
      · exact .inr h1
      · rw [List.mem_singleton] at h1; subst h1; exact .inl ht
  · have := h.few; simp at this; omega
theorem cnt_mark {had : List Bool} {m0 : Nat} (ht : had.getD m0 false = false) (hl : m0 < had.length) : cnt had < cnt (markK had m0) ∧ cnt (markK had m0) ≤ had.length := by
  have h1 := cnt_le (mark_le had m0)
  refine ⟨Nat.lt_of_le_of_ne h1.1 fun e => ?_, ?_⟩
  · have h2 := h1.2 e
    have : (markK had m0).getD m0 false = true := by unfold markK; rw [getD_setB, if_pos ⟨rfl, hl⟩]
    rw [← h2, ht] at this; cases this
  · have := cnt_max (markK had m0)
    rwa [(mark_le had m0).1.symm] at this
theorem StkAt.new {a m0 : Nat} {had : List Bool} {xs : List Nat} (hin : InP q) (h : StkAt q a had (xs ++ [m0])) (ht : had.getD m0 false = false) :
    StkAt q a (markK had m0) (xs ++ nextL q m0) ∧ 3 * (q.code.length + 1 - cnt (markK had m0)) + (xs ++ nextL q m0).length < 3 * (q.code.length + 1 - cnt had) + (xs ++ [m0]).length := by
  have hw := h.way m0 (by simp)
  have hl := hw.le hin
  have hc := cnt_mark ht (by rw [h.len]; omega)
  have h2 := (next_sorted (q := q) m0).1
  have hlen := h.len
  have hm : ∀ k, (markK had m0).getD k false = true → k = m0 ∨ had.getD k false = true := fun k hk => by
    unfold markK at hk
    rw [getD_setB] at hk
    split at hk
    · next e => exact .inl e.1.symm
    · exact .inr hk
  have key : 3 * (q.code.length + 1 - cnt (markK had m0)) + (xs ++ nextL q m0).length < 3 * (q.code.length + 1 - cnt had) + (xs ++ [m0]).length := by
    simp only [List.length_append, List.length_singleton]; omega
  refine ⟨⟨by rw [← (mark_le had m0).1]; exact hlen, fun k hk => ?_, fun n hn => ?_, fun k hk hc' n hn => ?_, ?_⟩, key⟩
  · rcases hm k hk with rfl | hk
    · exact hw
    · exact h.ok k hk
  · rcases List.mem_append.1 hn with hn | hn
    · exact h.way n (by simp [hn])
    · exact hw.step hn
  · by_cases hkt : k = m0
    · subst hkt
      exact .inr (by simp [hn])
    · have hk2 : k = a ∨ had.getD k false = true := hc'.imp id fun e => (hm k e).resolve_left hkt
      rcases h.shut k hk hk2 n hn with h1 | h1
      · exact .inl ((mark_le had m0).2 n h1)
      · rcases List.mem_append.1 h1 with h1 | h1
        · exact .inr (by simp [h1])
        · rw [List.mem_singleton] at h1; subst h1
          refine .inl ?_
          unfold markK
          rw [getD_setB, if_pos ⟨rfl, by omega⟩]
  · have := h.few; omega
theorem Way.marked {a b : Nat} {had : List Bool} (hin : InP q) (ha : a ≤ q.code.length) (h : StkAt q a had []) (hw : Way q a b) : had.getD b false = true := by
  obtain ⟨m, hm⟩ := hw
  induction m generalizing b with
  | zero => exact (h.shut a ha (.inl rfl) b hm).resolve_right (by simp)
  | succ m ih =>
    obtain ⟨c, hc, hn⟩ := hm
    have hcl : c ≤ q.code.length := Way.le hin ⟨m, hc⟩
    exact (h.shut c hcl (.inr (ih hc)) b hn).resolve_right (by simp)
theorem StkAt.done {a : Nat} {had : List Bool} (hin : InP q) (ha : a ≤ q.code.length) (h : StkAt q a had []) : had = wayL q a := by
  have hl : (wayL q a).length = q.code.length + 1 := by have := wayV_n ha (q := q); rwa [wayV_at ha] at this
  refine leB.eq ⟨by rw [h.len, hl], fun k hk => (reach_iff hin ha).2 (h.ok k hk)⟩ ⟨by rw [h.len, hl], fun k hk => Way.marked hin ha h ((reach_iff hin ha).1 hk)⟩
end
/-! ### Rows of numbers, sorted and without repetitions -/
theorem put_take (cur : Array Value) (d : List Int) (h : d.length ≤ cur.size) : (Go.Sort.putCells (Value.int .i64) 0 d.toArray cur).toList.take d.length = i64s d := by
  apply List.ext_getElem?
  intro j
  by_cases hj : j < d.length
  · rw [List.getElem?_take_of_lt hj, Array.getElem?_toList]
    have hj2 : j < cur.size := by omega
    simp [Go.Sort.putCells, hj, hj2]
  · rw [List.getElem?_take_eq_none (by omega), List.getElem?_eq_none (by simp; omega)]
theorem own_holds {w : World} {B g n cap : Nat} {l : List Int} (h : w.ownsRow B 3 1 (.slice (some ⟨g, 0, none⟩) n cap) n (i64s l)) (hn : l.length = n) : Go.Sort.Holds (Value.int .i64) w g 0 l.toArray := by
  intro j hj
  have hj' : j < l.length := by simpa using hj
  refine ⟨?_, by rw [Nat.zero_add]; exact h.frozenAt j⟩
  rw [Nat.zero_add, h.cellAt j (by omega)]
  simp [hj']
theorem own_puts {w : World} {B g n cap m : Nat} {xs : List Value} (h : w.ownsRow B 3 1 (.slice (some ⟨g, 0, none⟩) n cap) n xs) (d e : List Int) (hd : d.length ≤ n) (hm : m = e.length) (he : d.take e.length = e) (k : Nat) (os : Array Obj) :
    (Go.Sort.grow (Go.Sort.putRow (Value.int .i64) (Go.Sort.ahead w k) g 0 d.toArray) os).ownsRow B 3 1 (.slice (some ⟨g, 0, none⟩) m cap) m (i64s e) ∧ Below B w (Go.Sort.grow (Go.Sort.putRow (Value.int .i64) (Go.Sort.ahead w k) g 0 d.toArray) os) := by
  rcases h.2 with ⟨h0, _⟩ | ⟨g', cap', cur, hv, hg, hb, h3, h4, h5, h6⟩
  · cases h0
  cases hv
  have hgl : g < w.heap.size := (Array.getElem?_eq_some_iff.1 hb).1
  have hel : e.length ≤ d.length := by
    have := congrArg List.length he
    rw [List.length_take] at this; omega
  have hheap : (Go.Sort.grow (Go.Sort.putRow (Value.int .i64) (Go.Sort.ahead w k) g 0 d.toArray) os).heap[g]? = some (.cells (Go.Sort.putCells (Value.int .i64) 0 d.toArray cur) 3 (0, 0)) := by
    rw [Go.Sort.heap_grow_old _ _ (by simpa using hgl)]
    simp [Go.Sort.putRow, Go.Sort.mapBlock, Go.Sort.ahead, Array.getElem?_modify, hb, Go.Sort.onCells]
  refine ⟨⟨by simp [hm], .inr ⟨g, cap, _, rfl, hg, hheap, by omega, h4, by simp [Go.Sort.putCells, h5], ?_⟩⟩, ?_⟩
  · have h7 := put_take cur d (by omega)
    rw [Nat.mul_one, hm, ← Nat.min_eq_left hel, ← List.take_take, h7]
    show List.take e.length (List.map _ d) = _
    rw [← List.map_take, he]
  · refine ⟨rfl, rfl, rfl, by simp, fun j hj => ?_⟩
    rw [Go.Sort.heap_grow_old _ _ (by simpa using (show j < w.heap.size by omega))]
    have : g ≠ j := by omega
    simp [Go.Sort.putRow, Go.Sort.mapBlock, Go.Sort.ahead, Array.getElem?_modify, this]
def sortZ (l : List Int) : List Int := l.mergeSort fun x y => decide (x ≤ y)
theorem sortZ_len (l : List Int) : (sortZ l).length = l.length := List.length_mergeSort _
def OwnPost (w : World) (B : Nat) (e : Ending) (v : Value) (l : List Int) (e' : Ending) (w' : World) : Prop := e' = e ∧ w'.ownsRow B 3 1 v l.length (i64s l) ∧ Below B w w'
theorem sort_row (w : World) (B g cap n : Nat) (l : List Int) (hn : n = l.length) (h : w.ownsRow B 3 1 (.slice (some ⟨g, 0, none⟩) n cap) n (i64s l)) (hl : l.length ≤ 1000000) :
    Calls Tryz.prog 154 #[.slice (some ⟨g, 0, none⟩) n cap] w (OwnPost w B (.returned (.tuple #[])) (.slice (some ⟨g, 0, none⟩) n cap) (sortZ l)) := by
  subst hn
  have hgl : g < w.heap.size := by
    rcases h.2 with ⟨h0, _⟩ | ⟨g', cap', cur, hv, hg, hb, _⟩
    · cases h0
    · cases hv; exact (Array.getElem?_eq_some_iff.1 hb).1
  refine (Tryz.slices_Sort_int g 0 cap l w (own_holds h rfl) hgl (by omega)).mono ?_
  rintro e w' ⟨rfl, n, os, rfl⟩
  have := own_puts (m := l.length) h (sortZ l) (sortZ l) (by rw [sortZ_len]; exact Nat.le_refl _) (sortZ_len l).symm (List.take_of_length_le (Nat.le_refl _)) n os
  refine ⟨rfl, ?_, this.2⟩
  rw [sortZ_len]; exact this.1
def CompactPost (w : World) (B : Nat) (l : List Int) (e' : Ending) (w' : World) : Prop := ∃ v, OwnPost w B (.returned v) v l e' w'
theorem compact_row (w : World) (B g cap n : Nat) (l : List Int) (hn : n = l.length) (h : w.ownsRow B 3 1 (.slice (some ⟨g, 0, none⟩) n cap) n (i64s l)) (hl : l.length ≤ 1000000) (hc : (Lib.compact l).length ≤ l.length) :
    Calls Tryz.prog 155 #[.slice (some ⟨g, 0, none⟩) n cap] w (CompactPost w B (Lib.compact l)) := by
  subst hn
  obtain ⟨_, _, hv, hcap, _⟩ := own_form h
  cases hv
  refine (Tryz.slices_Compact_int g 0 cap l w (own_holds h rfl) (by omega) hcap).mono ?_
  rintro e w' ⟨rfl, q, rfl⟩
  have := own_puts (m := (Lib.compact l).length) h (Lib.compact l ++ List.replicate (l.length - (Lib.compact l).length) 0) (Lib.compact l) (by simp; omega) rfl (by simp) q #[]
  rw [Go.Sort.grow_empty] at this
  exact ⟨_, rfl, this.1, this.2⟩
theorem sort_1 (a : Int) : sortZ [a] = [a] := by unfold sortZ; simp
theorem sort_2 (a b : Int) : sortZ [a, b] = if a ≤ b then [a, b] else [b, a] := by
  unfold sortZ
  simp [List.mergeSort, List.MergeSort.Internal.splitInTwo, List.merge]
theorem compact_1 (a : Int) : Lib.compact [a] = [a] := by simp [Lib.compact, Lib.compactUpTo, Lib.keeps, List.range_succ]
theorem compact_2 (a b : Int) : Lib.compact [a, b] = if a = b then [a] else [a, b] := by
  have h0 : Lib.keeps #[a, b] 0 = true := Lib.keeps_lt_one _ 0 (by omega)
  show Lib.compactUpTo #[a, b] 2 = _
  rw [Lib.compactUpTo_succ, Lib.compactUpTo_succ, h0]
  by_cases h : a = b
  · have h1 : Lib.keeps #[a, b] 1 = false := Lib.keeps_neg (by omega) (by simp [h])
    rw [h1, if_pos h]; simp [Lib.compactUpTo]
  · have h1 : Lib.keeps #[a, b] 1 = true := Lib.keeps_pos (by simp; exact fun e => h e.symm)
    rw [h1, if_neg h]; simp [Lib.compactUpTo]
end Go.Proofs.YtcjhgibhenocpaaGreatDoor

/- The program's flow: places, instructions, jumps. -/
namespace Go.Proofs.YtcjhgibhenocpaaGreatDoor
set_option linter.unusedSimpArgs false
set_option linter.unusedVariables false
open Go.RowKit

/-! ### Places, instructions, jumps -/
set_option maxRecDepth 100000 in
set_option maxHeartbeats 2000000 in
theorem pplace_any (w W0 : World) (p : PProg) (vt' : Value) (x' : Option Addr) (k' : Nat) (n : Int) (r : Bool)
    (hW0 : W0 = w.alloc (.cells (progC vt' p (.slice x' p.code.length k')) 25)) (HS : Hid (Below w.heap.size w W0)) (KP : Hid (blk W0 w.heap.size (progC vt' p (.slice x' p.code.length k')) 25))
    (hc : (n < 0 ∧ r = false) ∨ (0 ≤ n ∧ n ≤ (p.code.length : Int) ∧ r = true) ∨ (0 ≤ n ∧ (p.code.length : Int) < n ∧ r = false)) :
    Calls Tryz.prog 110 #[.agg (progC vt' p (.slice x' p.code.length k')), .int .i64 n] w (AggPost w (.bool r)) := by
  have p3 : W0.cell? ⟨w.heap.size, 3, none⟩ = some (.slice x' p.code.length k') := blk_cell KP.out 3 _ rfl
  go_enter Tryz.func110, Tryz.ntmps110
  go_upto_region 1 with (fail)
  rw [← hW0]
  clear hW0
  rcases hc with ⟨h0, rfl⟩ | ⟨h0, h1, rfl⟩ | ⟨h0, h1, rfl⟩
  · go_wp2
    go_ret
    exact ⟨rfl, HS.out⟩
  · go_wp2
    go_ret
    exact ⟨rfl, HS.out⟩
  · have h2 : ¬ (n ≤ (p.code.length : Int)) := by omega
    go_wp2
    go_ret
    exact ⟨rfl, HS.out⟩
set_option maxRecDepth 100000 in
set_option maxHeartbeats 2000000 in
theorem pins_any (w W0 : World) (p : PProg) (vt' : Value) (x' : Option Addr) (k' : Nat) (n : Int) (r : Bool)
    (hW0 : W0 = w.alloc (.cells (progC vt' p (.slice x' p.code.length k')) 25)) (HS : Hid (Below w.heap.size w W0)) (KP : Hid (blk W0 w.heap.size (progC vt' p (.slice x' p.code.length k')) 25))
    (hc : (n < 0 ∧ r = false) ∨ (0 ≤ n ∧ n < (p.code.length : Int) ∧ r = true) ∨ (0 ≤ n ∧ (p.code.length : Int) ≤ n ∧ r = false)) :
    Calls Tryz.prog 152 #[.agg (progC vt' p (.slice x' p.code.length k')), .int .i64 n] w (AggPost w (.bool r)) := by
  have p3 : W0.cell? ⟨w.heap.size, 3, none⟩ = some (.slice x' p.code.length k') := blk_cell KP.out 3 _ rfl
  go_enter Tryz.func152, Tryz.ntmps152
  go_upto_region 1 with (fail)
  rw [← hW0]
  clear hW0
  rcases hc with ⟨h0, rfl⟩ | ⟨h0, h1, rfl⟩ | ⟨h0, h1, rfl⟩
  · go_wp2
    go_ret
    exact ⟨rfl, HS.out⟩
  · go_wp2
    go_ret
    exact ⟨rfl, HS.out⟩
  · have h2 : ¬ (n < (p.code.length : Int)) := by omega
    go_wp2
    go_ret
    exact ⟨rfl, HS.out⟩
theorem pjumps_n (i : PIns) (w : World) (r : Bool) (hr : (decide (i.op = 3) || decide (i.op = 4)) = r) : Calls Tryz.prog 153 #[.agg (insC i)] w (AggPost w (.bool r)) := by
  obtain ⟨op, a, b, c, n⟩ := i
  have hwb : Below w.heap.size w (w.alloc (.cells (insC ⟨op, a, b, c, n⟩) 60)) := (Below.refl _ _).alloc (Nat.le_refl _) _
  have HB := Lib.hid hwb
  have e0 : (w.alloc (.cells (insC ⟨op, a, b, c, n⟩) 60)).cell? ⟨w.heap.size, 0, none⟩ = some (.int .u8 op) := blk_cell (blk_new w (insC ⟨op, a, b, c, n⟩) 60) 0 _ rfl
  clear hwb
  simp only at hr
  go_enter Tryz.func153, Tryz.ntmps153
  go_upto_region 1 with (fail)
  generalize w.alloc (.cells (insC ⟨op, a, b, c, n⟩) 60) = w1 at e0 HB ⊢
  by_cases h3 : op = 3
  · have q3 : (op == 3) = true := by simpa using h3
    have : r = true := by rw [← hr]; simp [h3]
    subst this
    clear hr h3
    go_wp2
    go_ret
    exact ⟨rfl, HB.out⟩
  · have q3 : (op == 3) = false := by simpa using h3
    by_cases h4 : op = 4
    · have q4 : (op == 4) = true := by simpa using h4
      have : r = true := by rw [← hr]; simp [h4]
      subst this
      clear hr h3 h4
      go_wp2
      go_ret
      exact ⟨rfl, HB.out⟩
    · have q4 : (op == 4) = false := by simpa using h4
      have : r = false := by rw [← hr]; simp [h3, h4]
      subst this
      clear hr h3 h4
      go_wp2
      go_ret
      exact ⟨rfl, HB.out⟩
theorem pplace_n (w : World) (p : PProg) (vt' : Value) (x' : Option Addr) (k' : Nat) (n : Int) (r : Bool) (hr : decide (0 ≤ n ∧ n ≤ (p.code.length : Int)) = r) :
    Calls Tryz.prog 110 #[.agg (progC vt' p (.slice x' p.code.length k')), .int .i64 n] w (AggPost w (.bool r)) := by
  refine pplace_any w _ p vt' x' k' n r rfl (Lib.hid ((Below.refl _ _).alloc (Nat.le_refl _) _)) (Lib.hid (blk_new _ _ _)) ?_
  by_cases h0 : n < 0
  · exact .inl ⟨h0, by rw [← hr]; simp; omega⟩
  by_cases h1 : n ≤ (p.code.length : Int)
  · exact .inr (.inl ⟨by omega, h1, by rw [← hr]; simp; omega⟩)
  · exact .inr (.inr ⟨by omega, by omega, by rw [← hr]; simp; omega⟩)
theorem pins_n (w : World) (p : PProg) (vt' : Value) (x' : Option Addr) (k' : Nat) (n : Int) (r : Bool) (hr : decide (0 ≤ n ∧ n < (p.code.length : Int)) = r) :
    Calls Tryz.prog 152 #[.agg (progC vt' p (.slice x' p.code.length k')), .int .i64 n] w (AggPost w (.bool r)) := by
  refine pins_any w _ p vt' x' k' n r rfl (Lib.hid ((Below.refl _ _).alloc (Nat.le_refl _) _)) (Lib.hid (blk_new _ _ _)) ?_
  by_cases h0 : n < 0
  · exact .inl ⟨h0, by rw [← hr]; simp; omega⟩
  by_cases h1 : n < (p.code.length : Int)
  · exact .inr (.inl ⟨by omega, h1, by rw [← hr]; simp; omega⟩)
  · exact .inr (.inr ⟨by omega, by omega, by rw [← hr]; simp; omega⟩)
end Go.Proofs.YtcjhgibhenocpaaGreatDoor
