/-
  The contract of wordsOf: the words of one line, in a row of their own.
  What the rows list, met by a world; the library's variable out of the world's shape.
  A struct or an array in a block of its own: stored whole, and cell by cell.
  The table of operations, as it lies; the contracts of byOp, byName, numbersOf.
  The contract of numbersOf.
-/
import Derived.Test.YtcjhgibhenocpaaGreatDoorUAA
import Derived.Test.YtcjhgibhenocpaaGreatDoorShelf
import Derived.Deep.QuietTactic
import Derived.Test.YtcjhgibhenocpaaGreatDoorRows
import Derived.Shelf.Vars
import Derived.LaidMore
import Derived.Lay
import Derived.Stop.Joined
import Derived.Test.YtcjhgibhenocpaaGreatDoorUAC
import Derived.Deep.MidRow
import Derived.Laws.Tables
import Derived.Laws.ResultCell
import Derived.IntWalk
import Derived.Laws.RangeString

/- The contract of wordsOf: the words of one line, in a row of their own. -/
namespace Go.Proofs.YtcjhgibhenocpaaGreatDoor
set_option linter.unusedSimpArgs false
set_option linter.unusedVariables false
open Go.RowKit

/-- The library's variable that is read. -/
def HasM (w : World) : Prop := ∃ m : Int, w.cell? ⟨2, 0, none⟩ = some (.int .i64 m)
theorem HasM.lt {w : World} (h : HasM w) : 2 < w.heap.size := by obtain ⟨m, h⟩ := h; exact World.block_lt_of_cell? _ _ h
theorem HasM.below {w w' : World} (h : HasM w) (hb : Below w.heap.size w w') : HasM w' := by
  have := h.lt
  obtain ⟨m, h⟩ := h
  exact ⟨m, by rw [(bcell hb).1 2 0 this]; exact h⟩

theorem below_drewN (w : World) (n : Nat) : Below w.heap.size w (w.drewN n) := ⟨rfl, rfl, rfl, Nat.le_refl _, fun _ _ => rfl⟩
def CutPost (w : World) (x : Bs) (e : Ending) (w' : World) : Prop := ∃ (y : ByteArray) (z : Bool), e = .returned (.tuple #[str x, .string y, .bool z]) ∧ w'.heap = w.heap ∧ Below w.heap.size w w'
theorem cut_any (s : ByteArray) (w : World) (hs : s.size ≤ 20000) (hm : HasM w) : Calls Tryz.prog 93 #[.string s, .string ⟨#[35]⟩] w (CutPost w (s.data.toList.takeWhile (fun c => c != 35))) := by
  obtain ⟨m, hm⟩ := hm
  refine (Tryz.strings_Cut s ⟨#[35]⟩ m w (by omega) hm).mono ?_
  rintro e w' ⟨rfl, n, rfl⟩
  have := cut_hash s.data.toList
  refine ⟨⟨(Lib.cut s.data.toList [35]).2.1.toArray⟩, (Lib.cut s.data.toList [35]).2.2, ?_, by simp, below_drewN w n⟩
  rw [← this]

theorem split_any (c : UInt8) (x : Bs) (w : World) (hs : x.length ≤ 20000) (hm : HasM w) : Calls Tryz.prog 52 #[str x, .string ⟨#[c]⟩] w fun e w' =>
    e = .returned (.slice (some ⟨w.heap.size, 0, none⟩) (splitL c x).length (splitL c x).length) ∧ w' = w.alloc (.cells ((splitL c x).map str).toArray 9) := by
  obtain ⟨m, hm⟩ := hm
  refine (Tryz.strings_Split ⟨x.toArray⟩ ⟨#[c]⟩ m w (by rw [bs_size]; omega) hm (Nat.le_refl 1)).mono ?_
  rintro e w' ⟨rfl, rfl⟩
  rw [count_pieces c ⟨x.toArray⟩, split_cells c ⟨x.toArray⟩]
  exact ⟨rfl, rfl⟩

/-- The words of the first k pieces. -/
def wsTo (ps : List Bs) (k : Nat) : List Bs := (ps.take k).filter (fun w => !w.isEmpty)
theorem wsTo_keep {ps : List Bs} {k : Nat} {p : Bs} (h : ps[k]? = some p) (hp : p ≠ []) : wsTo ps (k + 1) = wsTo ps k ++ [p] := by
  obtain ⟨hlt, rfl⟩ := List.getElem?_eq_some_iff.1 h
  unfold wsTo
  rw [List.take_succ_eq_append_getElem hlt, List.filter_append]
  congr 1
  simp [hp]
theorem wsTo_drop {ps : List Bs} {k : Nat} {p : Bs} (h : ps[k]? = some p) (hp : p = []) : wsTo ps (k + 1) = wsTo ps k := by
  obtain ⟨hlt, rfl⟩ := List.getElem?_eq_some_iff.1 h
  unfold wsTo
  rw [List.take_succ_eq_append_getElem hlt, List.filter_append]
  simp [hp]
theorem wsTo_len (ps : List Bs) (k : Nat) : (wsTo ps k).length ≤ ps.length := by
  unfold wsTo
  exact Nat.le_trans (List.length_filter_le _ _) (by simp; omega)

/-- A row of texts of the call's own. -/
def OwnS (w : World) (xs : List Bs) (e : Ending) (w' : World) : Prop := ∃ a c, e = .returned (.slice a xs.length c) ∧ w'.ownsRow w.heap.size 9 1 (.slice a xs.length c) xs.length (xs.map str) ∧ Below w.heap.size w w'

theorem Tryz.info9 : (Tryz.prog.info? 9).map (fun i => (i.zero, i.size, i.bytes)) = some (some (.string ByteArray.empty), 1, 16) := by kernel_rfl
theorem Tryz.info22 : (Tryz.prog.info? 22).map (fun i => (i.zero, i.size, i.bytes)) = some (some (.slice none 0 0), 1, 24) := by kernel_rfl

/-- What is appended lies in a new block of one cell. -/
theorem one_cell (wr : World) (x : Value) (e : TypeId) : ∀ j u, [x][j]? = some u → (wr.alloc (.cells #[x] e)).cell? ((⟨wr.heap.size, 0, none⟩ : Addr).add j) = some u := by
  intro j u h
  rcases j with _ | j
  · simp at h; subst h
    simp only [Addr.add, World.cell?, if_pos, heap_alloc_new]
    simp
  · simp at h
theorem one_one (x : Bs) : ∀ u ∈ [str x], u.oneCell' = true := by
  intro u h; simp at h; subst h; rfl

/-- The loop's relation: the words so far lie in a row of the call's own, and the pieces are as they were. -/
def WRel (w1 : World) (ps : List Bs) (k : Nat) (v : Value) (wr : World) : Prop :=
  wr.ownsRow (w1.heap.size + 1) 9 1 v (wsTo ps k).length ((wsTo ps k).map str) ∧ Below (w1.heap.size + 1) (w1.alloc (.cells (ps.map str).toArray 9)) wr
theorem wrel_start (w1 : World) (ps : List Bs) : WRel w1 ps 0 (.slice none 0 0) (w1.alloc (.cells (ps.map str).toArray 9)) :=
  ⟨World.ownsRow_nil _ _ _ _, Below.refl _ _⟩
theorem WRel.cell {w1 : World} {ps : List Bs} {k : Nat} {v : Value} {wr : World} (h : WRel w1 ps k v wr) {j : Nat} {p : Bs} (hp : ps[j]? = some p) : wr.cell? ⟨w1.heap.size, j, none⟩ = some (str p) := by
  rw [h.2.cell (p := ⟨w1.heap.size, j, none⟩) (Nat.lt_succ_self _)]
  simp only [World.cell?, heap_alloc_new]
  simp [hp]
theorem WRel.size {w1 : World} {ps : List Bs} {k : Nat} {v : Value} {wr : World} (h : WRel w1 ps k v wr) : w1.heap.size + 1 ≤ wr.heap.size := by
  have := h.2.size; simpa using this
theorem WRel.drop {w1 : World} {ps : List Bs} {k : Nat} {v : Value} {wr : World} (h : WRel w1 ps k v wr) (hp : ps[k]? = some []) : WRel w1 ps (k + 1) v wr := by
  unfold WRel; rw [wsTo_drop hp rfl]; exact h
theorem WRel.keep {w1 : World} {ps : List Bs} {k : Nat} {v v' : Value} {wr w' : World} {p : Bs} {o : Obj} (h : WRel w1 ps k v wr) (hp : ps[k]? = some p) (hne : p ≠ [])
    (ho : w'.ownsRow (w1.heap.size + 1) 9 1 v' ((wsTo ps k).length + 1) ((wsTo ps k).map str ++ [str p])) (hg : (wr.alloc o).grownBy w' v.ownBlock) : WRel w1 ps (k + 1) v' w' := by
  unfold WRel; rw [wsTo_keep hp hne]
  refine ⟨by simpa using ho, ?_⟩
  have hb := h.2.alloc h.size o
  exact hb.grown hg (by have := h.size; simp; omega) (fun g hg' => ((h.1.alloc o).lt g hg').1)
theorem WRel.done {w w1 : World} {ps : List Bs} {v : Value} {wr : World} (h : WRel w1 ps ps.length v wr) (hh : w1.heap = w.heap) (hb : Below w.heap.size w w1) : OwnS w (wsTo ps ps.length) (.returned v) wr := by
  have hbw : Below w.heap.size w wr := by
    refine hb.trans ?_
    rw [← hh]
    exact ((Below.refl _ _).alloc (Nat.le_refl _) _).trans (h.2.mono (by omega))
  have ho : wr.ownsRow w.heap.size 9 1 v (wsTo ps ps.length).length ((wsTo ps ps.length).map str) := ownsRow_le h.1 (by rw [hh]; omega)
  rcases ownsRow_forms h.1 with ⟨rfl, h0⟩ | ⟨g, cap, rfl⟩
  · exact ⟨none, 0, by rw [h0], by rw [h0] at ho ⊢; exact ho, hbw⟩
  · exact ⟨_, cap, rfl, ho, hbw⟩

set_option maxHeartbeats 2000000 in
theorem wordsOf_any (s : ByteArray) (w : World) (hs : s.size ≤ 20000) (hm : HasM w) : Calls Tryz.prog 53 #[.string s] w (OwnS w (wordsL s.data.toList)) := by
  obtain ⟨i0, hi, hz0, hz1, hz2⟩ := info_parts Tryz.info9
  have hx : (s.data.toList.takeWhile (fun c => c != 35)).length ≤ 20000 := Nat.le_trans (List.takeWhile_sublist _).length_le (by rw [len_size]; exact hs)
  have hw : wordsL s.data.toList = wsTo (splitL 32 (s.data.toList.takeWhile (fun c => c != 35))) (splitL 32 (s.data.toList.takeWhile (fun c => c != 35))).length := by unfold wsTo wordsL; rw [List.take_length]
  have HCUT := cut_any s w hs hm
  rw [hw]
  clear hw
  generalize s.data.toList.takeWhile (fun c => c != 35) = x at *
  have hps : (splitL 32 x).length ≤ 20001 := by rw [splitL_length]; have := List.count_le_length (a := 32) (l := x); omega
  go_enter Tryz.func53, Tryz.ntmps53
  go_wp2_with (go_at_call 93; refine HCUT.mono ?_; rintro e w1 ⟨y, z, rfl, hh, hb1⟩; have HM := hm.below hb1; have HH := Lib.hid hh; clear hh HCUT)
  go_wp2_with (go_at_call 52; refine (split_any 32 x w1 hx HM).mono ?_; rintro e w2 ⟨rfl, rfl⟩)
  generalize splitL 32 x = ps at *
  go_loopw [6, 18] (fun v i wr => ∃ k : Nat, k ≤ ps.length ∧ i = .int .i64 k ∧ WRel w1 ps k v wr) (fun _ i _ => ps.length - (intOf i).toNat)
  case atStart => exact ⟨0, Nat.zero_le _, rfl, wrel_start w1 ps⟩
  case round =>
    obtain ⟨k, hk, rfl, hr⟩ := hrel
    by_cases hlt : k < ps.length
    · have hx : ps[k]? = some ps[k] := List.getElem?_eq_getElem hlt
      have hcx := hr.cell hx
      have hn := wsTo_len ps k
      generalize hX : ps[k] = p at hx hcx
      clear hX
      have HX := Lib.hid hx
      clear hx
      have hfit : (wsTo ps k).length + 1 ≤ maxLen := by unfold maxLen; omega
      rcases hp : p with _ | ⟨p0, pr⟩
      · subst hp
        go_wp2
        go_roundw
        case rel => exact ⟨k + 1, by omega, by go_num, hr.drop HX.out⟩
        case measure => simp [intOf]; omega
      · have HP : Hid (p ≠ []) := Lib.hid (by rw [hp]; simp)
        subst hp
        go_wp2_with (at_builtin; refine wpList_append_own _ rfl _ _ 22 rfl (w1.heap.size + 1) 9 i0 (.string ByteArray.empty) 1 16 Tryz.underlying22 hi hz0 hz1 hz2 rfl (by decide) _ _ _ rfl (hr.1.alloc _) ⟨wr.heap.size, 0, none⟩ 1 1 [str (p0 :: pr)] rfl rfl ?c1 ?c2 ?c3 ?c4 ?c5 ?_)
        case c1 => exact one_cell wr _ _
        case c2 => exact one_one _
        case c3 => exact hfit
        case c4 => omega
        case c5 => have := hr.size; simp; omega
        intro v' w' ho hg _
        have HN := Lib.hid (hr.keep HX.out HP.out ho hg)
        clear ho hg
        go_wp2
        go_roundw
        case rel => exact ⟨k + 1, by omega, by go_num, HN.out⟩
        case measure => simp [intOf]; omega
    · go_wp2
      go_ret
      obtain rfl : k = ps.length := by omega
      exact hr.done HH.out hb1
end Go.Proofs.YtcjhgibhenocpaaGreatDoor

/- What the rows list, met by a world; the library's variable out of the world's shape. -/
namespace Go.Proofs.YtcjhgibhenocpaaGreatDoor
set_option linter.unusedSimpArgs false
set_option linter.unusedVariables false
open Go.RowKit

abbrev laidR : List (String × DataW Unit) := Rows.wholeTextRow.laid
theorem hasM_of {W : World} (h : W.ShapedOpen Tryz.prog) : HasM W :=
  cell_of_shapedOpen_int (g := 2) (t := 3) (zero := #[.int .i64 0]) (k := .i64) h (of_decide_eq_true (by kernel_rfl)) (by kernel_rfl) rfl (by kernel_rfl) (by kernel_rfl) (by kernel_rfl)
end Go.Proofs.YtcjhgibhenocpaaGreatDoor

/- A struct or an array in a block of its own: stored whole, and cell by cell. -/
namespace Go.Proofs.YtcjhgibhenocpaaGreatDoor
set_option linter.unusedSimpArgs false
set_option linter.unusedVariables false
open Go.RowKit

/-- A block as it stands behind a whole store. -/
abbrev blk (w : World) (b : Nat) (cs : Array Value) (t : TypeId) : Prop := w.heap[b]? = some (.cells cs t (0, 0))
theorem blk_lt {w : World} {b : Nat} {cs : Array Value} {t : TypeId} (h : blk w b cs t) : b < w.heap.size := (Array.getElem?_eq_some_iff.1 h).1
theorem blk_below {w w' : World} {b : Nat} {cs : Array Value} {t : TypeId} (h : blk w b cs t) (hb : Below w.heap.size w w') : blk w' b cs t := by
  unfold blk; rw [hb.block b (blk_lt h)]; exact h
theorem blk_alloc {w : World} {b : Nat} {cs : Array Value} {t : TypeId} (h : blk w b cs t) (o : Obj) : blk (w.alloc o) b cs t := by
  unfold blk; rw [Below.heap_alloc _ _ _ (blk_lt h)]; exact h
theorem blk_new (w : World) (cs : Array Value) (t : TypeId) : blk (w.alloc (.cells cs t)) w.heap.size cs t := heap_alloc_new w _
theorem blk_range {w : World} {b : Nat} {cs : Array Value} {t : TypeId} (h : blk w b cs t) : w.rangeAt b 0 cs.toList := by
  intro j v hv
  simp only [World.cell?, h, Nat.zero_add]
  simpa using hv
theorem blk_cell {w : World} {b : Nat} {cs : Array Value} {t : TypeId} (h : blk w b cs t) (j : Nat) (v : Value) (hv : cs[j]? = some v) : w.cell? ⟨b, j, none⟩ = some v := by
  simp only [World.cell?, h]
  simpa using hv
theorem blk_frozen {w : World} {b : Nat} {cs : Array Value} {t : TypeId} (h : blk w b cs t) (j : Nat) : w.frozen? ⟨b, j, none⟩ = false := by
  simp [World.frozen?, h]

/-- The block b anew. -/
def putO (w : World) (b : Nat) (o : Obj) : World := { w with heap := w.heap.setIfInBounds b o }
theorem putO_at {w : World} {b : Nat} (h : b < w.heap.size) (o : Obj) : (putO w b o).heap[b]? = some o := by simp [putO, h]
theorem putO_ne (w : World) {b g : Nat} (h : g ≠ b) (o : Obj) : (putO w b o).heap[g]? = w.heap[g]? := by
  unfold putO; rw [Array.getElem?_setIfInBounds, if_neg (fun e => h e.symm)]
theorem putO_size (w : World) (b : Nat) (o : Obj) : (putO w b o).heap.size = w.heap.size := by simp [putO]
theorem putO_below {B : Nat} (w : World) {b : Nat} (h : B ≤ b) (o : Obj) : Below B w (putO w b o) :=
  ⟨rfl, rfl, rfl, by rw [putO_size]; exact Nat.le_refl _, fun k hk => putO_ne w (by omega) o⟩
abbrev putB (w : World) (b : Nat) (cs : Array Value) (t : TypeId) : World := putO w b (.cells cs t (0, 0))
theorem putB_at {w : World} {b : Nat} {old : Array Value} {t' : TypeId} (h : blk w b old t') (cs : Array Value) (t : TypeId) : blk (putB w b cs t) b cs t := putO_at (blk_lt h) _
theorem putB_ne (w : World) {b g : Nat} (h : g ≠ b) (cs : Array Value) (t : TypeId) : (putB w b cs t).heap[g]? = w.heap[g]? := putO_ne w h _
theorem putB_size (w : World) (b : Nat) (cs : Array Value) (t : TypeId) : (putB w b cs t).heap.size = w.heap.size := putO_size w b _
theorem putB_below {B : Nat} (w : World) {b : Nat} (h : B ≤ b) (cs : Array Value) (t : TypeId) : Below B w (putB w b cs t) :=
  ⟨rfl, rfl, rfl, by rw [putB_size]; exact Nat.le_refl _, fun k hk => putB_ne w (by omega) cs t⟩
theorem setCell_putB {w : World} {b : Nat} {cs : Array Value} {t : TypeId} (h : blk w b cs t) (j : Nat) (v : Value) : w.setCell ⟨b, j, none⟩ v = putB w b (cs.setIfInBounds j v) t := by
  unfold World.setCell putB putO
  congr 1
  apply Array.ext'
  have := h
  unfold blk at this
  obtain ⟨hlt, he⟩ := Array.getElem?_eq_some_iff.1 this
  rw [Array.toList_modify, Array.toList_setIfInBounds]
  apply List.ext_getElem?
  intro i
  rw [List.getElem?_modify, List.getElem?_set]
  by_cases e : b = i
  · subst e
    simp [he, hlt]
  · simp [e]

theorem setRow_putB {w : World} {b : Nat} {old : Array Value} {t : TypeId} (h : blk w b old t) (cs : Array Value) : w.setRow b cs = putB w b cs t := by
  unfold World.setRow putB putO
  congr 1
  apply Array.ext'
  have := h
  unfold blk at this
  obtain ⟨hlt, he⟩ := Array.getElem?_eq_some_iff.1 this
  rw [Array.toList_modify, Array.toList_setIfInBounds]
  apply List.ext_getElem?
  intro i
  rw [List.getElem?_modify, List.getElem?_set]
  by_cases e : b = i
  · subst e
    simp [he, hlt]
  · simp [e]

/-- A whole struct, or array, is stored. -/
theorem wpList_putB {ops : Array Oper} {rest : List Oper} {o : Oper} {a : Act} {w : World} {Q : Exit → Act → World → Prop} (hgd : o.guard = none) (ty : TypeId) (x y : Operand) (ho : o.op = .store ty x y)
    (b : Nat) (cells : Array Value) (hx : a.eval x = .pointer (some ⟨b, 0, none⟩)) (hy : a.eval y = .agg cells) (t : TypeId) (old : Array Value) (hb : blk w b old t)
    (hi : (Tryz.prog.info? ty).map (·.size) = some cells.size) (hold : old.size = cells.size) (h1 : cells.all (·.oneCell') = true)
    (h : wpList Tryz.prog ops Q rest (a.put o.dst undef) (putB w b cells t)) : wpList Tryz.prog ops Q (o :: rest) a w :=
  wpList_plain hgd fun _ hK => wp_store_row ty x y ho b cells hx hy t old hb hi hold h1 (by rw [setRow_putB hb]; exact hK _ _ h)

/-- A whole struct, or array, is loaded. -/
theorem wpList_loadB {ops : Array Oper} {rest : List Oper} {o : Oper} {a : Act} {w : World} {Q : Exit → Act → World → Prop} (hgd : o.guard = none) (ty : TypeId) (x : Operand) (ho : o.op = .load ty x)
    (b : Nat) (cells : Array Value) (hx : a.eval x = .pointer (some ⟨b, 0, none⟩)) (t : TypeId) (hb : blk w b cells t) (d : TypeDesc)
    (hu : Tryz.prog.underlying ty = some d) (hd : d.isRow = true) (hi : (Tryz.prog.info? ty).map (·.size) = some cells.size)
    (h : wpList Tryz.prog ops Q rest (a.put o.dst (.agg cells)) w) : wpList Tryz.prog ops Q (o :: rest) a w :=
  wpList_load_mid hgd ty x ho b 0 hx cells.toList d (blk_range hb) hu hd (by simpa using hi) h

/-- What is answered out of a block, beside slots. -/
theorem res_cell1 {fn : Func} {p u : Tmp} {ty : TypeId} (h : fn.results = #[.cell p ty, .tmp u]) (tmps : Array Value) (w : World) (b : Nat) (cells : Array Value) (t : TypeId) (d : TypeDesc) (hp : tmps.getD p undef = .pointer (some ⟨b, 0, none⟩))
    (hb : blk w b cells t) (hu : Tryz.prog.underlying ty = some d) (hd : d.isRow = true) (hi : (Tryz.prog.info? ty).map (·.size) = some cells.size) :
    (results fn tmps).run Tryz.prog w = .ok (.tuple #[.agg cells, tmps.getD u undef]) w := by
  rw [results_cell_tmp h, hp]
  have hl := run_loadVar_mid (P := Tryz.prog) w b 0 ty cells.toList d (blk_range hb) hu hd (by simpa using hi)
  simp [asAddr, Result.andThen, hl]
theorem res_cell0 {fn : Func} {p : Tmp} {ty : TypeId} (h : fn.results = #[.cell p ty]) (tmps : Array Value) (w : World) (b : Nat) (cells : Array Value) (t : TypeId) (d : TypeDesc) (hp : tmps.getD p undef = .pointer (some ⟨b, 0, none⟩))
    (hb : blk w b cells t) (hu : Tryz.prog.underlying ty = some d) (hd : d.isRow = true) (hi : (Tryz.prog.info? ty).map (·.size) = some cells.size) :
    (results fn tmps).run Tryz.prog w = .ok (.agg cells) w := by
  have hl := run_loadVar_mid (P := Tryz.prog) w b 0 ty cells.toList d (blk_range hb) hu hd (by simpa using hi)
  have hp' : tmps[p]?.getD undef = .pointer (some ⟨b, 0, none⟩) := by rw [← hp]; simp
  simp [results, h, hp', asAddr, hl]
theorem res_cell2 {fn : Func} {p u v : Tmp} {ty : TypeId} (h : fn.results = #[.cell p ty, .tmp u, .tmp v]) (tmps : Array Value) (w : World) (b : Nat) (cells : Array Value) (t : TypeId) (d : TypeDesc) (hp : tmps.getD p undef = .pointer (some ⟨b, 0, none⟩))
    (hb : blk w b cells t) (hu : Tryz.prog.underlying ty = some d) (hd : d.isRow = true) (hi : (Tryz.prog.info? ty).map (·.size) = some cells.size) :
    (results fn tmps).run Tryz.prog w = .ok (.tuple #[.agg cells, tmps.getD u undef, tmps.getD v undef]) w := by
  have hl := run_loadVar_mid (P := Tryz.prog) w b 0 ty cells.toList d (blk_range hb) hu hd (by simpa using hi)
  have hp' : tmps[p]?.getD undef = .pointer (some ⟨b, 0, none⟩) := by rw [← hp]; simp
  simp [results, h, hp', asAddr, Result.andThen, hl]
end Go.Proofs.YtcjhgibhenocpaaGreatDoor

/- The table of operations, as it lies; the contracts of byOp, byName, numbersOf. -/
namespace Go.Proofs.YtcjhgibhenocpaaGreatDoor
set_option linter.unusedSimpArgs false
set_option linter.unusedVariables false
open Go.RowKit

abbrev opCells (o : Int × Bs × Bs) : List Value := [.int .u8 o.1, str o.2.1, str o.2.2]
def opsCells : List Value := OPS.flatMap opCells
def opsV : Value := .agg opsCells.toArray
/-- The table lies where it is laid. -/
def HasO (w : World) : Prop := w.rangeAt 0 0 opsCells ∧ 0 < w.heap.size
theorem HasO.below {w w' : World} (h : HasO w) (hb : Below w.heap.size w w') : HasO w' :=
  ⟨fun j v hv => by rw [(bcell hb).1 0 (0 + j) h.2]; exact h.1 j v hv, Nat.lt_of_lt_of_le h.2 hb.size⟩
theorem opers_info : (Tryz.prog.info? 144).map (·.size) = some opsCells.length := by kernel_rfl

set_option maxRecDepth 100000 in
theorem ops_index (k : Nat) (o : Int × Bs × Bs) (h : OPS[k]? = some o) (w : World) : (Instr.index 144 opsV (.int .i64 k)).run Tryz.prog w = .ok (.agg (opCells o).toArray) w := by
  have hk : k < 15 := (List.getElem?_eq_some_iff.1 h).1
  have hc : k = 0 ∨ k = 1 ∨ k = 2 ∨ k = 3 ∨ k = 4 ∨ k = 5 ∨ k = 6 ∨ k = 7 ∨ k = 8 ∨ k = 9 ∨ k = 10 ∨ k = 11 ∨ k = 12 ∨ k = 13 ∨ k = 14 := by omega
  rcases hc with rfl | rfl | rfl | rfl | rfl | rfl | rfl | rfl | rfl | rfl | rfl | rfl | rfl | rfl | rfl <;> (obtain rfl := Option.some.inj h; rfl)

/-- What is told of an operation that is there, and of none. -/
def OpPost (w : World) (r : Option (Int × Bs × Bs)) (e : Ending) (w' : World) : Prop :=
  e = .returned (match r with
    | some o => .tuple #[.agg (opCells o).toArray, .bool true]
    | none => .tuple #[.agg #[.int .u8 0, str [], str []], .bool false]) ∧ Below w.heap.size w w'

theorem find_next {p : (Int × Bs × Bs) → Bool} {k : Nat} {o : Int × Bs × Bs} (h : (OPS.take k).find? p = none) (ho : OPS[k]? = some o) (hp : p o = false) : (OPS.take (k + 1)).find? p = none := by
  obtain ⟨hlt, rfl⟩ := List.getElem?_eq_some_iff.1 ho
  rw [List.take_succ_eq_append_getElem hlt, List.find?_append, h]
  simp [hp]
theorem find_here {p : (Int × Bs × Bs) → Bool} {k : Nat} {o : Int × Bs × Bs} (h : (OPS.take k).find? p = none) (ho : OPS[k]? = some o) (hp : p o = true) : OPS.find? p = some o := by
  obtain ⟨hlt, rfl⟩ := List.getElem?_eq_some_iff.1 ho
  conv => lhs; rw [← List.take_append_drop (k + 1) OPS]
  rw [List.take_succ_eq_append_getElem hlt, List.find?_append, List.find?_append, h]
  simp [hp]

/-- What a round leaves: the block of the answer as it was made. -/
def ORel (w wr : World) : Prop := blk wr w.heap.size #[.int .u8 0, .string ⟨#[]⟩, .string ⟨#[]⟩] 90 ∧ Below w.heap.size w wr
theorem orel_start (w : World) : ORel w (w.alloc (.cells #[.int .u8 0, .string ⟨#[]⟩, .string ⟨#[]⟩] 90)) := ⟨heap_alloc_new w _, (Below.refl _ _).alloc (Nat.le_refl _) _⟩
theorem ORel.lt {w wr : World} (h : ORel w wr) : w.heap.size < wr.heap.size := (Array.getElem?_eq_some_iff.1 h.1).1
theorem ORel.alloc {w wr : World} (h : ORel w wr) (o : Obj) : ORel w (wr.alloc o) := ⟨blk_alloc h.1 o, h.2.alloc (Nat.le_of_lt h.lt) o⟩

theorem oper_info : (Tryz.prog.info? 90).map (·.size) = some 3 := by kernel_rfl

theorem oper_one (o : Int × Bs × Bs) : (opCells o).toArray.all (·.oneCell') = true := all_oneCell_toArray (by intro v h; simp [opCells] at h; rcases h with rfl | rfl | rfl <;> rfl)

set_option maxRecDepth 100000 in
set_option maxHeartbeats 1000000 in
theorem byOp_any (c : Int) (w : World) (ho : HasO w) : Calls Tryz.prog 44 #[.int .u8 c] w (OpPost w (byOpL c)) := by
  have HOP := Lib.hid ho
  have HI := Lib.hid opers_info
  have HX := Lib.hid ops_index
  clear ho
  have HR : Hid (∀ k o, (OPS.take k).find? (fun o => o.1 == c) = none → OPS[k]? = some o → (o.1 == c) = true → byOpL c = some o) := Lib.hid fun k o h1 h2 h3 => find_here h1 h2 h3
  have HN : Hid ((OPS.take 15).find? (fun o => o.1 == c) = none → byOpL c = none) := Lib.hid fun h => h
  generalize byOpL c = r at *
  unfold opsV at HX
  go_enter Tryz.func44, Tryz.ntmps44
  go_wp2_with (refine wpList_load_mid rfl 144 _ rfl 0 0 rfl opsCells _ ?c1 Tryz.underlying144 rfl HI.out ?_)
  case c1 => exact fun j v hj => by rw [Below.cell (w := w) (w' := _) (((Below.refl _ _).alloc (Nat.le_refl _) _)) (p := ⟨0, 0 + j, none⟩) HOP.out.2]; exact HOP.out.1 j v hj
  go_loopw [7] (fun i wr => ∃ k : Nat, k ≤ 15 ∧ i = .int .i64 k ∧ Hid ((OPS.take k).find? (fun o => o.1 == c) = none) ∧ ORel w wr) (fun i _ => 15 - (intOf i).toNat)
  case atStart => exact ⟨0, by omega, rfl, Lib.hid rfl, orel_start w⟩
  case round =>
    obtain ⟨k, hk, rfl, hf, hr⟩ := hrel
    by_cases hlt : k < 15
    · obtain ⟨o, ho⟩ : ∃ o, OPS[k]? = some o := ⟨_, List.getElem?_eq_getElem (show k < OPS.length from hlt)⟩
      have hidx := HX.out k o ho
      have HO := Lib.hid ho
      clear ho
      rcases htest : (o.1 == c) with _ | _
      · have HT := Lib.hid (find_next hf.out HO.out htest)
        go_wp2
        go_roundw
        case rel => exact ⟨k + 1, by omega, by go_num, HT, hr.alloc _⟩
        case measure => simp [intOf]; omega
      · have HR1 := Lib.hid (HR.out k o hf.out HO.out htest)
        have HR2 := Lib.hid (hr.alloc (.cells (opCells o).toArray 90))
        go_wp2_with (refine wpList_putB rfl 90 _ _ rfl w.heap.size (opCells o).toArray rfl rfl 90 _ HR2.out.1 oper_info rfl (oper_one o) ?_)
        refine bodyPost_ret (v := .tuple #[.agg (opCells o).toArray, .bool true]) ?_ rfl ⟨?_, ?_⟩
        · rw [res_cell1 (p := 2) (u := 3) rfl _ _ w.heap.size (opCells o).toArray 90 _ rfl (putB_at HR2.out.1 _ _) Tryz.underlying90 rfl oper_info]; rfl
        · rw [HR1.out]
        · exact HR2.out.2.trans (putB_below _ (Nat.le_refl _) _ _)
    · obtain rfl : k = 15 := by omega
      have HR1 := Lib.hid (HN.out hf.out)
      go_wp2_with (refine wpList_putB rfl 90 _ _ rfl w.heap.size #[.int .u8 0, str [], str []] rfl rfl 90 _ hr.1 oper_info rfl (oper_one (0, [], [])) ?_)
      refine bodyPost_ret (v := .tuple #[.agg #[.int .u8 0, str [], str []], .bool false]) ?_ rfl ⟨?_, ?_⟩
      · rw [res_cell1 (p := 2) (u := 3) rfl _ _ w.heap.size #[.int .u8 0, str [], str []] 90 _ rfl (putB_at hr.1 _ _) Tryz.underlying90 rfl oper_info]; rfl
      · rw [HR1.out]
      · exact hr.2.trans (putB_below _ (Nat.le_refl _) _ _)
set_option maxRecDepth 100000 in
set_option maxHeartbeats 1000000 in
theorem byName_any (x : Bs) (w : World) (ho : HasO w) : Calls Tryz.prog 96 #[str x] w (OpPost w (byNameL x)) := by
  have HOP := Lib.hid ho
  have HI := Lib.hid opers_info
  have HX := Lib.hid ops_index
  clear ho
  have HR : Hid (∀ k o, (OPS.take k).find? (fun o => o.2.1 == x) = none → OPS[k]? = some o → (o.2.1 == x) = true → byNameL x = some o) := Lib.hid fun k o h1 h2 h3 => find_here h1 h2 h3
  have HN : Hid ((OPS.take 15).find? (fun o => o.2.1 == x) = none → byNameL x = none) := Lib.hid fun h => h
  generalize byNameL x = r at *
  unfold opsV at HX
  go_enter Tryz.func96, Tryz.ntmps96
  go_wp2_with (refine wpList_load_mid rfl 144 _ rfl 0 0 rfl opsCells _ ?c1 Tryz.underlying144 rfl HI.out ?_)
  case c1 => exact fun j v hj => by rw [Below.cell (w := w) (w' := _) (((Below.refl _ _).alloc (Nat.le_refl _) _)) (p := ⟨0, 0 + j, none⟩) HOP.out.2]; exact HOP.out.1 j v hj
  go_loopw [7] (fun i wr => ∃ k : Nat, k ≤ 15 ∧ i = .int .i64 k ∧ Hid ((OPS.take k).find? (fun o => o.2.1 == x) = none) ∧ ORel w wr) (fun i _ => 15 - (intOf i).toNat)
  case atStart => exact ⟨0, by omega, rfl, Lib.hid rfl, orel_start w⟩
  case round =>
    obtain ⟨k, hk, rfl, hf, hr⟩ := hrel
    by_cases hlt : k < 15
    · obtain ⟨o, ho⟩ : ∃ o, OPS[k]? = some o := ⟨_, List.getElem?_eq_getElem (show k < OPS.length from hlt)⟩
      have hidx := HX.out k o ho
      have HO := Lib.hid ho
      clear ho
      rcases htest : (o.2.1 == x) with _ | _
      · have HT := Lib.hid (find_next hf.out HO.out htest)
        go_wp2
        go_roundw
        case rel => exact ⟨k + 1, by omega, by go_num, HT, hr.alloc _⟩
        case measure => simp [intOf]; omega
      · have HR1 := Lib.hid (HR.out k o hf.out HO.out htest)
        have HR2 := Lib.hid (hr.alloc (.cells (opCells o).toArray 90))
        go_wp2_with (refine wpList_putB rfl 90 _ _ rfl w.heap.size (opCells o).toArray rfl rfl 90 _ HR2.out.1 oper_info rfl (oper_one o) ?_)
        refine bodyPost_ret (v := .tuple #[.agg (opCells o).toArray, .bool true]) ?_ rfl ⟨?_, ?_⟩
        · rw [res_cell1 (p := 2) (u := 3) rfl _ _ w.heap.size (opCells o).toArray 90 _ rfl (putB_at HR2.out.1 _ _) Tryz.underlying90 rfl oper_info]; rfl
        · rw [HR1.out]
        · exact HR2.out.2.trans (putB_below _ (Nat.le_refl _) _ _)
    · obtain rfl : k = 15 := by omega
      have HR1 := Lib.hid (HN.out hf.out)
      go_wp2_with (refine wpList_putB rfl 90 _ _ rfl w.heap.size #[.int .u8 0, str [], str []] rfl rfl 90 _ hr.1 oper_info rfl (oper_one (0, [], [])) ?_)
      refine bodyPost_ret (v := .tuple #[.agg #[.int .u8 0, str [], str []], .bool false]) ?_ rfl ⟨?_, ?_⟩
      · rw [res_cell1 (p := 2) (u := 3) rfl _ _ w.heap.size #[.int .u8 0, str [], str []] 90 _ rfl (putB_at hr.1 _ _) Tryz.underlying90 rfl oper_info]; rfl
      · rw [HR1.out]
      · exact hr.2.trans (putB_below _ (Nat.le_refl _) _ _)
end Go.Proofs.YtcjhgibhenocpaaGreatDoor

/- The contract of numbersOf. -/
namespace Go.Proofs.YtcjhgibhenocpaaGreatDoor
set_option linter.unusedSimpArgs false
set_option linter.unusedVariables false
open Go.RowKit

abbrev insC (i : PIns) : Array Value := #[.int .u8 i.op, .int .u8 i.a, .int .u8 i.b, .int .u8 i.c, .int .i64 i.n]
abbrev insV (i : PIns) : Value := .agg (insC i)
abbrev numC (i : PIns) : Array Value := #[.int .i64 i.a, .int .i64 i.b, .int .i64 i.c, .int .i64 i.n]
theorem nums_info : (Tryz.prog.info? 94).map (·.size) = some 4 := by kernel_rfl
theorem ins_info : (Tryz.prog.info? 60).map (·.size) = some 5 := by kernel_rfl
def AggPost (w : World) (v : Value) (e : Ending) (w' : World) : Prop := e = .returned v ∧ Below w.heap.size w w'

set_option maxRecDepth 100000 in
theorem numbersOf_any (i : PIns) (w : World) (hi : OkI i) : Calls Tryz.prog 45 #[insV i] w (AggPost w (.agg (numC i))) := by
  obtain ⟨x, a, b, c, n⟩ := i
  obtain ⟨o0, o1, a0, a1, b0, b1, c0, c1, n0, n1⟩ := hi
  simp only at *
  go_enter Tryz.func45, Tryz.ntmps45
  go_wp2
  refine bodyPost_ret (v := .agg #[.int .i64 a, .int .i64 b, .int .i64 c, .int .i64 n]) ?_ rfl ⟨rfl, ((Below.refl _ _).alloc (Nat.le_refl _) _).alloc (by simp) _⟩
  have hb := blk_new (w.alloc (.cells (insC { op := x, a := a, b := b, c := c, n := n }) 60)) #[.int .i64 a, .int .i64 b, .int .i64 c, .int .i64 n] 94
  rw [World.size_alloc] at hb
  rw [res_cell0 (p := 2) rfl _ _ (w.heap.size + 1) #[.int .i64 a, .int .i64 b, .int .i64 c, .int .i64 n] 94 _ rfl hb Tryz.underlying94 rfl nums_info]

/-! ### A range over a text that lies in a block of its own -/
theorem next_at (w : World) (r : Nat) (s : ByteArray) (k : Nat) (ty : TypeId) (hb : w.heap[r]? = some (.stringIter s k)) (h : k < s.size) (ha : (s[k]'h).toNat < 128) :
    (Instr.next (.pointer (some ⟨r, 0, none⟩)) true ty).run Tryz.prog w = .ok (.tuple #[.bool true, .int .i64 k, .int .i32 (s[k]'h).toNat]) (putO w r (.stringIter s (k + 1))) := by
  have hlt := (Array.getElem?_eq_some_iff.1 hb).1
  simp only [Instr.next, getObj, setObj, Sem.run_bind, Sem.run, hb, Result.andThen, h, if_true, decode_ascii s k h ha]
  simp [goInt, putO]
theorem next_none (w : World) (r : Nat) (s : ByteArray) (k : Nat) (ty : TypeId) (hb : w.heap[r]? = some (.stringIter s k)) (h : ¬ k < s.size) :
    (Instr.next (.pointer (some ⟨r, 0, none⟩)) true ty).run Tryz.prog w = .ok (.tuple #[.bool false]) w := by
  simp [Instr.next, getObj, Sem.run, hb, h]

/-- The letters that an operation has. -/
def FourL (hs : Bs) : Prop := ∀ c ∈ hs, c = 65 ∨ c = 66 ∨ c = 67 ∨ c = 78
theorem four_ops {o : Int × Bs × Bs} (h : o ∈ OPS) : FourL o.2.2 := by
  obtain ⟨_, _, _, _, _, _, _, _, hh⟩ := ops_cases h
  simp only [List.mem_cons, List.not_mem_nil, or_false] at hh
  have : o.2.2.all (fun c => decide (c = 65) || decide (c = 66) || decide (c = 67) || decide (c = 78)) = true := by
    rcases hh with hh | hh | hh | hh | hh | hh | hh <;> (rw [hh]; decide)
  intro c hc
  have h1 := List.all_eq_true.1 this c hc
  simp only [Bool.or_eq_true, decide_eq_true_eq] at h1
  rcases h1 with ((h1 | h1) | h1) | h1 <;> simp [h1]
theorem next_l (w : World) (r : Nat) (hs : Bs) (k : Nat) (c : UInt8) (ty : TypeId) (hb : w.heap[r]? = some (.stringIter ⟨hs.toArray⟩ k)) (h : hs[k]? = some c) (hc : c.toNat < 128) :
    (Instr.next (.pointer (some ⟨r, 0, none⟩)) true ty).run Tryz.prog w = .ok (.tuple #[.bool true, .int .i64 k, .int .i32 c.toNat]) (putO w r (.stringIter ⟨hs.toArray⟩ (k + 1))) := by
  obtain ⟨hlt, rfl⟩ := List.getElem?_eq_some_iff.1 h
  exact next_at w r ⟨hs.toArray⟩ k ty hb (show k < (⟨hs.toArray⟩ : ByteArray).size from hlt) hc
theorem next_end (w : World) (r : Nat) (hs : Bs) (ty : TypeId) (hb : w.heap[r]? = some (.stringIter ⟨hs.toArray⟩ hs.length)) :
    (Instr.next (.pointer (some ⟨r, 0, none⟩)) true ty).run Tryz.prog w = .ok (.tuple #[.bool false]) w :=
  next_none w r ⟨hs.toArray⟩ hs.length ty hb (by show ¬ hs.length < hs.length; omega)
end Go.Proofs.YtcjhgibhenocpaaGreatDoor
