/-
  A struct or an array in a block of its own: stored whole, and cell by cell.
-/
import Derived.Test.YtcenjphpdgadmaaDoorBRow
import Derived.Deep.MidRow
import Derived.Laws.Tables
import Derived.Laws.ResultCell
import Derived.WideMake
import Derived.MapKept
namespace Go.Proofs.YtcenjphpdgadmaaDoor
set_option linter.unusedSimpArgs false
set_option linter.unusedVariables false
open Go.RowKit

/-- A block as it stands behind a whole store. -/
abbrev blk (w : World) (b : Nat) (cs : Array Value) (t : TypeId) : Prop := w.heap[b]? = some (.cells cs t (0, 0))
theorem blk_lt {w : World} {b : Nat} {cs : Array Value} {t : TypeId} (h : blk w b cs t) : b < w.heap.size := (Array.getElem?_eq_some_iff.1 h).1
theorem blk_below {w w' : World} {b : Nat} {cs : Array Value} {t : TypeId} (h : blk w b cs t) (hb : Below w.heap.size w w') : blk w' b cs t := by
  unfold blk; rw [hb.block b (blk_lt h)]; exact h
theorem blk_alloc {w : World} {b : Nat} {cs : Array Value} {t : TypeId} (h : blk w b cs t) (o : Obj) : blk (w.alloc o) b cs t := by
  unfold blk; rw [Below.heap_alloc _ _ _ (blk_lt h)]; exact h
theorem blk_new (w : World) (cs : Array Value) (t : TypeId) : blk (w.alloc (.cells cs t)) w.heap.size cs t := heap_alloc_new w _
theorem blk_range {w : World} {b : Nat} {cs : Array Value} {t : TypeId} (h : blk w b cs t) : w.rangeAt b 0 cs.toList := by
  intro j v hv
  simp only [World.cell?, h, Nat.zero_add]
  simpa using hv
theorem blk_cell {w : World} {b : Nat} {cs : Array Value} {t : TypeId} (h : blk w b cs t) (j : Nat) (v : Value) (hv : cs[j]? = some v) : w.cell? ⟨b, j, none⟩ = some v := by
  simp only [World.cell?, h]
  simpa using hv
theorem blk_frozen {w : World} {b : Nat} {cs : Array Value} {t : TypeId} (h : blk w b cs t) (j : Nat) : w.frozen? ⟨b, j, none⟩ = false := by
  simp [World.frozen?, h]

/-- The block b anew. -/
def putO (w : World) (b : Nat) (o : Obj) : World := { w with heap := w.heap.setIfInBounds b o }
theorem putO_at {w : World} {b : Nat} (h : b < w.heap.size) (o : Obj) : (putO w b o).heap[b]? = some o := by simp [putO, h]
theorem putO_ne (w : World) {b g : Nat} (h : g ≠ b) (o : Obj) : (putO w b o).heap[g]? = w.heap[g]? := by
  unfold putO; rw [Array.getElem?_setIfInBounds, if_neg (fun e => h e.symm)]
theorem putO_size (w : World) (b : Nat) (o : Obj) : (putO w b o).heap.size = w.heap.size := by simp [putO]
abbrev putB (w : World) (b : Nat) (cs : Array Value) (t : TypeId) : World := putO w b (.cells cs t (0, 0))
theorem putB_at {w : World} {b : Nat} {old : Array Value} {t' : TypeId} (h : blk w b old t') (cs : Array Value) (t : TypeId) : blk (putB w b cs t) b cs t := putO_at (blk_lt h) _
theorem putB_ne (w : World) {b g : Nat} (h : g ≠ b) (cs : Array Value) (t : TypeId) : (putB w b cs t).heap[g]? = w.heap[g]? := putO_ne w h _
theorem putB_size (w : World) (b : Nat) (cs : Array Value) (t : TypeId) : (putB w b cs t).heap.size = w.heap.size := putO_size w b _
theorem putB_below {B : Nat} (w : World) {b : Nat} (h : B ≤ b) (cs : Array Value) (t : TypeId) : Below B w (putB w b cs t) :=
  ⟨rfl, rfl, rfl, by rw [putB_size]; exact Nat.le_refl _, fun k hk => putB_ne w (by omega) cs t⟩
theorem setCell_putB {w : World} {b : Nat} {cs : Array Value} {t : TypeId} (h : blk w b cs t) (j : Nat) (v : Value) : w.setCell ⟨b, j, none⟩ v = putB w b (cs.setIfInBounds j v) t := by
  unfold World.setCell putB putO
  congr 1
  apply Array.ext'
  have := h
  unfold blk at this
  obtain ⟨hlt, he⟩ := Array.getElem?_eq_some_iff.1 this
  rw [Array.toList_modify, Array.toList_setIfInBounds]
  apply List.ext_getElem?
  intro i
  rw [List.getElem?_modify, List.getElem?_set]
  by_cases e : b = i
  · subst e
    simp [he, hlt]
  · simp [e]

theorem setRow_putB {w : World} {b : Nat} {old : Array Value} {t : TypeId} (h : blk w b old t) (cs : Array Value) : w.setRow b cs = putB w b cs t := by
  unfold World.setRow putB putO
  congr 1
  apply Array.ext'
  have := h
  unfold blk at this
  obtain ⟨hlt, he⟩ := Array.getElem?_eq_some_iff.1 this
  rw [Array.toList_modify, Array.toList_setIfInBounds]
  apply List.ext_getElem?
  intro i
  rw [List.getElem?_modify, List.getElem?_set]
  by_cases e : b = i
  · subst e
    simp [he, hlt]
  · simp [e]

/-- A whole struct, or array, is stored. -/
theorem wpList_putB {ops : Array Oper} {rest : List Oper} {o : Oper} {a : Act} {w : World} {Q : Exit → Act → World → Prop} (hgd : o.guard = none) (ty : TypeId) (x y : Operand) (ho : o.op = .store ty x y)
    (b : Nat) (cells : Array Value) (hx : a.eval x = .pointer (some ⟨b, 0, none⟩)) (hy : a.eval y = .agg cells) (t : TypeId) (old : Array Value) (hb : blk w b old t)
    (hi : (Tryd.prog.info? ty).map (·.size) = some cells.size) (hold : old.size = cells.size) (h1 : cells.all (·.oneCell') = true)
    (h : wpList Tryd.prog ops Q rest (a.put o.dst undef) (putB w b cells t)) : wpList Tryd.prog ops Q (o :: rest) a w :=
  wpList_plain hgd fun _ hK => wp_store_row ty x y ho b cells hx hy t old hb hi hold h1 (by rw [setRow_putB hb]; exact hK _ _ h)

/-- A whole struct, or array, is loaded. -/
theorem wpList_loadB {ops : Array Oper} {rest : List Oper} {o : Oper} {a : Act} {w : World} {Q : Exit → Act → World → Prop} (hgd : o.guard = none) (ty : TypeId) (x : Operand) (ho : o.op = .load ty x)
    (b : Nat) (cells : Array Value) (hx : a.eval x = .pointer (some ⟨b, 0, none⟩)) (t : TypeId) (hb : blk w b cells t) (d : TypeDesc)
    (hu : Tryd.prog.underlying ty = some d) (hd : d.isRow = true) (hi : (Tryd.prog.info? ty).map (·.size) = some cells.size)
    (h : wpList Tryd.prog ops Q rest (a.put o.dst (.agg cells)) w) : wpList Tryd.prog ops Q (o :: rest) a w :=
  wpList_load_mid hgd ty x ho b 0 hx cells.toList d (blk_range hb) hu hd (by simpa using hi) h

/-- What is answered out of a block, beside slots. -/
theorem res_cell1 {fn : Func} {p u : Tmp} {ty : TypeId} (h : fn.results = #[.cell p ty, .tmp u]) (tmps : Array Value) (w : World) (b : Nat) (cells : Array Value) (t : TypeId) (d : TypeDesc) (hp : tmps.getD p undef = .pointer (some ⟨b, 0, none⟩))
    (hb : blk w b cells t) (hu : Tryd.prog.underlying ty = some d) (hd : d.isRow = true) (hi : (Tryd.prog.info? ty).map (·.size) = some cells.size) :
    (results fn tmps).run Tryd.prog w = .ok (.tuple #[.agg cells, tmps.getD u undef]) w := by
  rw [results_cell_tmp h, hp]
  have hl := run_loadVar_mid (P := Tryd.prog) w b 0 ty cells.toList d (blk_range hb) hu hd (by simpa using hi)
  simp [asAddr, Result.andThen, hl]
theorem res_cell2 {fn : Func} {p u v : Tmp} {ty : TypeId} (h : fn.results = #[.cell p ty, .tmp u, .tmp v]) (tmps : Array Value) (w : World) (b : Nat) (cells : Array Value) (t : TypeId) (d : TypeDesc) (hp : tmps.getD p undef = .pointer (some ⟨b, 0, none⟩))
    (hb : blk w b cells t) (hu : Tryd.prog.underlying ty = some d) (hd : d.isRow = true) (hi : (Tryd.prog.info? ty).map (·.size) = some cells.size) :
    (results fn tmps).run Tryd.prog w = .ok (.tuple #[.agg cells, tmps.getD u undef, tmps.getD v undef]) w := by
  have hl := run_loadVar_mid (P := Tryd.prog) w b 0 ty cells.toList d (blk_range hb) hu hd (by simpa using hi)
  have hp' : tmps[p]?.getD undef = .pointer (some ⟨b, 0, none⟩) := by rw [← hp]; simp
  simp [results, h, hp', asAddr, Result.andThen, hl]
end Go.Proofs.YtcenjphpdgadmaaDoor
