/-
  A struct or an array in a block of its own: stored whole, and cell by cell.
  The table of operations, as it lies; the contracts of byOp.
-/
import Derived.Test.YtapjgobkpehgfaaDoorUAB
import Derived.Deep.MidRow
import Derived.Laws.Tables
import Derived.Laws.ResultCell

/- A struct or an array in a block of its own: stored whole, and cell by cell. -/
namespace Go.Proofs.YtapjgobkpehgfaaDoor
set_option linter.unusedSimpArgs false
set_option linter.unusedVariables false
open Go.RowKit

/-- A block as it stands behind a whole store. -/
abbrev blk (w : World) (b : Nat) (cs : Array Value) (t : TypeId) : Prop := w.heap[b]? = some (.cells cs t (0, 0))
theorem blk_lt {w : World} {b : Nat} {cs : Array Value} {t : TypeId} (h : blk w b cs t) : b < w.heap.size := (Array.getElem?_eq_some_iff.1 h).1
theorem blk_below {w w' : World} {b : Nat} {cs : Array Value} {t : TypeId} (h : blk w b cs t) (hb : Below w.heap.size w w') : blk w' b cs t := by
  unfold blk; rw [hb.block b (blk_lt h)]; exact h
theorem blk_alloc {w : World} {b : Nat} {cs : Array Value} {t : TypeId} (h : blk w b cs t) (o : Obj) : blk (w.alloc o) b cs t := by
  unfold blk; rw [Below.heap_alloc _ _ _ (blk_lt h)]; exact h
theorem blk_new (w : World) (cs : Array Value) (t : TypeId) : blk (w.alloc (.cells cs t)) w.heap.size cs t := heap_alloc_new w _
theorem blk_range {w : World} {b : Nat} {cs : Array Value} {t : TypeId} (h : blk w b cs t) : w.rangeAt b 0 cs.toList := by
  intro j v hv
  simp only [World.cell?, h, Nat.zero_add]
  simpa using hv
theorem blk_cell {w : World} {b : Nat} {cs : Array Value} {t : TypeId} (h : blk w b cs t) (j : Nat) (v : Value) (hv : cs[j]? = some v) : w.cell? ⟨b, j, none⟩ = some v := by
  simp only [World.cell?, h]
  simpa using hv
theorem blk_frozen {w : World} {b : Nat} {cs : Array Value} {t : TypeId} (h : blk w b cs t) (j : Nat) : w.frozen? ⟨b, j, none⟩ = false := by
  simp [World.frozen?, h]

/-- The block b anew. -/
def putO (w : World) (b : Nat) (o : Obj) : World := { w with heap := w.heap.setIfInBounds b o }
theorem putO_at {w : World} {b : Nat} (h : b < w.heap.size) (o : Obj) : (putO w b o).heap[b]? = some o := by simp [putO, h]
theorem putO_ne (w : World) {b g : Nat} (h : g ≠ b) (o : Obj) : (putO w b o).heap[g]? = w.heap[g]? := by
  unfold putO; rw [Array.getElem?_setIfInBounds, if_neg (fun e => h e.symm)]
theorem putO_size (w : World) (b : Nat) (o : Obj) : (putO w b o).heap.size = w.heap.size := by simp [putO]
theorem putO_below {B : Nat} (w : World) {b : Nat} (h : B ≤ b) (o : Obj) : Below B w (putO w b o) :=
  ⟨rfl, rfl, rfl, by rw [putO_size]; exact Nat.le_refl _, fun k hk => putO_ne w (by omega) o⟩
abbrev putB (w : World) (b : Nat) (cs : Array Value) (t : TypeId) : World := putO w b (.cells cs t (0, 0))
theorem putB_at {w : World} {b : Nat} {old : Array Value} {t' : TypeId} (h : blk w b old t') (cs : Array Value) (t : TypeId) : blk (putB w b cs t) b cs t := putO_at (blk_lt h) _
theorem putB_ne (w : World) {b g : Nat} (h : g ≠ b) (cs : Array Value) (t : TypeId) : (putB w b cs t).heap[g]? = w.heap[g]? := putO_ne w h _
theorem putB_size (w : World) (b : Nat) (cs : Array Value) (t : TypeId) : (putB w b cs t).heap.size = w.heap.size := putO_size w b _
theorem putB_below {B : Nat} (w : World) {b : Nat} (h : B ≤ b) (cs : Array Value) (t : TypeId) : Below B w (putB w b cs t) :=
  ⟨rfl, rfl, rfl, by rw [putB_size]; exact Nat.le_refl _, fun k hk => putB_ne w (by omega) cs t⟩
theorem setCell_putB {w : World} {b : Nat} {cs : Array Value} {t : TypeId} (h : blk w b cs t) (j : Nat) (v : Value) : w.setCell ⟨b, j, none⟩ v = putB w b (cs.setIfInBounds j v) t := by
  unfold World.setCell putB putO
  congr 1
  apply Array.ext'
  have := h
  unfold blk at this
  obtain ⟨hlt, he⟩ := Array.getElem?_eq_some_iff.1 this
  rw [Array.toList_modify, Array.toList_setIfInBounds]
  apply List.ext_getElem?
  intro i
  rw [List.getElem?_modify, List.getElem?_set]
  by_cases e : b = i
  · subst e
    simp [he, hlt]
  · simp [e]

theorem setRow_putB {w : World} {b : Nat} {old : Array Value} {t : TypeId} (h : blk w b old t) (cs : Array Value) : w.setRow b cs = putB w b cs t := by
  unfold World.setRow putB putO
  congr 1
  apply Array.ext'
  have := h
  unfold blk at this
  obtain ⟨hlt, he⟩ := Array.getElem?_eq_some_iff.1 this
  rw [Array.toList_modify, Array.toList_setIfInBounds]
  apply List.ext_getElem?
  intro i
  rw [List.getElem?_modify, List.getElem?_set]
  by_cases e : b = i
  · subst e
    simp [he, hlt]
  · simp [e]

/-- A whole struct, or array, is stored. -/
theorem wpList_putB {ops : Array Oper} {rest : List Oper} {o : Oper} {a : Act} {w : World} {Q : Exit → Act → World → Prop} (hgd : o.guard = none) (ty : TypeId) (x y : Operand) (ho : o.op = .store ty x y)
    (b : Nat) (cells : Array Value) (hx : a.eval x = .pointer (some ⟨b, 0, none⟩)) (hy : a.eval y = .agg cells) (t : TypeId) (old : Array Value) (hb : blk w b old t)
    (hi : (Tryd.prog.info? ty).map (·.size) = some cells.size) (hold : old.size = cells.size) (h1 : cells.all (·.oneCell') = true)
    (h : wpList Tryd.prog ops Q rest (a.put o.dst undef) (putB w b cells t)) : wpList Tryd.prog ops Q (o :: rest) a w :=
  wpList_plain hgd fun _ hK => wp_store_row ty x y ho b cells hx hy t old hb hi hold h1 (by rw [setRow_putB hb]; exact hK _ _ h)

/-- A whole struct, or array, is loaded. -/
theorem wpList_loadB {ops : Array Oper} {rest : List Oper} {o : Oper} {a : Act} {w : World} {Q : Exit → Act → World → Prop} (hgd : o.guard = none) (ty : TypeId) (x : Operand) (ho : o.op = .load ty x)
    (b : Nat) (cells : Array Value) (hx : a.eval x = .pointer (some ⟨b, 0, none⟩)) (t : TypeId) (hb : blk w b cells t) (d : TypeDesc)
    (hu : Tryd.prog.underlying ty = some d) (hd : d.isRow = true) (hi : (Tryd.prog.info? ty).map (·.size) = some cells.size)
    (h : wpList Tryd.prog ops Q rest (a.put o.dst (.agg cells)) w) : wpList Tryd.prog ops Q (o :: rest) a w :=
  wpList_load_mid hgd ty x ho b 0 hx cells.toList d (blk_range hb) hu hd (by simpa using hi) h

/-- What is answered out of a block, beside slots. -/
theorem res_cell1 {fn : Func} {p u : Tmp} {ty : TypeId} (h : fn.results = #[.cell p ty, .tmp u]) (tmps : Array Value) (w : World) (b : Nat) (cells : Array Value) (t : TypeId) (d : TypeDesc) (hp : tmps.getD p undef = .pointer (some ⟨b, 0, none⟩))
    (hb : blk w b cells t) (hu : Tryd.prog.underlying ty = some d) (hd : d.isRow = true) (hi : (Tryd.prog.info? ty).map (·.size) = some cells.size) :
    (results fn tmps).run Tryd.prog w = .ok (.tuple #[.agg cells, tmps.getD u undef]) w := by
  rw [results_cell_tmp h, hp]
  have hl := run_loadVar_mid (P := Tryd.prog) w b 0 ty cells.toList d (blk_range hb) hu hd (by simpa using hi)
  simp [asAddr, Result.andThen, hl]
theorem res_cell0 {fn : Func} {p : Tmp} {ty : TypeId} (h : fn.results = #[.cell p ty]) (tmps : Array Value) (w : World) (b : Nat) (cells : Array Value) (t : TypeId) (d : TypeDesc) (hp : tmps.getD p undef = .pointer (some ⟨b, 0, none⟩))
    (hb : blk w b cells t) (hu : Tryd.prog.underlying ty = some d) (hd : d.isRow = true) (hi : (Tryd.prog.info? ty).map (·.size) = some cells.size) :
    (results fn tmps).run Tryd.prog w = .ok (.agg cells) w := by
  have hl := run_loadVar_mid (P := Tryd.prog) w b 0 ty cells.toList d (blk_range hb) hu hd (by simpa using hi)
  have hp' : tmps[p]?.getD undef = .pointer (some ⟨b, 0, none⟩) := by rw [← hp]; simp
  simp [results, h, hp', asAddr, hl]
end Go.Proofs.YtapjgobkpehgfaaDoor

/- The table of operations, as it lies; the contracts of byOp. -/
namespace Go.Proofs.YtapjgobkpehgfaaDoor
set_option linter.unusedSimpArgs false
set_option linter.unusedVariables false
open Go.RowKit

abbrev opCells (o : Int × Bs × Bs) : List Value := [.int .u8 o.1, str o.2.1, str o.2.2]
def opsCells : List Value := OPS.flatMap opCells
def opsV : Value := .agg opsCells.toArray
/-- The table lies where it is laid. -/
def HasO (w : World) : Prop := w.rangeAt 0 0 opsCells ∧ 0 < w.heap.size
theorem HasO.below {w w' : World} (h : HasO w) (hb : Below w.heap.size w w') : HasO w' :=
  ⟨fun j v hv => by rw [(bcell hb).1 0 (0 + j) h.2]; exact h.1 j v hv, Nat.lt_of_lt_of_le h.2 hb.size⟩
theorem opers_info : (Tryd.prog.info? 106).map (·.size) = some opsCells.length := by kernel_rfl

set_option maxRecDepth 100000 in
theorem ops_index (k : Nat) (o : Int × Bs × Bs) (h : OPS[k]? = some o) (w : World) : (Instr.index 106 opsV (.int .i64 k)).run Tryd.prog w = .ok (.agg (opCells o).toArray) w := by
  have hk : k < 15 := (List.getElem?_eq_some_iff.1 h).1
  have hc : k = 0 ∨ k = 1 ∨ k = 2 ∨ k = 3 ∨ k = 4 ∨ k = 5 ∨ k = 6 ∨ k = 7 ∨ k = 8 ∨ k = 9 ∨ k = 10 ∨ k = 11 ∨ k = 12 ∨ k = 13 ∨ k = 14 := by omega
  rcases hc with rfl | rfl | rfl | rfl | rfl | rfl | rfl | rfl | rfl | rfl | rfl | rfl | rfl | rfl | rfl <;> (obtain rfl := Option.some.inj h; rfl)

/-- What is told of an operation that is there, and of none. -/
def OpPost (w : World) (r : Option (Int × Bs × Bs)) (e : Ending) (w' : World) : Prop :=
  e = .returned (match r with
    | some o => .tuple #[.agg (opCells o).toArray, .bool true]
    | none => .tuple #[.agg #[.int .u8 0, str [], str []], .bool false]) ∧ Below w.heap.size w w'

theorem find_next {p : (Int × Bs × Bs) → Bool} {k : Nat} {o : Int × Bs × Bs} (h : (OPS.take k).find? p = none) (ho : OPS[k]? = some o) (hp : p o = false) : (OPS.take (k + 1)).find? p = none := by
  obtain ⟨hlt, rfl⟩ := List.getElem?_eq_some_iff.1 ho
  rw [List.take_succ_eq_append_getElem hlt, List.find?_append, h]
  simp [hp]
theorem find_here {p : (Int × Bs × Bs) → Bool} {k : Nat} {o : Int × Bs × Bs} (h : (OPS.take k).find? p = none) (ho : OPS[k]? = some o) (hp : p o = true) : OPS.find? p = some o := by
  obtain ⟨hlt, rfl⟩ := List.getElem?_eq_some_iff.1 ho
  conv => lhs; rw [← List.take_append_drop (k + 1) OPS]
  rw [List.take_succ_eq_append_getElem hlt, List.find?_append, List.find?_append, h]
  simp [hp]

/-- What a round leaves: the block of the answer as it was made. -/
def ORel (w wr : World) : Prop := blk wr w.heap.size #[.int .u8 0, .string ⟨#[]⟩, .string ⟨#[]⟩] 90 ∧ Below w.heap.size w wr
theorem orel_start (w : World) : ORel w (w.alloc (.cells #[.int .u8 0, .string ⟨#[]⟩, .string ⟨#[]⟩] 90)) := ⟨heap_alloc_new w _, (Below.refl _ _).alloc (Nat.le_refl _) _⟩
theorem ORel.lt {w wr : World} (h : ORel w wr) : w.heap.size < wr.heap.size := (Array.getElem?_eq_some_iff.1 h.1).1
theorem ORel.alloc {w wr : World} (h : ORel w wr) (o : Obj) : ORel w (wr.alloc o) := ⟨blk_alloc h.1 o, h.2.alloc (Nat.le_of_lt h.lt) o⟩

theorem oper_info : (Tryd.prog.info? 90).map (·.size) = some 3 := by kernel_rfl

theorem oper_one (o : Int × Bs × Bs) : (opCells o).toArray.all (·.oneCell') = true := all_oneCell_toArray (by intro v h; simp [opCells] at h; rcases h with rfl | rfl | rfl <;> rfl)

set_option maxRecDepth 100000 in
set_option maxHeartbeats 1000000 in
theorem byOp_any (c : Int) (w : World) (ho : HasO w) : Calls Tryd.prog 60 #[.int .u8 c] w (OpPost w (byOpL c)) := by
  have HOP := Lib.hid ho
  have HI := Lib.hid opers_info
  have HX := Lib.hid ops_index
  clear ho
  have HR : Hid (∀ k o, (OPS.take k).find? (fun o => o.1 == c) = none → OPS[k]? = some o → (o.1 == c) = true → byOpL c = some o) := Lib.hid fun k o h1 h2 h3 => find_here h1 h2 h3
  have HN : Hid ((OPS.take 15).find? (fun o => o.1 == c) = none → byOpL c = none) := Lib.hid fun h => h
  generalize byOpL c = r at *
  unfold opsV at HX
  go_enter Tryd.func60, Tryd.ntmps60
  go_wp2_with (refine wpList_load_mid rfl 106 _ rfl 0 0 rfl opsCells _ ?c1 Tryd.underlying106 rfl HI.out ?_)
  case c1 => exact fun j v hj => by rw [Below.cell (w := w) (w' := _) (((Below.refl _ _).alloc (Nat.le_refl _) _)) (p := ⟨0, 0 + j, none⟩) HOP.out.2]; exact HOP.out.1 j v hj
  go_loopw [7] (fun i wr => ∃ k : Nat, k ≤ 15 ∧ i = .int .i64 k ∧ Hid ((OPS.take k).find? (fun o => o.1 == c) = none) ∧ ORel w wr) (fun i _ => 15 - (intOf i).toNat)
  case atStart => exact ⟨0, by omega, rfl, Lib.hid rfl, orel_start w⟩
  case round =>
    obtain ⟨k, hk, rfl, hf, hr⟩ := hrel
    by_cases hlt : k < 15
    · obtain ⟨o, ho⟩ : ∃ o, OPS[k]? = some o := ⟨_, List.getElem?_eq_getElem (show k < OPS.length from hlt)⟩
      have hidx := HX.out k o ho
      have HO := Lib.hid ho
      clear ho
      rcases htest : (o.1 == c) with _ | _
      · have HT := Lib.hid (find_next hf.out HO.out htest)
        go_wp2
        go_roundw
        case rel => exact ⟨k + 1, by omega, by go_num, HT, hr.alloc _⟩
        case measure => simp [intOf]; omega
      · have HR1 := Lib.hid (HR.out k o hf.out HO.out htest)
        have HR2 := Lib.hid (hr.alloc (.cells (opCells o).toArray 90))
        go_wp2_with (refine wpList_putB rfl 90 _ _ rfl w.heap.size (opCells o).toArray rfl rfl 90 _ HR2.out.1 oper_info rfl (oper_one o) ?_)
        refine bodyPost_ret (v := .tuple #[.agg (opCells o).toArray, .bool true]) ?_ rfl ⟨?_, ?_⟩
        · rw [res_cell1 (p := 2) (u := 3) rfl _ _ w.heap.size (opCells o).toArray 90 _ rfl (putB_at HR2.out.1 _ _) Tryd.underlying90 rfl oper_info]; rfl
        · rw [HR1.out]
        · exact HR2.out.2.trans (putB_below _ (Nat.le_refl _) _ _)
    · obtain rfl : k = 15 := by omega
      have HR1 := Lib.hid (HN.out hf.out)
      go_wp2_with (refine wpList_putB rfl 90 _ _ rfl w.heap.size #[.int .u8 0, str [], str []] rfl rfl 90 _ hr.1 oper_info rfl (oper_one (0, [], [])) ?_)
      refine bodyPost_ret (v := .tuple #[.agg #[.int .u8 0, str [], str []], .bool false]) ?_ rfl ⟨?_, ?_⟩
      · rw [res_cell1 (p := 2) (u := 3) rfl _ _ w.heap.size #[.int .u8 0, str [], str []] 90 _ rfl (putB_at hr.1 _ _) Tryd.underlying90 rfl oper_info]; rfl
      · rw [HR1.out]
      · exact hr.2.trans (putB_below _ (Nat.le_refl _) _ _)
end Go.Proofs.YtapjgobkpehgfaaDoor
