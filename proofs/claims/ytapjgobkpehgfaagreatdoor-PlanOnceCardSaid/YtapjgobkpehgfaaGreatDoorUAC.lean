/-
  Slices that lie in memory: rows of one-cell values, texts, types.
  The map of places: what it is made of, and what is found in it.
  A struct or an array in a block of its own: stored whole, and cell by cell.
  The table of operations, as it lies; the contracts of byOp.
  The contract of numbersOf.
-/
import Derived.Test.YtapjgobkpehgfaaGreatDoorBPure
import Derived.Test.YtapjgobkpehgfaaGreatDoorChecked
import Derived.WalkKit
import Derived.RowKit
import Derived.IntWalk
import Derived.Below
import Derived.OwnWalk
import Derived.Laws.OwnMore
import Derived.Lib.SmallJoins
import Derived.Deep.QuietTactic
import Derived.BigQuiet
import Derived.WideMake
import Derived.MapKept
import Derived.Deep.MidRow
import Derived.Laws.Tables
import Derived.Laws.ResultCell
import Derived.Laws.RangeString

/- Slices that lie in memory: rows of one-cell values, texts, types. -/
namespace Go.Proofs.YtapjgobkpehgfaaGreatDoor
set_option linter.unusedSimpArgs false
set_option linter.unusedVariables false
open Go.RowKit

abbrev str (l : Bs) : Value := .string ⟨l.toArray⟩
theorem ret_bool {a b : Bool} (h : a = b) : Ending.returned (.bool a) = .returned (.bool b) := by rw [h]
theorem ret_int {k : IntKind} {a b : Int} (h : a = b) : Ending.returned (.int k a) = .returned (.int k b) := by rw [h]
theorem bcell {W w1 : World} (hb : Below W.heap.size W w1) : (∀ b o, b < W.heap.size → w1.cell? ⟨b, o, none⟩ = W.cell? ⟨b, o, none⟩) ∧ (∀ b o, b < W.heap.size → w1.frozen? ⟨b, o, none⟩ = W.frozen? ⟨b, o, none⟩) :=
  ⟨fun b o h => hb.cell (p := ⟨b, o, none⟩) h, fun b o h => hb.frozen (p := ⟨b, o, none⟩) h⟩

/-- A slice value whose elements are these cells (of one cell each). -/
def RowAt (w : World) (v : Value) (cs : List Value) : Prop :=
  ∃ a c, v = .slice a cs.length c ∧ cs.length ≤ c ∧ c ≤ maxLen ∧ (cs = [] ∨ ∃ b o, a = some ⟨b, o, none⟩ ∧ b < w.heap.size ∧ ∀ j x, cs[j]? = some x → w.cell? ⟨b, o + j, none⟩ = some x)
theorem RowAt.below {w w' : World} {v : Value} {cs : List Value} (h : RowAt w v cs) (hb : Below w.heap.size w w') : RowAt w' v cs := by
  obtain ⟨a, c, rfl, h1, h2, h3⟩ := h
  refine ⟨a, c, rfl, h1, h2, h3.imp id ?_⟩
  rintro ⟨b, o, rfl, hlt, hc⟩
  exact ⟨b, o, rfl, Nat.lt_of_lt_of_le hlt hb.size, fun j x hx => by rw [(bcell hb).1 b _ hlt]; exact hc j x hx⟩
theorem RowAt.of_own {w : World} {B : Nat} {e : TypeId} {v : Value} {n : Nat} {cs : List Value} (h : w.ownsRow B e 1 v n cs) : RowAt w v cs := by
  obtain ⟨hl, h2⟩ := h
  rcases h2 with ⟨rfl, rfl⟩ | ⟨g, cap, cur, rfl, hb, hg, h3, h4, h5, h6⟩
  · have : cs = [] := List.length_eq_zero_iff.1 (by simpa using hl)
    subst this
    exact ⟨none, 0, rfl, Nat.le_refl _, Nat.zero_le _, .inl rfl⟩
  · have hl' : cs.length = n := by simpa using hl
    refine ⟨some ⟨g, 0, none⟩, cap, by rw [hl'], by omega, h4, .inr ⟨g, 0, rfl, (Array.getElem?_eq_some_iff.1 hg).1, ?_⟩⟩
    intro j x hx
    have hj : j < n := by have := (List.getElem?_eq_some_iff.1 hx).1; omega
    rw [← h6, List.getElem?_take] at hx
    have hx' : cur.toList[j]? = some x := by
      split at hx
      · exact hx
      · cases hx
    simp only [World.cell?, hg, Nat.zero_add]
    simpa using hx'

/-- Types, as a slice of texts. -/
def TsAt (w : World) (v : Value) (ts : List ByteArray) : Prop := RowAt w v (ts.map Value.string) ∧ ∀ s ∈ ts, s.size ≤ 9223372036854775807
theorem TsAt.below {w w' : World} {v : Value} {ts : List ByteArray} (h : TsAt w v ts) (hb : Below w.heap.size w w') : TsAt w' v ts := ⟨h.1.below hb, h.2⟩
theorem TsAt.cases {w : World} {v : Value} {ts : List ByteArray} (h : TsAt w v ts) :
    ∃ a c, v = .slice a ts.length c ∧ ts.length ≤ c ∧ c ≤ 9223372036854775807 ∧ (ts = [] ∨ ∃ b o, a = some ⟨b, o, none⟩ ∧ b < w.heap.size ∧ ∀ j, j < ts.length → w.cell? ⟨b, o + j, none⟩ = some (.string (ty ts j)) ∧ (ty ts j).size ≤ 9223372036854775807) := by
  obtain ⟨⟨a, c, rfl, h1, h2, h3⟩, hs⟩ := h
  rw [List.length_map] at h1
  refine ⟨a, c, by rw [List.length_map], h1, by unfold maxLen at h2; omega, ?_⟩
  rcases h3 with h3 | ⟨b, o, rfl, hb, hc⟩
  · left; simpa using h3
  · exact .inr ⟨b, o, rfl, hb, fun j hj => ⟨hc j _ (by rw [List.getElem?_map, ty_get hj]; rfl), hs _ (ty_mem hj)⟩⟩
theorem ownsRow_le {w : World} {base base' size n : Nat} {e : TypeId} {v : Value} {xs : List Value} (h : w.ownsRow base e size v n xs) (hb : base' ≤ base) : w.ownsRow base' e size v n xs := by
  obtain ⟨h1, h2⟩ := h
  refine ⟨h1, h2.imp id ?_⟩
  rintro ⟨g, cap, cur, rfl, hg, rest⟩
  exact ⟨g, cap, cur, rfl, by omega, rest⟩
theorem ownsRow_forms {w : World} {base size n : Nat} {e : TypeId} {v : Value} {xs : List Value} (h : w.ownsRow base e size v n xs) : (v = .slice none 0 0 ∧ n = 0) ∨ ∃ g cap, v = .slice (some ⟨g, 0, none⟩) n cap := by
  rcases h.2 with h2 | ⟨g, cap, cur, rfl, _⟩
  · exact .inl h2
  · exact .inr ⟨g, cap, rfl⟩
theorem own_below {w w' : World} {base size n : Nat} {e : TypeId} {v : Value} {xs : List Value} (h : w.ownsRow base e size v n xs) (hb : Below w.heap.size w w') : w'.ownsRow base e size v n xs := by
  obtain ⟨h1, h2⟩ := h
  refine ⟨h1, h2.imp id ?_⟩
  rintro ⟨g, cap, cur, rfl, hg, hc, rest⟩
  exact ⟨g, cap, cur, rfl, hg, by rw [hb.block g (Array.getElem?_eq_some_iff.1 hc).1]; exact hc, rest⟩

theorem all_take_next {α : Type} {p : α → Bool} {xs : List α} {k : Nat} {x : α} (h : (xs.take k).all p = true) (hx : xs[k]? = some x) (hp : p x = true) : (xs.take (k + 1)).all p = true := by
  obtain ⟨hlt, rfl⟩ := List.getElem?_eq_some_iff.1 hx
  rw [List.take_succ_eq_append_getElem hlt, List.all_append, h]
  simp [hp]
theorem all_not {α : Type} {p : α → Bool} {xs : List α} {k : Nat} {x : α} (hx : xs[k]? = some x) (hp : p x = false) : xs.all p = false := by
  rw [Bool.eq_false_iff]
  intro h
  have := List.all_eq_true.1 h x (List.mem_of_getElem? hx)
  rw [hp] at this
  exact absurd this (by decide)

/-- What the round of a loop over a row needs of it. -/
theorem RowAt.cases {w : World} {v : Value} {xs : List Bs} (h : RowAt w v (xs.map str)) :
    ∃ a c, v = .slice a xs.length c ∧ xs.length ≤ c ∧ c ≤ 9223372036854775807 ∧ (xs = [] ∨ ∃ b o, a = some ⟨b, o, none⟩ ∧ b < w.heap.size ∧ ∀ j x, xs[j]? = some x → w.cell? ⟨b, o + j, none⟩ = some (str x)) := by
  obtain ⟨a, c, rfl, h1, h2, h3⟩ := h
  rw [List.length_map] at h1
  refine ⟨a, c, by rw [List.length_map], h1, by unfold maxLen at h2; omega, ?_⟩
  rcases h3 with h3 | ⟨b, o, rfl, hb, hc⟩
  · left; simpa using h3
  · exact .inr ⟨b, o, rfl, hb, fun j x hx => hc j (str x) (by simp [hx])⟩

/-- A row of texts: its slice, and each of its cells. -/
theorem RowAt.elems {w : World} {v : Value} {xs : List Bs} (h : RowAt w v (xs.map str)) :
    ∃ a c, v = .slice a xs.length c ∧ xs.length ≤ c ∧ c ≤ maxLen ∧ ∀ j x, xs[j]? = some x → ∃ b o, a = some ⟨b, o, none⟩ ∧ b < w.heap.size ∧ w.cell? ⟨b, o + j, none⟩ = some (str x) := by
  obtain ⟨a, c, rfl, h1, h2, h3⟩ := h
  rw [List.length_map] at h1
  refine ⟨a, c, by rw [List.length_map], h1, h2, fun j x hx => ?_⟩
  rcases h3 with h3 | ⟨b, o, rfl, hb, hc⟩
  · have : xs = [] := by simpa using h3
    subst this; simp at hx
  · exact ⟨b, o, rfl, hb, hc j (str x) (by simp [hx])⟩
theorem len_size (s : ByteArray) : s.data.toList.length = s.size := by rw [Array.length_toList]; rfl
theorem rowAt_nil (w : World) : RowAt w (.slice none 0 0) [] := ⟨none, 0, rfl, Nat.le_refl _, Nat.zero_le _, .inl rfl⟩
end Go.Proofs.YtapjgobkpehgfaaGreatDoor

/- The map of places: what it is made of, and what is found in it. -/
namespace Go.Proofs.YtapjgobkpehgfaaGreatDoor
set_option linter.unusedSimpArgs false
set_option linter.unusedVariables false
open Go.RowKit

def ent (k v : Int) (b : Nat) : MapEntry := { key := .int .i32 k, val := .int .i64 v, born := b }
def placesO : Obj := .map #[ent 65 0 0, ent 66 1 1, ent 67 2 2, ent 78 3 3] 4
theorem heap_set_new (w : World) (o o' : Obj) : ({ w.alloc o with heap := (w.alloc o).heap.setIfInBounds w.heap.size o' } : World) = w.alloc o' := by
  simp only [World.alloc]
  congr 1
  apply Array.ext'
  simp [Array.setIfInBounds, Array.toList_push]
set_option maxRecDepth 100000 in
theorem map_put (w : World) (es : Array MapEntry) (c : Nat) (k : Int) (v : Value) (hf : Instr.findNow (.int .i32) (.int .i32 k) es.toList 0 = some none) :
    (Instr.mapUpdate 135 (.map (some w.heap.size)) (.int .i32 k) v).run Tryz.prog (w.alloc (.map es c)) = .ok () (w.alloc (.map (es.push { key := .int .i32 k, val := v, born := c }) (c + 1))) := by
  have hb : (w.alloc (.map es c)).heap[w.heap.size]? = some (.map es c) := heap_alloc_new w _
  have hc : (Instr.checkKey false 10000 21 (.int .i32 k)).run Tryz.prog (w.alloc (.map es c)) = .ok () (w.alloc (.map es c)) := MapKept.run_checkKey (k := .int .i32 k) Tryz.underlying21 (by simp [MapKept.IsKey]) false 9999
  rw [← heap_set_new w (.map es c) (.map (es.push { key := .int .i32 k, val := v, born := c }) (c + 1))]
  simp [Instr.mapUpdate, run_underlying Tryz.underlying135, MapKept.run_getObj_map hb, hc, MapKept.run_findKey Tryz.underlying21 hf, MapKept.run_setObj_map _ hb, Result.andThen]

set_option maxRecDepth 100000 in
theorem places_any (w : World) : Calls Tryz.prog 102 #[] w fun e w' => e = .returned (.map (some w.heap.size)) ∧ w' = w.alloc placesO := by
  have hm := @run_makeMap Tryz.prog
  have h1 : (Instr.mapUpdate 135 (.map (some w.heap.size)) (.int .i32 65) (.int .i64 0)).run Tryz.prog (w.alloc (.map #[] 0)) = .ok () (w.alloc (.map #[ent 65 0 0] 1)) := map_put w #[] 0 65 (.int .i64 0) (by rfl)
  have h2 : (Instr.mapUpdate 135 (.map (some w.heap.size)) (.int .i32 66) (.int .i64 1)).run Tryz.prog (w.alloc (.map #[ent 65 0 0] 1)) = .ok () (w.alloc (.map #[ent 65 0 0, ent 66 1 1] 2)) := map_put w #[ent 65 0 0] 1 66 (.int .i64 1) (by rfl)
  have h3 : (Instr.mapUpdate 135 (.map (some w.heap.size)) (.int .i32 67) (.int .i64 2)).run Tryz.prog (w.alloc (.map #[ent 65 0 0, ent 66 1 1] 2)) = .ok () (w.alloc (.map #[ent 65 0 0, ent 66 1 1, ent 67 2 2] 3)) := map_put w #[ent 65 0 0, ent 66 1 1] 2 67 (.int .i64 2) (by rfl)
  have h4 : (Instr.mapUpdate 135 (.map (some w.heap.size)) (.int .i32 78) (.int .i64 3)).run Tryz.prog (w.alloc (.map #[ent 65 0 0, ent 66 1 1, ent 67 2 2] 3)) = .ok () (w.alloc (.map #[ent 65 0 0, ent 66 1 1, ent 67 2 2, ent 78 3 3] 4)) := map_put w #[ent 65 0 0, ent 66 1 1, ent 67 2 2] 3 78 (.int .i64 3) (by rfl)
  go_enter Tryz.func102, Tryz.ntmps102
  go_wp2
  go_ret
  exact ⟨rfl, rfl⟩

/-- Where a letter's number stands. -/
def placeL (c : UInt8) : Int := if c = 65 then 0 else if c = 66 then 1 else if c = 67 then 2 else 3
set_option maxRecDepth 100000 in
theorem map_get (w : World) (r : Nat) (hb : w.heap[r]? = some placesO) (c : UInt8) (hc : c = 65 ∨ c = 66 ∨ c = 67 ∨ c = 78) :
    (Instr.lookup 135 (.map (some r)) (.int .i32 c.toNat) false).run Tryz.prog w = .ok (.int .i64 (placeL c)) w := by
  have hc' : ∀ k : Int, (Instr.checkKey false 10000 21 (.int .i32 k)).run Tryz.prog w = .ok () w := fun k => MapKept.run_checkKey (k := .int .i32 k) Tryz.underlying21 (by simp [MapKept.IsKey]) false 9999
  have hf : ∃ i e, Instr.findNow (.int .i32) (.int .i32 c.toNat) [ent 65 0 0, ent 66 1 1, ent 67 2 2, ent 78 3 3] 0 = some (some (i, .int .i64 e)) ∧ e = placeL c := by
    rcases hc with rfl | rfl | rfl | rfl
    · exact ⟨0, 0, rfl, rfl⟩
    · exact ⟨1, 1, rfl, rfl⟩
    · exact ⟨2, 2, rfl, rfl⟩
    · exact ⟨3, 3, rfl, rfl⟩
  obtain ⟨i, e, hf, rfl⟩ := hf
  unfold placesO at hb
  simp [Instr.lookup, run_underlying Tryz.underlying135, MapKept.run_getObj_map hb, hc', MapKept.run_findKey Tryz.underlying21 hf, Result.andThen]
end Go.Proofs.YtapjgobkpehgfaaGreatDoor

/- A struct or an array in a block of its own: stored whole, and cell by cell. -/
namespace Go.Proofs.YtapjgobkpehgfaaGreatDoor
set_option linter.unusedSimpArgs false
set_option linter.unusedVariables false
open Go.RowKit

/-- A block as it stands behind a whole store. -/
abbrev blk (w : World) (b : Nat) (cs : Array Value) (t : TypeId) : Prop := w.heap[b]? = some (.cells cs t (0, 0))
theorem blk_lt {w : World} {b : Nat} {cs : Array Value} {t : TypeId} (h : blk w b cs t) : b < w.heap.size := (Array.getElem?_eq_some_iff.1 h).1
theorem blk_below {w w' : World} {b : Nat} {cs : Array Value} {t : TypeId} (h : blk w b cs t) (hb : Below w.heap.size w w') : blk w' b cs t := by
  unfold blk; rw [hb.block b (blk_lt h)]; exact h
theorem blk_alloc {w : World} {b : Nat} {cs : Array Value} {t : TypeId} (h : blk w b cs t) (o : Obj) : blk (w.alloc o) b cs t := by
  unfold blk; rw [Below.heap_alloc _ _ _ (blk_lt h)]; exact h
theorem blk_new (w : World) (cs : Array Value) (t : TypeId) : blk (w.alloc (.cells cs t)) w.heap.size cs t := heap_alloc_new w _
theorem blk_range {w : World} {b : Nat} {cs : Array Value} {t : TypeId} (h : blk w b cs t) : w.rangeAt b 0 cs.toList := by
  intro j v hv
  simp only [World.cell?, h, Nat.zero_add]
  simpa using hv
theorem blk_cell {w : World} {b : Nat} {cs : Array Value} {t : TypeId} (h : blk w b cs t) (j : Nat) (v : Value) (hv : cs[j]? = some v) : w.cell? ⟨b, j, none⟩ = some v := by
  simp only [World.cell?, h]
  simpa using hv
theorem blk_frozen {w : World} {b : Nat} {cs : Array Value} {t : TypeId} (h : blk w b cs t) (j : Nat) : w.frozen? ⟨b, j, none⟩ = false := by
  simp [World.frozen?, h]

/-- The block b anew. -/
def putO (w : World) (b : Nat) (o : Obj) : World := { w with heap := w.heap.setIfInBounds b o }
theorem putO_at {w : World} {b : Nat} (h : b < w.heap.size) (o : Obj) : (putO w b o).heap[b]? = some o := by simp [putO, h]
theorem putO_ne (w : World) {b g : Nat} (h : g ≠ b) (o : Obj) : (putO w b o).heap[g]? = w.heap[g]? := by
  unfold putO; rw [Array.getElem?_setIfInBounds, if_neg (fun e => h e.symm)]
theorem putO_size (w : World) (b : Nat) (o : Obj) : (putO w b o).heap.size = w.heap.size := by simp [putO]
theorem putO_below {B : Nat} (w : World) {b : Nat} (h : B ≤ b) (o : Obj) : Below B w (putO w b o) :=
  ⟨rfl, rfl, rfl, by rw [putO_size]; exact Nat.le_refl _, fun k hk => putO_ne w (by omega) o⟩
abbrev putB (w : World) (b : Nat) (cs : Array Value) (t : TypeId) : World := putO w b (.cells cs t (0, 0))
theorem putB_at {w : World} {b : Nat} {old : Array Value} {t' : TypeId} (h : blk w b old t') (cs : Array Value) (t : TypeId) : blk (putB w b cs t) b cs t := putO_at (blk_lt h) _
theorem putB_ne (w : World) {b g : Nat} (h : g ≠ b) (cs : Array Value) (t : TypeId) : (putB w b cs t).heap[g]? = w.heap[g]? := putO_ne w h _
theorem putB_size (w : World) (b : Nat) (cs : Array Value) (t : TypeId) : (putB w b cs t).heap.size = w.heap.size := putO_size w b _
theorem putB_below {B : Nat} (w : World) {b : Nat} (h : B ≤ b) (cs : Array Value) (t : TypeId) : Below B w (putB w b cs t) :=
  ⟨rfl, rfl, rfl, by rw [putB_size]; exact Nat.le_refl _, fun k hk => putB_ne w (by omega) cs t⟩
theorem setCell_putB {w : World} {b : Nat} {cs : Array Value} {t : TypeId} (h : blk w b cs t) (j : Nat) (v : Value) : w.setCell ⟨b, j, none⟩ v = putB w b (cs.setIfInBounds j v) t := by
  unfold World.setCell putB putO
  congr 1
  apply Array.ext'
  have := h
  unfold blk at this
  obtain ⟨hlt, he⟩ := Array.getElem?_eq_some_iff.1 this
  rw [Array.toList_modify, Array.toList_setIfInBounds]
  apply List.ext_getElem?
  intro i
  rw [List.getElem?_modify, List.getElem?_set]
  by_cases e : b = i
  · subst e
    simp [he, hlt]
  · simp [e]

theorem setRow_putB {w : World} {b : Nat} {old : Array Value} {t : TypeId} (h : blk w b old t) (cs : Array Value) : w.setRow b cs = putB w b cs t := by
  unfold World.setRow putB putO
  congr 1
  apply Array.ext'
  have := h
  unfold blk at this
  obtain ⟨hlt, he⟩ := Array.getElem?_eq_some_iff.1 this
  rw [Array.toList_modify, Array.toList_setIfInBounds]
  apply List.ext_getElem?
  intro i
  rw [List.getElem?_modify, List.getElem?_set]
  by_cases e : b = i
  · subst e
    simp [he, hlt]
  · simp [e]

/-- A whole struct, or array, is stored. -/
theorem wpList_putB {ops : Array Oper} {rest : List Oper} {o : Oper} {a : Act} {w : World} {Q : Exit → Act → World → Prop} (hgd : o.guard = none) (ty : TypeId) (x y : Operand) (ho : o.op = .store ty x y)
    (b : Nat) (cells : Array Value) (hx : a.eval x = .pointer (some ⟨b, 0, none⟩)) (hy : a.eval y = .agg cells) (t : TypeId) (old : Array Value) (hb : blk w b old t)
    (hi : (Tryz.prog.info? ty).map (·.size) = some cells.size) (hold : old.size = cells.size) (h1 : cells.all (·.oneCell') = true)
    (h : wpList Tryz.prog ops Q rest (a.put o.dst undef) (putB w b cells t)) : wpList Tryz.prog ops Q (o :: rest) a w :=
  wpList_plain hgd fun _ hK => wp_store_row ty x y ho b cells hx hy t old hb hi hold h1 (by rw [setRow_putB hb]; exact hK _ _ h)

/-- A whole struct, or array, is loaded. -/
theorem wpList_loadB {ops : Array Oper} {rest : List Oper} {o : Oper} {a : Act} {w : World} {Q : Exit → Act → World → Prop} (hgd : o.guard = none) (ty : TypeId) (x : Operand) (ho : o.op = .load ty x)
    (b : Nat) (cells : Array Value) (hx : a.eval x = .pointer (some ⟨b, 0, none⟩)) (t : TypeId) (hb : blk w b cells t) (d : TypeDesc)
    (hu : Tryz.prog.underlying ty = some d) (hd : d.isRow = true) (hi : (Tryz.prog.info? ty).map (·.size) = some cells.size)
    (h : wpList Tryz.prog ops Q rest (a.put o.dst (.agg cells)) w) : wpList Tryz.prog ops Q (o :: rest) a w :=
  wpList_load_mid hgd ty x ho b 0 hx cells.toList d (blk_range hb) hu hd (by simpa using hi) h

/-- What is answered out of a block, beside slots. -/
theorem res_cell1 {fn : Func} {p u : Tmp} {ty : TypeId} (h : fn.results = #[.cell p ty, .tmp u]) (tmps : Array Value) (w : World) (b : Nat) (cells : Array Value) (t : TypeId) (d : TypeDesc) (hp : tmps.getD p undef = .pointer (some ⟨b, 0, none⟩))
    (hb : blk w b cells t) (hu : Tryz.prog.underlying ty = some d) (hd : d.isRow = true) (hi : (Tryz.prog.info? ty).map (·.size) = some cells.size) :
    (results fn tmps).run Tryz.prog w = .ok (.tuple #[.agg cells, tmps.getD u undef]) w := by
  rw [results_cell_tmp h, hp]
  have hl := run_loadVar_mid (P := Tryz.prog) w b 0 ty cells.toList d (blk_range hb) hu hd (by simpa using hi)
  simp [asAddr, Result.andThen, hl]
theorem res_cell0 {fn : Func} {p : Tmp} {ty : TypeId} (h : fn.results = #[.cell p ty]) (tmps : Array Value) (w : World) (b : Nat) (cells : Array Value) (t : TypeId) (d : TypeDesc) (hp : tmps.getD p undef = .pointer (some ⟨b, 0, none⟩))
    (hb : blk w b cells t) (hu : Tryz.prog.underlying ty = some d) (hd : d.isRow = true) (hi : (Tryz.prog.info? ty).map (·.size) = some cells.size) :
    (results fn tmps).run Tryz.prog w = .ok (.agg cells) w := by
  have hl := run_loadVar_mid (P := Tryz.prog) w b 0 ty cells.toList d (blk_range hb) hu hd (by simpa using hi)
  have hp' : tmps[p]?.getD undef = .pointer (some ⟨b, 0, none⟩) := by rw [← hp]; simp
  simp [results, h, hp', asAddr, hl]
theorem res_cell2 {fn : Func} {p u v : Tmp} {ty : TypeId} (h : fn.results = #[.cell p ty, .tmp u, .tmp v]) (tmps : Array Value) (w : World) (b : Nat) (cells : Array Value) (t : TypeId) (d : TypeDesc) (hp : tmps.getD p undef = .pointer (some ⟨b, 0, none⟩))
    (hb : blk w b cells t) (hu : Tryz.prog.underlying ty = some d) (hd : d.isRow = true) (hi : (Tryz.prog.info? ty).map (·.size) = some cells.size) :
    (results fn tmps).run Tryz.prog w = .ok (.tuple #[.agg cells, tmps.getD u undef, tmps.getD v undef]) w := by
  have hl := run_loadVar_mid (P := Tryz.prog) w b 0 ty cells.toList d (blk_range hb) hu hd (by simpa using hi)
  have hp' : tmps[p]?.getD undef = .pointer (some ⟨b, 0, none⟩) := by rw [← hp]; simp
  simp [results, h, hp', asAddr, Result.andThen, hl]
end Go.Proofs.YtapjgobkpehgfaaGreatDoor

/- The table of operations, as it lies; the contracts of byOp. -/
namespace Go.Proofs.YtapjgobkpehgfaaGreatDoor
set_option linter.unusedSimpArgs false
set_option linter.unusedVariables false
open Go.RowKit

abbrev opCells (o : Int × Bs × Bs) : List Value := [.int .u8 o.1, str o.2.1, str o.2.2]
def opsCells : List Value := OPS.flatMap opCells
def opsV : Value := .agg opsCells.toArray
/-- The table lies where it is laid. -/
def HasO (w : World) : Prop := w.rangeAt 0 0 opsCells ∧ 0 < w.heap.size
theorem HasO.below {w w' : World} (h : HasO w) (hb : Below w.heap.size w w') : HasO w' :=
  ⟨fun j v hv => by rw [(bcell hb).1 0 (0 + j) h.2]; exact h.1 j v hv, Nat.lt_of_lt_of_le h.2 hb.size⟩
theorem opers_info : (Tryz.prog.info? 146).map (·.size) = some opsCells.length := by kernel_rfl

set_option maxRecDepth 100000 in
theorem ops_index (k : Nat) (o : Int × Bs × Bs) (h : OPS[k]? = some o) (w : World) : (Instr.index 146 opsV (.int .i64 k)).run Tryz.prog w = .ok (.agg (opCells o).toArray) w := by
  have hk : k < 15 := (List.getElem?_eq_some_iff.1 h).1
  have hc : k = 0 ∨ k = 1 ∨ k = 2 ∨ k = 3 ∨ k = 4 ∨ k = 5 ∨ k = 6 ∨ k = 7 ∨ k = 8 ∨ k = 9 ∨ k = 10 ∨ k = 11 ∨ k = 12 ∨ k = 13 ∨ k = 14 := by omega
  rcases hc with rfl | rfl | rfl | rfl | rfl | rfl | rfl | rfl | rfl | rfl | rfl | rfl | rfl | rfl | rfl <;> (obtain rfl := Option.some.inj h; rfl)

/-- What is told of an operation that is there, and of none. -/
def OpPost (w : World) (r : Option (Int × Bs × Bs)) (e : Ending) (w' : World) : Prop :=
  e = .returned (match r with
    | some o => .tuple #[.agg (opCells o).toArray, .bool true]
    | none => .tuple #[.agg #[.int .u8 0, str [], str []], .bool false]) ∧ Below w.heap.size w w'

theorem find_next {p : (Int × Bs × Bs) → Bool} {k : Nat} {o : Int × Bs × Bs} (h : (OPS.take k).find? p = none) (ho : OPS[k]? = some o) (hp : p o = false) : (OPS.take (k + 1)).find? p = none := by
  obtain ⟨hlt, rfl⟩ := List.getElem?_eq_some_iff.1 ho
  rw [List.take_succ_eq_append_getElem hlt, List.find?_append, h]
  simp [hp]
theorem find_here {p : (Int × Bs × Bs) → Bool} {k : Nat} {o : Int × Bs × Bs} (h : (OPS.take k).find? p = none) (ho : OPS[k]? = some o) (hp : p o = true) : OPS.find? p = some o := by
  obtain ⟨hlt, rfl⟩ := List.getElem?_eq_some_iff.1 ho
  conv => lhs; rw [← List.take_append_drop (k + 1) OPS]
  rw [List.take_succ_eq_append_getElem hlt, List.find?_append, List.find?_append, h]
  simp [hp]

/-- What a round leaves: the block of the answer as it was made. -/
def ORel (w wr : World) : Prop := blk wr w.heap.size #[.int .u8 0, .string ⟨#[]⟩, .string ⟨#[]⟩] 129 ∧ Below w.heap.size w wr
theorem orel_start (w : World) : ORel w (w.alloc (.cells #[.int .u8 0, .string ⟨#[]⟩, .string ⟨#[]⟩] 129)) := ⟨heap_alloc_new w _, (Below.refl _ _).alloc (Nat.le_refl _) _⟩
theorem ORel.lt {w wr : World} (h : ORel w wr) : w.heap.size < wr.heap.size := (Array.getElem?_eq_some_iff.1 h.1).1
theorem ORel.alloc {w wr : World} (h : ORel w wr) (o : Obj) : ORel w (wr.alloc o) := ⟨blk_alloc h.1 o, h.2.alloc (Nat.le_of_lt h.lt) o⟩

theorem oper_info : (Tryz.prog.info? 129).map (·.size) = some 3 := by kernel_rfl

theorem oper_one (o : Int × Bs × Bs) : (opCells o).toArray.all (·.oneCell') = true := all_oneCell_toArray (by intro v h; simp [opCells] at h; rcases h with rfl | rfl | rfl <;> rfl)

set_option maxRecDepth 100000 in
set_option maxHeartbeats 1000000 in
theorem byOp_any (c : Int) (w : World) (ho : HasO w) : Calls Tryz.prog 100 #[.int .u8 c] w (OpPost w (byOpL c)) := by
  have HOP := Lib.hid ho
  have HI := Lib.hid opers_info
  have HX := Lib.hid ops_index
  clear ho
  have HR : Hid (∀ k o, (OPS.take k).find? (fun o => o.1 == c) = none → OPS[k]? = some o → (o.1 == c) = true → byOpL c = some o) := Lib.hid fun k o h1 h2 h3 => find_here h1 h2 h3
  have HN : Hid ((OPS.take 15).find? (fun o => o.1 == c) = none → byOpL c = none) := Lib.hid fun h => h
  generalize byOpL c = r at *
  unfold opsV at HX
  go_enter Tryz.func100, Tryz.ntmps100
  go_wp2_with (refine wpList_load_mid rfl 146 _ rfl 0 0 rfl opsCells _ ?c1 Tryz.underlying146 rfl HI.out ?_)
  case c1 => exact fun j v hj => by rw [Below.cell (w := w) (w' := _) (((Below.refl _ _).alloc (Nat.le_refl _) _)) (p := ⟨0, 0 + j, none⟩) HOP.out.2]; exact HOP.out.1 j v hj
  go_loopw [7] (fun i wr => ∃ k : Nat, k ≤ 15 ∧ i = .int .i64 k ∧ Hid ((OPS.take k).find? (fun o => o.1 == c) = none) ∧ ORel w wr) (fun i _ => 15 - (intOf i).toNat)
  case atStart => exact ⟨0, by omega, rfl, Lib.hid rfl, orel_start w⟩
  case round =>
    obtain ⟨k, hk, rfl, hf, hr⟩ := hrel
    by_cases hlt : k < 15
    · obtain ⟨o, ho⟩ : ∃ o, OPS[k]? = some o := ⟨_, List.getElem?_eq_getElem (show k < OPS.length from hlt)⟩
      have hidx := HX.out k o ho
      have HO := Lib.hid ho
      clear ho
      rcases htest : (o.1 == c) with _ | _
      · have HT := Lib.hid (find_next hf.out HO.out htest)
        go_wp2
        go_roundw
        case rel => exact ⟨k + 1, by omega, by go_num, HT, hr.alloc _⟩
        case measure => simp [intOf]; omega
      · have HR1 := Lib.hid (HR.out k o hf.out HO.out htest)
        have HR2 := Lib.hid (hr.alloc (.cells (opCells o).toArray 129))
        go_wp2_with (refine wpList_putB rfl 129 _ _ rfl w.heap.size (opCells o).toArray rfl rfl 129 _ HR2.out.1 oper_info rfl (oper_one o) ?_)
        refine bodyPost_ret (v := .tuple #[.agg (opCells o).toArray, .bool true]) ?_ rfl ⟨?_, ?_⟩
        · rw [res_cell1 (p := 2) (u := 3) rfl _ _ w.heap.size (opCells o).toArray 129 _ rfl (putB_at HR2.out.1 _ _) Tryz.underlying129 rfl oper_info]; rfl
        · rw [HR1.out]
        · exact HR2.out.2.trans (putB_below _ (Nat.le_refl _) _ _)
    · obtain rfl : k = 15 := by omega
      have HR1 := Lib.hid (HN.out hf.out)
      go_wp2_with (refine wpList_putB rfl 129 _ _ rfl w.heap.size #[.int .u8 0, str [], str []] rfl rfl 129 _ hr.1 oper_info rfl (oper_one (0, [], [])) ?_)
      refine bodyPost_ret (v := .tuple #[.agg #[.int .u8 0, str [], str []], .bool false]) ?_ rfl ⟨?_, ?_⟩
      · rw [res_cell1 (p := 2) (u := 3) rfl _ _ w.heap.size #[.int .u8 0, str [], str []] 129 _ rfl (putB_at hr.1 _ _) Tryz.underlying129 rfl oper_info]; rfl
      · rw [HR1.out]
      · exact hr.2.trans (putB_below _ (Nat.le_refl _) _ _)
end Go.Proofs.YtapjgobkpehgfaaGreatDoor

/- The contract of numbersOf. -/
namespace Go.Proofs.YtapjgobkpehgfaaGreatDoor
set_option linter.unusedSimpArgs false
set_option linter.unusedVariables false
open Go.RowKit

abbrev insC (i : PIns) : Array Value := #[.int .u8 i.op, .int .u8 i.a, .int .u8 i.b, .int .u8 i.c, .int .i64 i.n]
abbrev insV (i : PIns) : Value := .agg (insC i)
abbrev numC (i : PIns) : Array Value := #[.int .i64 i.a, .int .i64 i.b, .int .i64 i.c, .int .i64 i.n]
theorem nums_info : (Tryz.prog.info? 133).map (·.size) = some 4 := by kernel_rfl
theorem ins_info : (Tryz.prog.info? 46).map (·.size) = some 5 := by kernel_rfl
def AggPost (w : World) (v : Value) (e : Ending) (w' : World) : Prop := e = .returned v ∧ Below w.heap.size w w'

set_option maxRecDepth 100000 in
theorem numbersOf_any (i : PIns) (w : World) (hi : OkI i) : Calls Tryz.prog 101 #[insV i] w (AggPost w (.agg (numC i))) := by
  obtain ⟨x, a, b, c, n⟩ := i
  obtain ⟨o0, o1, a0, a1, b0, b1, c0, c1, n0, n1⟩ := hi
  simp only at *
  go_enter Tryz.func101, Tryz.ntmps101
  go_wp2
  refine bodyPost_ret (v := .agg #[.int .i64 a, .int .i64 b, .int .i64 c, .int .i64 n]) ?_ rfl ⟨rfl, ((Below.refl _ _).alloc (Nat.le_refl _) _).alloc (by simp) _⟩
  have hb := blk_new (w.alloc (.cells (insC { op := x, a := a, b := b, c := c, n := n }) 46)) #[.int .i64 a, .int .i64 b, .int .i64 c, .int .i64 n] 133
  rw [World.size_alloc] at hb
  rw [res_cell0 (p := 2) rfl _ _ (w.heap.size + 1) #[.int .i64 a, .int .i64 b, .int .i64 c, .int .i64 n] 133 _ rfl hb Tryz.underlying133 rfl nums_info]

/-! ### A range over a text that lies in a block of its own -/
theorem next_at (w : World) (r : Nat) (s : ByteArray) (k : Nat) (ty : TypeId) (hb : w.heap[r]? = some (.stringIter s k)) (h : k < s.size) (ha : (s[k]'h).toNat < 128) :
    (Instr.next (.pointer (some ⟨r, 0, none⟩)) true ty).run Tryz.prog w = .ok (.tuple #[.bool true, .int .i64 k, .int .i32 (s[k]'h).toNat]) (putO w r (.stringIter s (k + 1))) := by
  have hlt := (Array.getElem?_eq_some_iff.1 hb).1
  simp only [Instr.next, getObj, setObj, Sem.run_bind, Sem.run, hb, Result.andThen, h, if_true, decode_ascii s k h ha]
  simp [goInt, putO]
theorem next_none (w : World) (r : Nat) (s : ByteArray) (k : Nat) (ty : TypeId) (hb : w.heap[r]? = some (.stringIter s k)) (h : ¬ k < s.size) :
    (Instr.next (.pointer (some ⟨r, 0, none⟩)) true ty).run Tryz.prog w = .ok (.tuple #[.bool false]) w := by
  simp [Instr.next, getObj, Sem.run, hb, h]

theorem next_l (w : World) (r : Nat) (hs : Bs) (k : Nat) (c : UInt8) (ty : TypeId) (hb : w.heap[r]? = some (.stringIter ⟨hs.toArray⟩ k)) (h : hs[k]? = some c) (hc : c.toNat < 128) :
    (Instr.next (.pointer (some ⟨r, 0, none⟩)) true ty).run Tryz.prog w = .ok (.tuple #[.bool true, .int .i64 k, .int .i32 c.toNat]) (putO w r (.stringIter ⟨hs.toArray⟩ (k + 1))) := by
  obtain ⟨hlt, rfl⟩ := List.getElem?_eq_some_iff.1 h
  exact next_at w r ⟨hs.toArray⟩ k ty hb (show k < (⟨hs.toArray⟩ : ByteArray).size from hlt) hc
theorem next_end (w : World) (r : Nat) (hs : Bs) (ty : TypeId) (hb : w.heap[r]? = some (.stringIter ⟨hs.toArray⟩ hs.length)) :
    (Instr.next (.pointer (some ⟨r, 0, none⟩)) true ty).run Tryz.prog w = .ok (.tuple #[.bool false]) w :=
  next_none w r ⟨hs.toArray⟩ hs.length ty hb (by show ¬ hs.length < hs.length; omega)
end Go.Proofs.YtapjgobkpehgfaaGreatDoor
