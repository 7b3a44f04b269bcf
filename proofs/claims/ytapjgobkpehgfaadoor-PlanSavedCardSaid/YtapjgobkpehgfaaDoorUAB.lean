/-
  Slices that lie in memory: rows of one-cell values, texts, types.
  The map of places: what it is made of, and what is found in it.
-/
import Derived.Test.YtapjgobkpehgfaaDoorUAA
import Derived.Test.YtapjgobkpehgfaaDoorChecked
import Derived.WalkKit
import Derived.RowKit
import Derived.IntWalk
import Derived.Below
import Derived.OwnWalk
import Derived.Laws.OwnMore
import Derived.Lib.SmallJoins
import Derived.Deep.QuietTactic
import Derived.BigQuiet
import Derived.WideMake
import Derived.MapKept

/- Slices that lie in memory: rows of one-cell values, texts, types. -/
namespace Go.Proofs.YtapjgobkpehgfaaDoor
set_option linter.unusedSimpArgs false
set_option linter.unusedVariables false
open Go.RowKit

abbrev str (l : Bs) : Value := .string ⟨l.toArray⟩
theorem ret_bool {a b : Bool} (h : a = b) : Ending.returned (.bool a) = .returned (.bool b) := by rw [h]
theorem ret_int {k : IntKind} {a b : Int} (h : a = b) : Ending.returned (.int k a) = .returned (.int k b) := by rw [h]
theorem bcell {W w1 : World} (hb : Below W.heap.size W w1) : (∀ b o, b < W.heap.size → w1.cell? ⟨b, o, none⟩ = W.cell? ⟨b, o, none⟩) ∧ (∀ b o, b < W.heap.size → w1.frozen? ⟨b, o, none⟩ = W.frozen? ⟨b, o, none⟩) :=
  ⟨fun b o h => hb.cell (p := ⟨b, o, none⟩) h, fun b o h => hb.frozen (p := ⟨b, o, none⟩) h⟩

/-- A slice value whose elements are these cells (of one cell each). -/
def RowAt (w : World) (v : Value) (cs : List Value) : Prop :=
  ∃ a c, v = .slice a cs.length c ∧ cs.length ≤ c ∧ c ≤ maxLen ∧ (cs = [] ∨ ∃ b o, a = some ⟨b, o, none⟩ ∧ b < w.heap.size ∧ ∀ j x, cs[j]? = some x → w.cell? ⟨b, o + j, none⟩ = some x)
theorem RowAt.below {w w' : World} {v : Value} {cs : List Value} (h : RowAt w v cs) (hb : Below w.heap.size w w') : RowAt w' v cs := by
  obtain ⟨a, c, rfl, h1, h2, h3⟩ := h
  refine ⟨a, c, rfl, h1, h2, h3.imp id ?_⟩
  rintro ⟨b, o, rfl, hlt, hc⟩
  exact ⟨b, o, rfl, Nat.lt_of_lt_of_le hlt hb.size, fun j x hx => by rw [(bcell hb).1 b _ hlt]; exact hc j x hx⟩
theorem RowAt.of_own {w : World} {B : Nat} {e : TypeId} {v : Value} {n : Nat} {cs : List Value} (h : w.ownsRow B e 1 v n cs) : RowAt w v cs := by
  obtain ⟨hl, h2⟩ := h
  rcases h2 with ⟨rfl, rfl⟩ | ⟨g, cap, cur, rfl, hb, hg, h3, h4, h5, h6⟩
  · have : cs = [] := List.length_eq_zero_iff.1 (by simpa using hl)
    subst this
    exact ⟨none, 0, rfl, Nat.le_refl _, Nat.zero_le _, .inl rfl⟩
  · have hl' : cs.length = n := by simpa using hl
    refine ⟨some ⟨g, 0, none⟩, cap, by rw [hl'], by omega, h4, .inr ⟨g, 0, rfl, (Array.getElem?_eq_some_iff.1 hg).1, ?_⟩⟩
    intro j x hx
    have hj : j < n := by have := (List.getElem?_eq_some_iff.1 hx).1; omega
    rw [← h6, List.getElem?_take] at hx
    have hx' : cur.toList[j]? = some x := by
      split at hx
      · exact hx
      · cases hx
    simp only [World.cell?, hg, Nat.zero_add]
    simpa using hx'

/-- Types, as a slice of texts. -/
def TsAt (w : World) (v : Value) (ts : List ByteArray) : Prop := RowAt w v (ts.map Value.string) ∧ ∀ s ∈ ts, s.size ≤ 9223372036854775807
theorem TsAt.below {w w' : World} {v : Value} {ts : List ByteArray} (h : TsAt w v ts) (hb : Below w.heap.size w w') : TsAt w' v ts := ⟨h.1.below hb, h.2⟩
theorem TsAt.cases {w : World} {v : Value} {ts : List ByteArray} (h : TsAt w v ts) :
    ∃ a c, v = .slice a ts.length c ∧ ts.length ≤ c ∧ c ≤ 9223372036854775807 ∧ (ts = [] ∨ ∃ b o, a = some ⟨b, o, none⟩ ∧ b < w.heap.size ∧ ∀ j, j < ts.length → w.cell? ⟨b, o + j, none⟩ = some (.string (ty ts j)) ∧ (ty ts j).size ≤ 9223372036854775807) := by
  obtain ⟨⟨a, c, rfl, h1, h2, h3⟩, hs⟩ := h
  rw [List.length_map] at h1
  refine ⟨a, c, by rw [List.length_map], h1, by unfold maxLen at h2; omega, ?_⟩
  rcases h3 with h3 | ⟨b, o, rfl, hb, hc⟩
  · left; simpa using h3
  · exact .inr ⟨b, o, rfl, hb, fun j hj => ⟨hc j _ (by rw [List.getElem?_map, ty_get hj]; rfl), hs _ (ty_mem hj)⟩⟩
theorem ownsRow_le {w : World} {base base' size n : Nat} {e : TypeId} {v : Value} {xs : List Value} (h : w.ownsRow base e size v n xs) (hb : base' ≤ base) : w.ownsRow base' e size v n xs := by
  obtain ⟨h1, h2⟩ := h
  refine ⟨h1, h2.imp id ?_⟩
  rintro ⟨g, cap, cur, rfl, hg, rest⟩
  exact ⟨g, cap, cur, rfl, by omega, rest⟩
theorem ownsRow_forms {w : World} {base size n : Nat} {e : TypeId} {v : Value} {xs : List Value} (h : w.ownsRow base e size v n xs) : (v = .slice none 0 0 ∧ n = 0) ∨ ∃ g cap, v = .slice (some ⟨g, 0, none⟩) n cap := by
  rcases h.2 with h2 | ⟨g, cap, cur, rfl, _⟩
  · exact .inl h2
  · exact .inr ⟨g, cap, rfl⟩
theorem own_below {w w' : World} {base size n : Nat} {e : TypeId} {v : Value} {xs : List Value} (h : w.ownsRow base e size v n xs) (hb : Below w.heap.size w w') : w'.ownsRow base e size v n xs := by
  obtain ⟨h1, h2⟩ := h
  refine ⟨h1, h2.imp id ?_⟩
  rintro ⟨g, cap, cur, rfl, hg, hc, rest⟩
  exact ⟨g, cap, cur, rfl, hg, by rw [hb.block g (Array.getElem?_eq_some_iff.1 hc).1]; exact hc, rest⟩

theorem all_take_next {α : Type} {p : α → Bool} {xs : List α} {k : Nat} {x : α} (h : (xs.take k).all p = true) (hx : xs[k]? = some x) (hp : p x = true) : (xs.take (k + 1)).all p = true := by
  obtain ⟨hlt, rfl⟩ := List.getElem?_eq_some_iff.1 hx
  rw [List.take_succ_eq_append_getElem hlt, List.all_append, h]
  simp [hp]
theorem all_not {α : Type} {p : α → Bool} {xs : List α} {k : Nat} {x : α} (hx : xs[k]? = some x) (hp : p x = false) : xs.all p = false := by
  rw [Bool.eq_false_iff]
  intro h
  have := List.all_eq_true.1 h x (List.mem_of_getElem? hx)
  rw [hp] at this
  exact absurd this (by decide)

/-- What the round of a loop over a row needs of it. -/
theorem RowAt.cases {w : World} {v : Value} {xs : List Bs} (h : RowAt w v (xs.map str)) :
    ∃ a c, v = .slice a xs.length c ∧ xs.length ≤ c ∧ c ≤ 9223372036854775807 ∧ (xs = [] ∨ ∃ b o, a = some ⟨b, o, none⟩ ∧ b < w.heap.size ∧ ∀ j x, xs[j]? = some x → w.cell? ⟨b, o + j, none⟩ = some (str x)) := by
  obtain ⟨a, c, rfl, h1, h2, h3⟩ := h
  rw [List.length_map] at h1
  refine ⟨a, c, by rw [List.length_map], h1, by unfold maxLen at h2; omega, ?_⟩
  rcases h3 with h3 | ⟨b, o, rfl, hb, hc⟩
  · left; simpa using h3
  · exact .inr ⟨b, o, rfl, hb, fun j x hx => hc j (str x) (by simp [hx])⟩

/-- A row of texts: its slice, and each of its cells. -/
theorem RowAt.elems {w : World} {v : Value} {xs : List Bs} (h : RowAt w v (xs.map str)) :
    ∃ a c, v = .slice a xs.length c ∧ xs.length ≤ c ∧ c ≤ maxLen ∧ ∀ j x, xs[j]? = some x → ∃ b o, a = some ⟨b, o, none⟩ ∧ b < w.heap.size ∧ w.cell? ⟨b, o + j, none⟩ = some (str x) := by
  obtain ⟨a, c, rfl, h1, h2, h3⟩ := h
  rw [List.length_map] at h1
  refine ⟨a, c, by rw [List.length_map], h1, h2, fun j x hx => ?_⟩
  rcases h3 with h3 | ⟨b, o, rfl, hb, hc⟩
  · have : xs = [] := by simpa using h3
    subst this; simp at hx
  · exact ⟨b, o, rfl, hb, hc j (str x) (by simp [hx])⟩
theorem len_size (s : ByteArray) : s.data.toList.length = s.size := by rw [Array.length_toList]; rfl
theorem rowAt_nil (w : World) : RowAt w (.slice none 0 0) [] := ⟨none, 0, rfl, Nat.le_refl _, Nat.zero_le _, .inl rfl⟩
end Go.Proofs.YtapjgobkpehgfaaDoor

/- The map of places: what it is made of, and what is found in it. -/
namespace Go.Proofs.YtapjgobkpehgfaaDoor
set_option linter.unusedSimpArgs false
set_option linter.unusedVariables false
open Go.RowKit

def ent (k v : Int) (b : Nat) : MapEntry := { key := .int .i32 k, val := .int .i64 v, born := b }
def placesO : Obj := .map #[ent 65 0 0, ent 66 1 1, ent 67 2 2, ent 78 3 3] 4
theorem heap_set_new (w : World) (o o' : Obj) : ({ w.alloc o with heap := (w.alloc o).heap.setIfInBounds w.heap.size o' } : World) = w.alloc o' := by
  simp only [World.alloc]
  congr 1
  apply Array.ext'
  simp [Array.setIfInBounds, Array.toList_push]
set_option maxRecDepth 100000 in
theorem map_put (w : World) (es : Array MapEntry) (c : Nat) (k : Int) (v : Value) (hf : Instr.findNow (.int .i32) (.int .i32 k) es.toList 0 = some none) :
    (Instr.mapUpdate 96 (.map (some w.heap.size)) (.int .i32 k) v).run Tryd.prog (w.alloc (.map es c)) = .ok () (w.alloc (.map (es.push { key := .int .i32 k, val := v, born := c }) (c + 1))) := by
  have hb : (w.alloc (.map es c)).heap[w.heap.size]? = some (.map es c) := heap_alloc_new w _
  have hc : (Instr.checkKey false 10000 21 (.int .i32 k)).run Tryd.prog (w.alloc (.map es c)) = .ok () (w.alloc (.map es c)) := MapKept.run_checkKey (k := .int .i32 k) Tryd.underlying21 (by simp [MapKept.IsKey]) false 9999
  rw [← heap_set_new w (.map es c) (.map (es.push { key := .int .i32 k, val := v, born := c }) (c + 1))]
  simp [Instr.mapUpdate, run_underlying Tryd.underlying96, MapKept.run_getObj_map hb, hc, MapKept.run_findKey Tryd.underlying21 hf, MapKept.run_setObj_map _ hb, Result.andThen]

set_option maxRecDepth 100000 in
theorem places_any (w : World) : Calls Tryd.prog 62 #[] w fun e w' => e = .returned (.map (some w.heap.size)) ∧ w' = w.alloc placesO := by
  have hm := @run_makeMap Tryd.prog
  have h1 : (Instr.mapUpdate 96 (.map (some w.heap.size)) (.int .i32 65) (.int .i64 0)).run Tryd.prog (w.alloc (.map #[] 0)) = .ok () (w.alloc (.map #[ent 65 0 0] 1)) := map_put w #[] 0 65 (.int .i64 0) (by rfl)
  have h2 : (Instr.mapUpdate 96 (.map (some w.heap.size)) (.int .i32 66) (.int .i64 1)).run Tryd.prog (w.alloc (.map #[ent 65 0 0] 1)) = .ok () (w.alloc (.map #[ent 65 0 0, ent 66 1 1] 2)) := map_put w #[ent 65 0 0] 1 66 (.int .i64 1) (by rfl)
  have h3 : (Instr.mapUpdate 96 (.map (some w.heap.size)) (.int .i32 67) (.int .i64 2)).run Tryd.prog (w.alloc (.map #[ent 65 0 0, ent 66 1 1] 2)) = .ok () (w.alloc (.map #[ent 65 0 0, ent 66 1 1, ent 67 2 2] 3)) := map_put w #[ent 65 0 0, ent 66 1 1] 2 67 (.int .i64 2) (by rfl)
  have h4 : (Instr.mapUpdate 96 (.map (some w.heap.size)) (.int .i32 78) (.int .i64 3)).run Tryd.prog (w.alloc (.map #[ent 65 0 0, ent 66 1 1, ent 67 2 2] 3)) = .ok () (w.alloc (.map #[ent 65 0 0, ent 66 1 1, ent 67 2 2, ent 78 3 3] 4)) := map_put w #[ent 65 0 0, ent 66 1 1, ent 67 2 2] 3 78 (.int .i64 3) (by rfl)
  go_enter Tryd.func62, Tryd.ntmps62
  go_wp2
  go_ret
  exact ⟨rfl, rfl⟩

/-- Where a letter's number stands. -/
def placeL (c : UInt8) : Int := if c = 65 then 0 else if c = 66 then 1 else if c = 67 then 2 else 3
set_option maxRecDepth 100000 in
theorem map_get (w : World) (r : Nat) (hb : w.heap[r]? = some placesO) (c : UInt8) (hc : c = 65 ∨ c = 66 ∨ c = 67 ∨ c = 78) :
    (Instr.lookup 96 (.map (some r)) (.int .i32 c.toNat) false).run Tryd.prog w = .ok (.int .i64 (placeL c)) w := by
  have hc' : ∀ k : Int, (Instr.checkKey false 10000 21 (.int .i32 k)).run Tryd.prog w = .ok () w := fun k => MapKept.run_checkKey (k := .int .i32 k) Tryd.underlying21 (by simp [MapKept.IsKey]) false 9999
  have hf : ∃ i e, Instr.findNow (.int .i32) (.int .i32 c.toNat) [ent 65 0 0, ent 66 1 1, ent 67 2 2, ent 78 3 3] 0 = some (some (i, .int .i64 e)) ∧ e = placeL c := by
    rcases hc with rfl | rfl | rfl | rfl
    · exact ⟨0, 0, rfl, rfl⟩
    · exact ⟨1, 1, rfl, rfl⟩
    · exact ⟨2, 2, rfl, rfl⟩
    · exact ⟨3, 3, rfl, rfl⟩
  obtain ⟨i, e, hf, rfl⟩ := hf
  unfold placesO at hb
  simp [Instr.lookup, run_underlying Tryd.underlying96, MapKept.run_getObj_map hb, hc', MapKept.run_findKey Tryd.underlying21 hf, Result.andThen]
end Go.Proofs.YtapjgobkpehgfaaDoor
