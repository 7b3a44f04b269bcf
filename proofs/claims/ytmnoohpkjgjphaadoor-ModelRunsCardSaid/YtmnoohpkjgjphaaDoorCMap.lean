/-
  The map of places: what it is made of, and what is found in it.
-/
import Derived.Test.YtmnoohpkjgjphaaDoorBRow
import Derived.WideMake
import Derived.MapKept
namespace Go.Proofs.YtmnoohpkjgjphaaDoor
set_option linter.unusedSimpArgs false
set_option linter.unusedVariables false
open Go.RowKit

def ent (k v : Int) (b : Nat) : MapEntry := { key := .int .i32 k, val := .int .i64 v, born := b }
def placesO : Obj := .map #[ent 65 0 0, ent 66 1 1, ent 67 2 2, ent 78 3 3] 4
theorem heap_set_new (w : World) (o o' : Obj) : ({ w.alloc o with heap := (w.alloc o).heap.setIfInBounds w.heap.size o' } : World) = w.alloc o' := by
  simp only [World.alloc]
  congr 1
  apply Array.ext'
  simp [Array.setIfInBounds, Array.toList_push]
set_option maxRecDepth 100000 in
theorem map_put (w : World) (es : Array MapEntry) (c : Nat) (k : Int) (v : Value) (hf : Instr.findNow (.int .i32) (.int .i32 k) es.toList 0 = some none) :
    (Instr.mapUpdate 110 (.map (some w.heap.size)) (.int .i32 k) v).run Tryd.prog (w.alloc (.map es c)) = .ok () (w.alloc (.map (es.push { key := .int .i32 k, val := v, born := c }) (c + 1))) := by
  have hb : (w.alloc (.map es c)).heap[w.heap.size]? = some (.map es c) := heap_alloc_new w _
  have hc : (Instr.checkKey false 10000 21 (.int .i32 k)).run Tryd.prog (w.alloc (.map es c)) = .ok () (w.alloc (.map es c)) := MapKept.run_checkKey (k := .int .i32 k) Tryd.underlying21 (by simp [MapKept.IsKey]) false 9999
  rw [← heap_set_new w (.map es c) (.map (es.push { key := .int .i32 k, val := v, born := c }) (c + 1))]
  simp [Instr.mapUpdate, run_underlying Tryd.underlying110, MapKept.run_getObj_map hb, hc, MapKept.run_findKey Tryd.underlying21 hf, MapKept.run_setObj_map _ hb, Result.andThen]

set_option maxRecDepth 100000 in
theorem places_any (w : World) : Calls Tryd.prog 77 #[] w fun e w' => e = .returned (.map (some w.heap.size)) ∧ w' = w.alloc placesO := by
  have hm := @run_makeMap Tryd.prog
  have h1 : (Instr.mapUpdate 110 (.map (some w.heap.size)) (.int .i32 65) (.int .i64 0)).run Tryd.prog (w.alloc (.map #[] 0)) = .ok () (w.alloc (.map #[ent 65 0 0] 1)) := map_put w #[] 0 65 (.int .i64 0) (by rfl)
  have h2 : (Instr.mapUpdate 110 (.map (some w.heap.size)) (.int .i32 66) (.int .i64 1)).run Tryd.prog (w.alloc (.map #[ent 65 0 0] 1)) = .ok () (w.alloc (.map #[ent 65 0 0, ent 66 1 1] 2)) := map_put w #[ent 65 0 0] 1 66 (.int .i64 1) (by rfl)
  have h3 : (Instr.mapUpdate 110 (.map (some w.heap.size)) (.int .i32 67) (.int .i64 2)).run Tryd.prog (w.alloc (.map #[ent 65 0 0, ent 66 1 1] 2)) = .ok () (w.alloc (.map #[ent 65 0 0, ent 66 1 1, ent 67 2 2] 3)) := map_put w #[ent 65 0 0, ent 66 1 1] 2 67 (.int .i64 2) (by rfl)
  have h4 : (Instr.mapUpdate 110 (.map (some w.heap.size)) (.int .i32 78) (.int .i64 3)).run Tryd.prog (w.alloc (.map #[ent 65 0 0, ent 66 1 1, ent 67 2 2] 3)) = .ok () (w.alloc (.map #[ent 65 0 0, ent 66 1 1, ent 67 2 2, ent 78 3 3] 4)) := map_put w #[ent 65 0 0, ent 66 1 1, ent 67 2 2] 3 78 (.int .i64 3) (by rfl)
  go_enter Tryd.func77, Tryd.ntmps77
  go_wp2
  go_ret
  exact ⟨rfl, rfl⟩

/-- Where a letter's number stands. -/
def placeL (c : UInt8) : Int := if c = 65 then 0 else if c = 66 then 1 else if c = 67 then 2 else 3
set_option maxRecDepth 100000 in
theorem map_get (w : World) (r : Nat) (hb : w.heap[r]? = some placesO) (c : UInt8) (hc : c = 65 ∨ c = 66 ∨ c = 67 ∨ c = 78) :
    (Instr.lookup 110 (.map (some r)) (.int .i32 c.toNat) false).run Tryd.prog w = .ok (.int .i64 (placeL c)) w := by
  have hc' : ∀ k : Int, (Instr.checkKey false 10000 21 (.int .i32 k)).run Tryd.prog w = .ok () w := fun k => MapKept.run_checkKey (k := .int .i32 k) Tryd.underlying21 (by simp [MapKept.IsKey]) false 9999
  have hf : ∃ i e, Instr.findNow (.int .i32) (.int .i32 c.toNat) [ent 65 0 0, ent 66 1 1, ent 67 2 2, ent 78 3 3] 0 = some (some (i, .int .i64 e)) ∧ e = placeL c := by
    rcases hc with rfl | rfl | rfl | rfl
    · exact ⟨0, 0, rfl, rfl⟩
    · exact ⟨1, 1, rfl, rfl⟩
    · exact ⟨2, 2, rfl, rfl⟩
    · exact ⟨3, 3, rfl, rfl⟩
  obtain ⟨i, e, hf, rfl⟩ := hf
  unfold placesO at hb
  simp [Instr.lookup, run_underlying Tryd.underlying110, MapKept.run_getObj_map hb, hc', MapKept.run_findKey Tryd.underlying21 hf, Result.andThen]
end Go.Proofs.YtmnoohpkjgjphaaDoor
