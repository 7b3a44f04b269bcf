/-
  A set of fields as a map of truths, with how many there are.
-/
import Derived.Test.YtbpijfncjboamaaDoorFMap
import Derived.Test.YtbpijfncjboamaaDoorUPu
import Derived.WideMake
import Derived.MapKept
namespace Go.Proofs.YtbpijfncjboamaaDoor
set_option linter.unusedSimpArgs false
set_option linter.unusedVariables false
open Go.RowKit

def SetC (es : Array MapEntry) (had : List Bool) : Prop := (∀ e ∈ es.toList, ∃ (k : Nat) (b : Nat), e = bent k b ∧ had.getD k false = true) ∧ (∀ k : Nat, had.getD k false = true → ∃ e ∈ es.toList, e.key = .int .i64 k) ∧ es.size = cnt had
def SetCAt (w : World) (r : Nat) (had : List Bool) : Prop := ∃ es c, w.heap[r]? = some (.map es c) ∧ SetC es had
theorem nought_get (k : Nat) : nought6.getD k false = false := by
  unfold nought6
  rw [List.getD_eq_getElem?_getD, List.getElem?_replicate]
  split <;> rfl
theorem setC_0 : SetC #[] nought6 := ⟨by simp, fun k h => (by rw [nought_get] at h; cases h), rfl⟩
theorem getD_setT {l : List Bool} {k j : Nat} (hk : k < l.length) : (l.set k true).getD j false = true ↔ j = k ∨ l.getD j false = true := by
  rw [List.getD_eq_getElem?_getD, List.getElem?_set]
  by_cases h : k = j
  · subst h; simp [hk]
  · rw [if_neg h, List.getD_eq_getElem?_getD]
    exact ⟨.inr, fun h1 => h1.resolve_left (fun e => h e.symm)⟩
set_option maxRecDepth 100000 in
theorem setc_put {w : World} {r : Nat} {had : List Bool} (h : SetCAt w r had) {k : Nat} (hk : k < had.length) : ∃ es c, (Instr.mapUpdate 37 (.map (some r)) (.int .i64 k) (.bool true)).run Tryd.prog w = .ok () (putO w r (.map es c)) ∧ SetC es (had.set k true) := by
  obtain ⟨es, c, hb, h1, h2, h3'⟩ := h
  have hc' : ∀ e, (Instr.checkKey e 10000 2 (.int .i64 k)).run Tryd.prog w = .ok () w := fun e => MapKept.run_checkKey (k := .int .i64 k) Tryd.underlying2 (by simp [MapKept.IsKey]) e 9999
  rcases find_set k es.toList 0 (fun e he => by obtain ⟨m, b, e1, _⟩ := h1 e he; exact ⟨m, b, e1⟩) with ⟨h3, h4⟩ | ⟨j, h3, h5, h4⟩
  · have hf : had.getD k false = false := by
      rcases hg : had.getD k false with _ | _
      · rfl
      · obtain ⟨e, he, hk'⟩ := h2 k hg
        exact absurd hk' (h3 e he)
    refine ⟨es.push (bent k c), c + 1, ?_, fun e he => ?_, fun j hj => ?_, ?_⟩
    · simp [Instr.mapUpdate, run_underlying Tryd.underlying37, MapKept.run_getObj_map hb, hc', MapKept.run_findKey Tryd.underlying2 h4, MapKept.run_setObj_map _ hb, Result.andThen, putO, bent]
    · simp at he
      rcases he with he | rfl
      · obtain ⟨m, b, e1, e2⟩ := h1 e (by simpa using he)
        exact ⟨m, b, e1, (getD_setT hk).2 (.inr e2)⟩
      · exact ⟨k, c, rfl, (getD_setT hk).2 (.inl rfl)⟩
    · rcases (getD_setT hk).1 hj with rfl | hj
      · exact ⟨bent j c, by simp, rfl⟩
      · obtain ⟨e, he, e2⟩ := h2 j hj
        exact ⟨e, by simp; exact .inl (by simpa using he), e2⟩
    · rw [cnt_set hk, hf, Array.size_push, h3']; rfl
  · have hj : j < es.size := by simpa using h3
    obtain ⟨m, b, e1, e2⟩ := h1 es[j] (by simp)
    have hkm : m = k := by
      have : es.toList[j]? = some es[j] := by simp [hj]
      rw [this] at h5
      simp [e1, bent] at h5
      omega
    subst hkm
    have hkey : (((es[j]?).map (·.key)).getD (.int .i64 m)) = .int .i64 m := by rw [Array.getElem?_eq_getElem hj]; simp [e1, bent]
    have hmod : (es.modify j fun e => { e with key := .int .i64 m, val := .bool true }) = es := by
      refine Array.ext (by simp) fun i q1 q2 => ?_
      rw [Array.getElem_modify]
      split
      · next e => subst e; rw [e1]; rfl
      · rfl
    refine ⟨es, c, ?_, fun e he => ?_, fun i hi => ?_, ?_⟩
    · have hks := MapKept.run_keyThatStays (P := Tryd.prog) (w := w) (d := .int .i64) (k := .int .i64 m) (by simp [MapKept.IsKey])
      simp [Instr.mapUpdate, run_underlying Tryd.underlying37, MapKept.run_getObj_map hb, hc', MapKept.run_findKey Tryd.underlying2 h4, hkey, hks, MapKept.run_setObj_map _ hb, Result.andThen, putO]
      exact congrArg (fun x => w.heap.setIfInBounds r (Obj.map x c)) hmod
    · obtain ⟨x, y, z, u⟩ := h1 e he
      exact ⟨x, y, z, (getD_setT hk).2 (.inr u)⟩
    · rcases (getD_setT hk).1 hi with rfl | hi
      · exact h2 i e2
      · exact h2 i hi
    · rw [cnt_set hk, e2, h3']; rfl
theorem SetCAt.put {w : World} {r : Nat} {es : Array MapEntry} {c : Nat} {had : List Bool} {o : Obj} (hb : w.heap[r]? = some o) (h : SetC es had) : SetCAt (putO w r (.map es c)) r had := by
  refine ⟨es, c, ?_, h⟩
  have hlt := (Array.getElem?_eq_some_iff.1 hb).1
  unfold putO
  simp [hlt]
theorem SetCAt.below {w w' : World} {r : Nat} {had : List Bool} (h : SetCAt w r had) (hb : Below w.heap.size w w') : SetCAt w' r had := by
  obtain ⟨es, c, h1, h2⟩ := h
  exact ⟨es, c, by rw [hb.block _ (Array.getElem?_eq_some_iff.1 h1).1]; exact h1, h2⟩
theorem SetCAt.ne {w : World} {r b : Nat} {had : List Bool} {C : Array Value} {t : TypeId} (h : SetCAt w r had) (hb : blk w b C t) : b ≠ r := by
  obtain ⟨es, c, h1, -⟩ := h
  rintro rfl
  unfold blk at hb
  rw [hb] at h1
  cases h1
theorem SetCAt.other {w : World} {r b : Nat} {had : List Bool} {o : Obj} (h : SetCAt w r had) (hne : r ≠ b) : SetCAt (putO w b o) r had := by
  obtain ⟨es, c, h1, h2⟩ := h
  exact ⟨es, c, by rw [putO_ne w hne]; exact h1, h2⟩
theorem setCAt_new (w : World) : SetCAt (w.alloc (.map #[] 0)) w.heap.size nought6 := ⟨#[], 0, heap_alloc_new w _, setC_0⟩
end Go.Proofs.YtbpijfncjboamaaDoor
