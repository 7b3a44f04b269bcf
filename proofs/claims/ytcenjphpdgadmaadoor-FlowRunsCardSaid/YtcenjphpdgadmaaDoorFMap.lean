/-
  A set of places as a map of truths: what is found in it, and what putting one more makes.
-/
import Derived.Test.YtcenjphpdgadmaaDoorCBlk
import Derived.Test.YtcenjphpdgadmaaDoorFPure2
import Derived.WideMake
import Derived.MapKept
namespace Go.Proofs.YtcenjphpdgadmaaDoor
set_option linter.unusedSimpArgs false
set_option linter.unusedVariables false
open Go.RowKit

def bent (k : Int) (b : Nat) : MapEntry := { key := .int .i64 k, val := .bool true, born := b }
/-- Such a map. -/
def SetM (es : Array MapEntry) (f : Nat → Bool) : Prop := (∀ e ∈ es.toList, ∃ (k : Nat) (b : Nat), e = bent k b ∧ f k = true) ∧ ∀ k : Nat, f k = true → ∃ e ∈ es.toList, e.key = .int .i64 k
def SetAt (w : World) (r : Nat) (f : Nat → Bool) : Prop := ∃ es c, w.heap[r]? = some (.map es c) ∧ SetM es f
theorem setM_0 : SetM #[] (fun _ => false) := ⟨by simp, by simp⟩
theorem find_set (k : Nat) : ∀ (l : List MapEntry) (i : Nat), (∀ e ∈ l, ∃ (k : Nat) (b : Nat), e = bent k b) →
    ((∀ e ∈ l, e.key ≠ .int .i64 k) ∧ Instr.findNow (.int .i64) (.int .i64 k) l i = some none) ∨ ∃ j, j < l.length ∧ (l[j]?.map (·.key)) = some (.int .i64 k) ∧ Instr.findNow (.int .i64) (.int .i64 k) l i = some (some (i + j, .bool true))
  | [], i, _ => .inl ⟨by simp, rfl⟩
  | e :: l, i, h => by
    obtain ⟨m, b, rfl⟩ := h e (by simp)
    by_cases hm : m = k
    · subst hm
      refine .inr ⟨0, by simp, rfl, ?_⟩
      simp [Instr.findNow, Instr.sameNow, bent]
    · have hs : Instr.sameNow (.int .i64) (.int .i64 k) (.int .i64 m) = some false := by simp [Instr.sameNow]; omega
      rcases find_set k l (i + 1) (fun e he => h e (by simp [he])) with ⟨h1, h2⟩ | ⟨j, h1, h2, h3⟩
      · refine .inl ⟨fun e he => ?_, ?_⟩
        · rcases List.mem_cons.1 he with rfl | he
          · simp [bent]; omega
          · exact h1 e he
        · simp only [Instr.findNow, bent, hs]; exact h2
      · refine .inr ⟨j + 1, by simp; omega, by simpa using h2, ?_⟩
        simp only [Instr.findNow, bent, hs]
        rw [h3, show i + 1 + j = i + (j + 1) by omega]
set_option maxRecDepth 100000 in
theorem set_get {w : World} {r : Nat} {f : Nat → Bool} (h : SetAt w r f) (k : Nat) : (Instr.lookup 41 (.map (some r)) (.int .i64 k) false).run Tryd.prog w = .ok (.bool (f k)) w := by
  obtain ⟨es, c, hb, h1, h2⟩ := h
  have hc' : ∀ e, (Instr.checkKey e 10000 3 (.int .i64 k)).run Tryd.prog w = .ok () w := fun e => MapKept.run_checkKey (k := .int .i64 k) Tryd.underlying3 (by simp [MapKept.IsKey]) e 9999
  rcases find_set k es.toList 0 (fun e he => by obtain ⟨m, b, e1, _⟩ := h1 e he; exact ⟨m, b, e1⟩) with ⟨h3, h4⟩ | ⟨j, h3, h5, h4⟩
  · have hf : f k = false := by
      rcases hk : f k with _ | _
      · rfl
      · obtain ⟨e, he, hk'⟩ := h2 k hk
        exact absurd hk' (h3 e he)
    have hz : (zeroValue 4).run Tryd.prog w = .ok (.bool false) w := by kernel_rfl
    simp [Instr.lookup, run_underlying Tryd.underlying41, MapKept.run_getObj_map hb, hc', MapKept.run_findKey Tryd.underlying3 h4, Result.andThen, hf, hz]
  · have hf : f k = true := by
      rcases he : es.toList[j]? with _ | e
      · rw [he] at h5; simp at h5
      · rw [he] at h5
        obtain ⟨m, b, rfl, hm⟩ := h1 e (List.mem_of_getElem? he)
        have e5 : (m : Int) = k := by simpa [bent] using h5
        obtain rfl : m = k := by omega
        exact hm
    simp [Instr.lookup, run_underlying Tryd.underlying41, MapKept.run_getObj_map hb, hc', MapKept.run_findKey Tryd.underlying3 h4, Result.andThen, hf]
set_option maxRecDepth 100000 in
theorem set_put {w : World} {r : Nat} {f : Nat → Bool} (h : SetAt w r f) (k : Nat) : ∃ es c, (Instr.mapUpdate 41 (.map (some r)) (.int .i64 k) (.bool true)).run Tryd.prog w = .ok () (putO w r (.map es c)) ∧ SetM es (addB f k) := by
  obtain ⟨es, c, hb, h1, h2⟩ := h
  have hc' : ∀ e, (Instr.checkKey e 10000 3 (.int .i64 k)).run Tryd.prog w = .ok () w := fun e => MapKept.run_checkKey (k := .int .i64 k) Tryd.underlying3 (by simp [MapKept.IsKey]) e 9999
  have hadd : ∀ j, addB f k j = true ↔ j = k ∨ f j = true := fun j => by simp [addB]
  rcases find_set k es.toList 0 (fun e he => by obtain ⟨m, b, e1, _⟩ := h1 e he; exact ⟨m, b, e1⟩) with ⟨h3, h4⟩ | ⟨j, h3, h5, h4⟩
  · refine ⟨es.push (bent k c), c + 1, ?_, fun e he => ?_, fun j hj => ?_⟩
    · simp [Instr.mapUpdate, run_underlying Tryd.underlying41, MapKept.run_getObj_map hb, hc', MapKept.run_findKey Tryd.underlying3 h4, MapKept.run_setObj_map _ hb, Result.andThen, putO, bent]
    · simp at he
      rcases he with he | rfl
      · obtain ⟨m, b, e1, e2⟩ := h1 e (by simpa using he)
        exact ⟨m, b, e1, (hadd m).2 (.inr e2)⟩
      · exact ⟨k, c, rfl, (hadd k).2 (.inl rfl)⟩
    · rcases (hadd j).1 hj with rfl | hj
      · exact ⟨bent j c, by simp, rfl⟩
      · obtain ⟨e, he, e2⟩ := h2 j hj
        exact ⟨e, by simp; exact .inl (by simpa using he), e2⟩
  · have hj : j < es.size := by simpa using h3
    obtain ⟨m, b, e1, e2⟩ := h1 es[j] (by simp)
    have hkm : m = k := by
      have : es.toList[j]? = some es[j] := by simp [hj]
      rw [this] at h5
      simp [e1, bent] at h5
      omega
    subst hkm
    have hkey : (((es[j]?).map (·.key)).getD (.int .i64 m)) = .int .i64 m := by rw [Array.getElem?_eq_getElem hj]; simp [e1, bent]
    have hmod : (es.modify j fun e => { e with key := .int .i64 m, val := .bool true }) = es := by
      refine Array.ext (by simp) fun i q1 q2 => ?_
      rw [Array.getElem_modify]
      split
      · next e => subst e; rw [e1]; rfl
      · rfl
    refine ⟨es, c, ?_, fun e he => ?_, fun i hi => ?_⟩
    · have hks := MapKept.run_keyThatStays (P := Tryd.prog) (w := w) (d := .int .i64) (k := .int .i64 m) (by simp [MapKept.IsKey])
      simp [Instr.mapUpdate, run_underlying Tryd.underlying41, MapKept.run_getObj_map hb, hc', MapKept.run_findKey Tryd.underlying3 h4, hkey, hks, MapKept.run_setObj_map _ hb, Result.andThen, putO]
      exact congrArg (fun x => w.heap.setIfInBounds r (Obj.map x c)) hmod
    · obtain ⟨x, y, z, u⟩ := h1 e he
      exact ⟨x, y, z, (hadd x).2 (.inr u)⟩
    · rcases (hadd i).1 hi with rfl | hi
      · exact h2 i e2
      · exact h2 i hi
theorem SetAt.put {w : World} {r : Nat} {es : Array MapEntry} {c : Nat} {f : Nat → Bool} {o : Obj} (hb : w.heap[r]? = some o) (h : SetM es f) : SetAt (putO w r (.map es c)) r f := by
  refine ⟨es, c, ?_, h⟩
  have hlt := (Array.getElem?_eq_some_iff.1 hb).1
  unfold putO
  simp [hlt]
end Go.Proofs.YtcenjphpdgadmaaDoor
