/-
  A set of places as a map of truths: what is found in it, and what putting one more makes.
  The world while a run goes: the program's block, the state's, and two sets of places.
  The world while a run goes, beside an answer of Best; a set of places beside it.
-/
import Derived.Test.YtapjgobkpehgfaaGreatDoorUAC
import Derived.Test.YtapjgobkpehgfaaGreatDoorUAH
import Derived.WideMake
import Derived.MapKept
import Derived.Test.YtapjgobkpehgfaaGreatDoorUBU
import Derived.Test.YtapjgobkpehgfaaGreatDoorUBM
import Derived.Test.YtapjgobkpehgfaaGreatDoorUAP

/- A set of places as a map of truths: what is found in it, and what putting one more makes. -/
namespace Go.Proofs.YtapjgobkpehgfaaGreatDoor
set_option linter.unusedSimpArgs false
set_option linter.unusedVariables false
open Go.RowKit

def bent (k : Int) (b : Nat) : MapEntry := { key := .int .i64 k, val := .bool true, born := b }
/-- Such a map. -/
def SetM (es : Array MapEntry) (f : Nat → Bool) : Prop := (∀ e ∈ es.toList, ∃ (k : Nat) (b : Nat), e = bent k b ∧ f k = true) ∧ ∀ k : Nat, f k = true → ∃ e ∈ es.toList, e.key = .int .i64 k
def SetAt (w : World) (r : Nat) (f : Nat → Bool) : Prop := ∃ es c, w.heap[r]? = some (.map es c) ∧ SetM es f
theorem setM_0 : SetM #[] (fun _ => false) := ⟨by simp, by simp⟩
theorem find_set (k : Nat) : ∀ (l : List MapEntry) (i : Nat), (∀ e ∈ l, ∃ (k : Nat) (b : Nat), e = bent k b) →
    ((∀ e ∈ l, e.key ≠ .int .i64 k) ∧ Instr.findNow (.int .i64) (.int .i64 k) l i = some none) ∨ ∃ j, j < l.length ∧ (l[j]?.map (·.key)) = some (.int .i64 k) ∧ Instr.findNow (.int .i64) (.int .i64 k) l i = some (some (i + j, .bool true))
  | [], i, _ => .inl ⟨by simp, rfl⟩
  | e :: l, i, h => by
    obtain ⟨m, b, rfl⟩ := h e (by simp)
    by_cases hm : m = k
    · subst hm
      refine .inr ⟨0, by simp, rfl, ?_⟩
      simp [Instr.findNow, Instr.sameNow, bent]
    · have hs : Instr.sameNow (.int .i64) (.int .i64 k) (.int .i64 m) = some false := by simp [Instr.sameNow]; omega
      rcases find_set k l (i + 1) (fun e he => h e (by simp [he])) with ⟨h1, h2⟩ | ⟨j, h1, h2, h3⟩
      · refine .inl ⟨fun e he => ?_, ?_⟩
        · rcases List.mem_cons.1 he with rfl | he
          · simp [bent]; omega
          · exact h1 e he
        · simp only [Instr.findNow, bent, hs]; exact h2
      · refine .inr ⟨j + 1, by simp; omega, by simpa using h2, ?_⟩
        simp only [Instr.findNow, bent, hs]
        rw [h3, show i + 1 + j = i + (j + 1) by omega]
set_option maxRecDepth 100000 in
theorem set_get {w : World} {r : Nat} {f : Nat → Bool} (h : SetAt w r f) (k : Nat) : (Instr.lookup 53 (.map (some r)) (.int .i64 k) false).run Tryz.prog w = .ok (.bool (f k)) w := by
  obtain ⟨es, c, hb, h1, h2⟩ := h
  have hc' : ∀ e, (Instr.checkKey e 10000 3 (.int .i64 k)).run Tryz.prog w = .ok () w := fun e => MapKept.run_checkKey (k := .int .i64 k) Tryz.underlying3 (by simp [MapKept.IsKey]) e 9999
  rcases find_set k es.toList 0 (fun e he => by obtain ⟨m, b, e1, _⟩ := h1 e he; exact ⟨m, b, e1⟩) with ⟨h3, h4⟩ | ⟨j, h3, h5, h4⟩
  · have hf : f k = false := by
      rcases hk : f k with _ | _
      · rfl
      · obtain ⟨e, he, hk'⟩ := h2 k hk
        exact absurd hk' (h3 e he)
    have hz : (zeroValue 4).run Tryz.prog w = .ok (.bool false) w := by kernel_rfl
    simp [Instr.lookup, run_underlying Tryz.underlying53, MapKept.run_getObj_map hb, hc', MapKept.run_findKey Tryz.underlying3 h4, Result.andThen, hf, hz]
  · have hf : f k = true := by
      rcases he : es.toList[j]? with _ | e
      · rw [he] at h5; simp at h5
      · rw [he] at h5
        obtain ⟨m, b, rfl, hm⟩ := h1 e (List.mem_of_getElem? he)
        have e5 : (m : Int) = k := by simpa [bent] using h5
        obtain rfl : m = k := by omega
        exact hm
    simp [Instr.lookup, run_underlying Tryz.underlying53, MapKept.run_getObj_map hb, hc', MapKept.run_findKey Tryz.underlying3 h4, Result.andThen, hf]
set_option maxRecDepth 100000 in
theorem set_put {w : World} {r : Nat} {f : Nat → Bool} (h : SetAt w r f) (k : Nat) : ∃ es c, (Instr.mapUpdate 53 (.map (some r)) (.int .i64 k) (.bool true)).run Tryz.prog w = .ok () (putO w r (.map es c)) ∧ SetM es (addB f k) := by
  obtain ⟨es, c, hb, h1, h2⟩ := h
  have hc' : ∀ e, (Instr.checkKey e 10000 3 (.int .i64 k)).run Tryz.prog w = .ok () w := fun e => MapKept.run_checkKey (k := .int .i64 k) Tryz.underlying3 (by simp [MapKept.IsKey]) e 9999
  have hadd : ∀ j, addB f k j = true ↔ j = k ∨ f j = true := fun j => by simp [addB]
  rcases find_set k es.toList 0 (fun e he => by obtain ⟨m, b, e1, _⟩ := h1 e he; exact ⟨m, b, e1⟩) with ⟨h3, h4⟩ | ⟨j, h3, h5, h4⟩
  · refine ⟨es.push (bent k c), c + 1, ?_, fun e he => ?_, fun j hj => ?_⟩
    · simp [Instr.mapUpdate, run_underlying Tryz.underlying53, MapKept.run_getObj_map hb, hc', MapKept.run_findKey Tryz.underlying3 h4, MapKept.run_setObj_map _ hb, Result.andThen, putO, bent]
    · simp at he
      rcases he with he | rfl
      · obtain ⟨m, b, e1, e2⟩ := h1 e (by simpa using he)
        exact ⟨m, b, e1, (hadd m).2 (.inr e2)⟩
      · exact ⟨k, c, rfl, (hadd k).2 (.inl rfl)⟩
    · rcases (hadd j).1 hj with rfl | hj
      · exact ⟨bent j c, by simp, rfl⟩
      · obtain ⟨e, he, e2⟩ := h2 j hj
        exact ⟨e, by simp; exact .inl (by simpa using he), e2⟩
  · have hj : j < es.size := by simpa using h3
    obtain ⟨m, b, e1, e2⟩ := h1 es[j] (by simp)
    have hkm : m = k := by
      have : es.toList[j]? = some es[j] := by simp [hj]
      rw [this] at h5
      simp [e1, bent] at h5
      omega
    subst hkm
    have hkey : (((es[j]?).map (·.key)).getD (.int .i64 m)) = .int .i64 m := by rw [Array.getElem?_eq_getElem hj]; simp [e1, bent]
    have hmod : (es.modify j fun e => { e with key := .int .i64 m, val := .bool true }) = es := by
      refine Array.ext (by simp) fun i q1 q2 => ?_
      rw [Array.getElem_modify]
      split
      · next e => subst e; rw [e1]; rfl
      · rfl
    refine ⟨es, c, ?_, fun e he => ?_, fun i hi => ?_⟩
    · have hks := MapKept.run_keyThatStays (P := Tryz.prog) (w := w) (d := .int .i64) (k := .int .i64 m) (by simp [MapKept.IsKey])
      simp [Instr.mapUpdate, run_underlying Tryz.underlying53, MapKept.run_getObj_map hb, hc', MapKept.run_findKey Tryz.underlying3 h4, hkey, hks, MapKept.run_setObj_map _ hb, Result.andThen, putO]
      exact congrArg (fun x => w.heap.setIfInBounds r (Obj.map x c)) hmod
    · obtain ⟨x, y, z, u⟩ := h1 e he
      exact ⟨x, y, z, (hadd x).2 (.inr u)⟩
    · rcases (hadd i).1 hi with rfl | hi
      · exact h2 i e2
      · exact h2 i hi
theorem SetAt.put {w : World} {r : Nat} {es : Array MapEntry} {c : Nat} {f : Nat → Bool} {o : Obj} (hb : w.heap[r]? = some o) (h : SetM es f) : SetAt (putO w r (.map es c)) r f := by
  refine ⟨es, c, ?_, h⟩
  have hlt := (Array.getElem?_eq_some_iff.1 hb).1
  unfold putO
  simp [hlt]
end Go.Proofs.YtapjgobkpehgfaaGreatDoor

/- The world while a run goes: the program's block, the state's, and two sets of places. -/
namespace Go.Proofs.YtapjgobkpehgfaaGreatDoor
set_option linter.unusedSimpArgs false
set_option linter.unusedVariables false
open Go.RowKit

/-- A map changes; the rows stay. -/
theorem RowN.putM {w : World} {b : Nat} {v : Value} {cs : List Value} {es es' : Array MapEntry} {c0 c1 : Nat} (h : RowN w v cs) (hb : w.heap[b]? = some (.map es c0)) : RowN (putO w b (.map es' c1)) v cs := by
  have hne : ∀ (a : Addr) (n c : Nat), v = .slice (some a) n c → a.block ≠ b := fun a n c e => by
    obtain ⟨ys, e', fr, h1, -⟩ := h.2.2 a n c e
    rintro rfl
    rw [hb] at h1
    cases h1
  refine ⟨?_, h.2.1, fun a n c e => ?_⟩
  · obtain ⟨a, c, rfl, h1, h2, h3⟩ := h.1
    refine ⟨a, c, rfl, h1, h2, h3.imp id ?_⟩
    rintro ⟨b0, o, rfl, hlt, hc⟩
    have := hne ⟨b0, o, none⟩ _ _ rfl
    refine ⟨b0, o, rfl, by rw [putO_size]; exact hlt, fun j x hx => ?_⟩
    rw [World.cell?_of_block (a := ⟨b0, o + j, none⟩) (putO_ne w this _)]
    exact hc j x hx
  · obtain ⟨ys, e', fr, h1, h2⟩ := h.2.2 a n c e
    exact ⟨ys, e', fr, by rw [putO_ne w (hne a n c e)]; exact h1, h2⟩
theorem GridN.putM {w : World} {b : Nat} {v : Value} {xss : List (List Int)} {es es' : Array MapEntry} {c0 c1 : Nat} (h : GridN w v xss) (hb : w.heap[b]? = some (.map es c0)) : GridN (putO w b (.map es' c1)) v xss := by
  obtain ⟨rows, h1, h2, h3, h4⟩ := h
  exact ⟨rows, h1, h2.putM hb, h3, fun j r xs hr hx => (h4 j r xs hr hx).putM hb⟩
theorem StN.putM {w : World} {b : Nat} {vo vt : Value} {s : PSt} {es es' : Array MapEntry} {c0 c1 : Nat} (h : StN w vo vt s) (hb : w.heap[b]? = some (.map es c0)) : StN (putO w b (.map es' c1)) vo vt s := ⟨h.len, h.objs.putM hb, h.out.putM hb⟩
theorem putM_below {B : Nat} (w : World) {b : Nat} (h : B ≤ b) (o : Obj) : Below B w (putO w b o) :=
  ⟨rfl, rfl, rfl, by rw [putO_size]; exact Nat.le_refl _, fun k hk => putO_ne w (by omega) o⟩
theorem SetAt.below {w w' : World} {r : Nat} {f : Nat → Bool} (h : SetAt w r f) (hb : Below w.heap.size w w') : SetAt w' r f := by
  obtain ⟨es, c, h1, h2⟩ := h
  exact ⟨es, c, by rw [hb.block _ (Array.getElem?_eq_some_iff.1 h1).1]; exact h1, h2⟩
theorem SetAt.lt {w : World} {r : Nat} {f : Nat → Bool} (h : SetAt w r f) : r < w.heap.size := by
  obtain ⟨es, c, h1, -⟩ := h
  exact (Array.getElem?_eq_some_iff.1 h1).1
theorem SetAt.ne {w : World} {r b : Nat} {f : Nat → Bool} {C : Array Value} {t : TypeId} (h : SetAt w r f) (hb : blk w b C t) : b ≠ r := by
  obtain ⟨es, c, h1, -⟩ := h
  rintro rfl
  unfold blk at hb
  rw [hb] at h1
  cases h1
theorem SetAt.other {w : World} {r b : Nat} {f : Nat → Bool} {o : Obj} (h : SetAt w r f) (hne : r ≠ b) : SetAt (putO w b o) r f := by
  obtain ⟨es, c, h1, h2⟩ := h
  exact ⟨es, c, by rw [putO_ne w hne]; exact h1, h2⟩
theorem setAt_new (w : World) : SetAt (w.alloc (.map #[] 0)) w.heap.size (fun _ => false) := ⟨#[], 0, heap_alloc_new w _, setM_0⟩
structure FrW (w wr : World) (b r6 r7 : Nat) (C : Array Value) (s : PSt) (vo vt : Value) (f g : Nat → Bool) : Prop where
  below : Below w.heap.size w wr
  prog : blk wr w.heap.size C 25
  st : blk wr b (stC s vo vt) 44
  at' : StN wr vo vt s
  f : SetAt wr r6 f
  g : SetAt wr r7 g
  hb : w.heap.size < b
  h6 : w.heap.size < r6
  h7 : w.heap.size < r7
  ne : r6 ≠ r7
section
variable {w wr w' : World} {b r6 r7 : Nat} {C : Array Value} {s t : PSt} {vo vt vo2 vt2 : Value} {f g f' : Nat → Bool}
theorem FrW.next (h : FrW w wr b r6 r7 C s vo vt f g) (hb : Below wr.heap.size wr w') : FrW w w' b r6 r7 C s vo vt f g :=
  ⟨h.below.trans (hb.mono h.below.size), blk_below h.prog hb, blk_below h.st hb, h.at'.below hb, h.f.below hb, h.g.below hb, h.hb, h.h6, h.h7, h.ne⟩
theorem FrW.put (h : FrW w wr b r6 r7 C s vo vt f g) (ht : StN wr vo2 vt2 t) : FrW w (putB wr b (stC t vo2 vt2) 44) b r6 r7 C t vo2 vt2 f g :=
  ⟨h.below.trans (putB_below _ (by have := h.hb; omega) _ _), by unfold blk; rw [putB_ne _ (by have := h.hb; omega)]; exact h.prog, putB_at h.st _ _, ht.putT h.st (by decide), h.f.other (fun e => h.f.ne h.st e.symm), h.g.other (fun e => h.g.ne h.st e.symm), h.hb, h.h6, h.h7, h.ne⟩
theorem FrW.put6 (h : FrW w wr b r6 r7 C s vo vt f g) {es : Array MapEntry} {c : Nat} (hm : SetM es f') : FrW w (putO wr r6 (.map es c)) b r6 r7 C s vo vt f' g := by
  obtain ⟨e0, c0, h1, -⟩ := id h.f
  exact ⟨h.below.trans (putM_below _ (by have := h.h6; omega) _), by unfold blk; rw [putO_ne _ (by have := h.h6; omega)]; exact h.prog, by unfold blk; rw [putO_ne _ (h.f.ne h.st)]; exact h.st, h.at'.putM h1, SetAt.put h1 hm, h.g.other (fun e => h.ne e.symm), h.hb, h.h6, h.h7, h.ne⟩
theorem FrW.put7 (h : FrW w wr b r6 r7 C s vo vt f g) {es : Array MapEntry} {c : Nat} (hm : SetM es f') : FrW w (putO wr r7 (.map es c)) b r6 r7 C s vo vt f f' := by
  obtain ⟨e0, c0, h1, -⟩ := id h.g
  exact ⟨h.below.trans (putM_below _ (by have := h.h7; omega) _), by unfold blk; rw [putO_ne _ (by have := h.h7; omega)]; exact h.prog, by unfold blk; rw [putO_ne _ (h.g.ne h.st)]; exact h.st, h.at'.putM h1, h.f.other h.ne, SetAt.put h1 hm, h.hb, h.h6, h.h7, h.ne⟩
theorem FrW.new7 (h : FrW w wr b r6 r7 C s vo vt f g) : FrW w (wr.alloc (.map #[] 0)) b r6 wr.heap.size C s vo vt f (fun _ => false) := by
  have hb : Below wr.heap.size wr (wr.alloc (.map #[] 0)) := (Below.refl _ _).alloc (Nat.le_refl _) _
  have h2 := h.next hb
  have h3 := blk_lt h.prog
  have h4 := h.f.lt
  exact ⟨h2.below, h2.prog, h2.st, h2.at', h2.f, setAt_new wr, h.hb, h.h6, h3, by omega⟩
theorem FrW.start {w1 : World} (hB : Below w.heap.size w w1) (hp : blk w1 w.heap.size C 25) :
    FrW w (((w1.alloc (.cells zeroS 44)).alloc (.map #[] 0)).alloc (.map #[] 0)) w1.heap.size (w1.heap.size + 1) (w1.heap.size + 1 + 1) C st0 (.slice none 0 0) (.slice none 0 0) (fun _ => false) (fun _ => false) := by
  have b1 : Below w1.heap.size w1 (w1.alloc (.cells zeroS 44)) := (Below.refl _ _).alloc (Nat.le_refl _) _
  have s1 : (w1.alloc (.cells zeroS 44)).heap.size = w1.heap.size + 1 := by simp
  have b2 : Below (w1.heap.size + 1) (w1.alloc (.cells zeroS 44)) ((w1.alloc (.cells zeroS 44)).alloc (.map #[] 0)) := (Below.refl _ _).alloc (by rw [s1]; exact Nat.le_refl _) _
  have s2 : ((w1.alloc (.cells zeroS 44)).alloc (.map #[] 0)).heap.size = w1.heap.size + 1 + 1 := by simp
  have b3 : Below (w1.heap.size + 1 + 1) ((w1.alloc (.cells zeroS 44)).alloc (.map #[] 0)) (((w1.alloc (.cells zeroS 44)).alloc (.map #[] 0)).alloc (.map #[] 0)) := (Below.refl _ _).alloc (by rw [s2]; exact Nat.le_refl _) _
  have hlt := blk_lt hp
  have b23 := (b2.trans (b3.mono (by omega)))
  have f1 := setAt_new (w1.alloc (.cells zeroS 44))
  rw [s1] at f1
  have f2 := setAt_new ((w1.alloc (.cells zeroS 44)).alloc (.map #[] 0))
  rw [s2] at f2
  exact ⟨hB.trans ((b1.trans (b23.mono (by omega))).mono hB.size), blk_below hp (b1.trans (b23.mono (by omega))), blk_below (blk_new w1 zeroS 44) (by rw [s1]; exact b23), ⟨⟨rfl, rfl, rfl⟩, ⟨[], rfl, ⟨⟨none, 0, rfl, Nat.le_refl _, by unfold maxLen; omega, .inl rfl⟩, fun _ => rfl, fun a n c e => (by cases e)⟩, fun xs hx => (by cases hx), fun j r xs hr _ => (by cases hr)⟩, ⟨none, 0, rfl, Nat.le_refl _, by unfold maxLen; omega, .inl rfl⟩, fun _ => rfl, fun a n c e => (by cases e)⟩, f1.below (by rw [s2]; exact b3), f2, hlt, by omega, by omega, by omega⟩
end
end Go.Proofs.YtapjgobkpehgfaaGreatDoor

/- The world while a run goes, beside an answer of Best; a set of places beside it. -/
namespace Go.Proofs.YtapjgobkpehgfaaGreatDoor
set_option linter.unusedSimpArgs false
set_option linter.unusedVariables false
open Go.RowKit

structure PrW (w fw wr : World) (b : Nat) (C : Array Value) (s : PSt) (vo vt : Value) : Prop where
  below : Below w.heap.size w wr
  old : Below fw.heap.size fw wr
  prog : blk wr w.heap.size C 25
  st : blk wr b (stC s vo vt) 44
  at' : StN wr vo vt s
  h0 : w.heap.size < b
  h1 : fw.heap.size ≤ b
section
variable {w fw wr w' : World} {b : Nat} {C : Array Value} {s t : PSt} {vo vt vo2 vt2 : Value}
theorem PrW.next (h : PrW w fw wr b C s vo vt) (hb : Below wr.heap.size wr w') : PrW w fw w' b C s vo vt :=
  ⟨h.below.trans (hb.mono h.below.size), h.old.trans (hb.mono h.old.size), blk_below h.prog hb, blk_below h.st hb, h.at'.below hb, h.h0, h.h1⟩
theorem PrW.put (h : PrW w fw wr b C s vo vt) (ht : StN wr vo2 vt2 t) : PrW w fw (putB wr b (stC t vo2 vt2) 44) b C t vo2 vt2 := by
  have h0 := h.h0
  have h1 := h.h1
  exact ⟨h.below.trans (putB_below _ (by omega) _ _), h.old.trans (putB_below _ (by omega) _ _), by unfold blk; rw [putB_ne _ (by omega)]; exact h.prog, putB_at h.st _ _, ht.putT h.st (by decide), h0, h1⟩
theorem PrW.start (hB : Below w.heap.size w fw) (hp : blk fw w.heap.size C 25) : PrW w fw (fw.alloc (.cells zeroS 44)) fw.heap.size C st0 (.slice none 0 0) (.slice none 0 0) := by
  have b1 : Below fw.heap.size fw (fw.alloc (.cells zeroS 44)) := (Below.refl _ _).alloc (Nat.le_refl _) _
  exact ⟨hB.trans (b1.mono hB.size), b1, blk_below hp b1, blk_new fw zeroS 44, st0_n _, blk_lt hp, Nat.le_refl _⟩
theorem PrW.p (h : PrW w fw wr b C s vo vt) {k : Nat} (hk : k < 8) : wr.cell? ⟨b, 8 + k, none⟩ = some (.int .i64 (s.p.getD k 0)) :=
  (range_x h.st h.at'.len).2.1 k _ (i64s_get (by rw [List.getD_eq_getElem?_getD, List.getElem?_eq_getElem (show k < s.p.length by rw [h.at'.len.p]; exact hk)]; rfl))
end
structure PoW (w fw wr : World) (b r : Nat) (C : Array Value) (s : PSt) (vo vt : Value) (f : Nat → Bool) : Prop where
  pr : PrW w fw wr b C s vo vt
  f : SetAt wr r f
  hr : fw.heap.size < r
  hw : w.heap.size ≤ fw.heap.size
section
variable {w fw wr w' : World} {b r : Nat} {C : Array Value} {s t : PSt} {vo vt vo2 vt2 : Value} {f f' : Nat → Bool}
theorem PoW.next (h : PoW w fw wr b r C s vo vt f) (hb : Below wr.heap.size wr w') : PoW w fw w' b r C s vo vt f := ⟨h.pr.next hb, h.f.below hb, h.hr, h.hw⟩
theorem PoW.put (h : PoW w fw wr b r C s vo vt f) (ht : StN wr vo2 vt2 t) : PoW w fw (putB wr b (stC t vo2 vt2) 44) b r C t vo2 vt2 f :=
  ⟨h.pr.put ht, h.f.other (fun e => h.f.ne h.pr.st e.symm), h.hr, h.hw⟩
theorem PoW.mark (h : PoW w fw wr b r C s vo vt f) {es : Array MapEntry} {c : Nat} (hm : SetM es f') : PoW w fw (putO wr r (.map es c)) b r C s vo vt f' := by
  obtain ⟨e0, c0, h1, -⟩ := id h.f
  have hr := h.hr
  have hne := h.f.ne h.pr.st
  have hpr := h.f.ne h.pr.prog
  have hwl := h.hw
  exact ⟨⟨h.pr.below.trans (putM_below _ (by omega) _), h.pr.old.trans (putM_below _ (by omega) _), by unfold blk; rw [putO_ne _ hpr]; exact h.pr.prog, by unfold blk; rw [putO_ne _ hne]; exact h.pr.st, h.pr.at'.putM h1, h.pr.h0, h.pr.h1⟩, SetAt.put h1 hm, h.hr, h.hw⟩
theorem PoW.start (hB : Below w.heap.size w fw) (hp : blk fw w.heap.size C 25) : PoW w fw ((fw.alloc (.cells zeroS 44)).alloc (.map #[] 0)) fw.heap.size (fw.heap.size + 1) C st0 (.slice none 0 0) (.slice none 0 0) (fun _ => false) := by
  have h0 := PrW.start hB hp
  have s1 : (fw.alloc (.cells zeroS 44)).heap.size = fw.heap.size + 1 := by simp
  have b2 : Below (fw.alloc (.cells zeroS 44)).heap.size (fw.alloc (.cells zeroS 44)) ((fw.alloc (.cells zeroS 44)).alloc (.map #[] 0)) := (Below.refl _ _).alloc (Nat.le_refl _) _
  have f1 := setAt_new (fw.alloc (.cells zeroS 44))
  rw [s1] at f1
  exact ⟨h0.next b2, f1, by omega, hB.size⟩
end
end Go.Proofs.YtapjgobkpehgfaaGreatDoor
