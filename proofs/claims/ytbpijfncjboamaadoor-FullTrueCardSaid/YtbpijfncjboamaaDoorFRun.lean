/-
  The world while a run goes: the program's block, the state's, and two sets of places.
-/
import Derived.Test.YtbpijfncjboamaaDoorQSt
import Derived.Test.YtbpijfncjboamaaDoorFMap
namespace Go.Proofs.YtbpijfncjboamaaDoor
set_option linter.unusedSimpArgs false
set_option linter.unusedVariables false
open Go.RowKit

/-- A map changes; the rows stay. -/
theorem RowN.putM {w : World} {b : Nat} {v : Value} {cs : List Value} {es es' : Array MapEntry} {c0 c1 : Nat} (h : RowN w v cs) (hb : w.heap[b]? = some (.map es c0)) : RowN (putO w b (.map es' c1)) v cs := by
  have hne : ∀ (a : Addr) (n c : Nat), v = .slice (some a) n c → a.block ≠ b := fun a n c e => by
    obtain ⟨ys, e', fr, h1, -⟩ := h.2.2 a n c e
    rintro rfl
    rw [hb] at h1
    cases h1
  refine ⟨?_, h.2.1, fun a n c e => ?_⟩
  · obtain ⟨a, c, rfl, h1, h2, h3⟩ := h.1
    refine ⟨a, c, rfl, h1, h2, h3.imp id ?_⟩
    rintro ⟨b0, o, rfl, hlt, hc⟩
    have := hne ⟨b0, o, none⟩ _ _ rfl
    refine ⟨b0, o, rfl, by rw [putO_size]; exact hlt, fun j x hx => ?_⟩
    rw [World.cell?_of_block (a := ⟨b0, o + j, none⟩) (putO_ne w this _)]
    exact hc j x hx
  · obtain ⟨ys, e', fr, h1, h2⟩ := h.2.2 a n c e
    exact ⟨ys, e', fr, by rw [putO_ne w (hne a n c e)]; exact h1, h2⟩
theorem GridN.putM {w : World} {b : Nat} {v : Value} {xss : List (List Int)} {es es' : Array MapEntry} {c0 c1 : Nat} (h : GridN w v xss) (hb : w.heap[b]? = some (.map es c0)) : GridN (putO w b (.map es' c1)) v xss := by
  obtain ⟨rows, h1, h2, h3, h4⟩ := h
  exact ⟨rows, h1, h2.putM hb, h3, fun j r xs hr hx => (h4 j r xs hr hx).putM hb⟩
theorem StN.putM {w : World} {b : Nat} {vo vt : Value} {s : PSt} {es es' : Array MapEntry} {c0 c1 : Nat} (h : StN w vo vt s) (hb : w.heap[b]? = some (.map es c0)) : StN (putO w b (.map es' c1)) vo vt s := ⟨h.len, h.objs.putM hb, h.out.putM hb⟩
theorem putM_below {B : Nat} (w : World) {b : Nat} (h : B ≤ b) (o : Obj) : Below B w (putO w b o) :=
  ⟨rfl, rfl, rfl, by rw [putO_size]; exact Nat.le_refl _, fun k hk => putO_ne w (by omega) o⟩
theorem SetAt.below {w w' : World} {r : Nat} {f : Nat → Bool} (h : SetAt w r f) (hb : Below w.heap.size w w') : SetAt w' r f := by
  obtain ⟨es, c, h1, h2⟩ := h
  exact ⟨es, c, by rw [hb.block _ (Array.getElem?_eq_some_iff.1 h1).1]; exact h1, h2⟩
theorem SetAt.lt {w : World} {r : Nat} {f : Nat → Bool} (h : SetAt w r f) : r < w.heap.size := by
  obtain ⟨es, c, h1, -⟩ := h
  exact (Array.getElem?_eq_some_iff.1 h1).1
theorem SetAt.ne {w : World} {r b : Nat} {f : Nat → Bool} {C : Array Value} {t : TypeId} (h : SetAt w r f) (hb : blk w b C t) : b ≠ r := by
  obtain ⟨es, c, h1, -⟩ := h
  rintro rfl
  unfold blk at hb
  rw [hb] at h1
  cases h1
theorem SetAt.other {w : World} {r b : Nat} {f : Nat → Bool} {o : Obj} (h : SetAt w r f) (hne : r ≠ b) : SetAt (putO w b o) r f := by
  obtain ⟨es, c, h1, h2⟩ := h
  exact ⟨es, c, by rw [putO_ne w hne]; exact h1, h2⟩
theorem setAt_new (w : World) : SetAt (w.alloc (.map #[] 0)) w.heap.size (fun _ => false) := ⟨#[], 0, heap_alloc_new w _, setM_0⟩
structure FrW (w wr : World) (b r6 r7 : Nat) (C : Array Value) (s : PSt) (vo vt : Value) (f g : Nat → Bool) : Prop where
  below : Below w.heap.size w wr
  prog : blk wr w.heap.size C 25
  st : blk wr b (stC s vo vt) 36
  at' : StN wr vo vt s
  f : SetAt wr r6 f
  g : SetAt wr r7 g
  hb : w.heap.size < b
  h6 : w.heap.size < r6
  h7 : w.heap.size < r7
  ne : r6 ≠ r7
section
variable {w wr w' : World} {b r6 r7 : Nat} {C : Array Value} {s t : PSt} {vo vt vo2 vt2 : Value} {f g f' : Nat → Bool}
theorem FrW.next (h : FrW w wr b r6 r7 C s vo vt f g) (hb : Below wr.heap.size wr w') : FrW w w' b r6 r7 C s vo vt f g :=
  ⟨h.below.trans (hb.mono h.below.size), blk_below h.prog hb, blk_below h.st hb, h.at'.below hb, h.f.below hb, h.g.below hb, h.hb, h.h6, h.h7, h.ne⟩
theorem FrW.put (h : FrW w wr b r6 r7 C s vo vt f g) (ht : StN wr vo2 vt2 t) : FrW w (putB wr b (stC t vo2 vt2) 36) b r6 r7 C t vo2 vt2 f g :=
  ⟨h.below.trans (putB_below _ (by have := h.hb; omega) _ _), by unfold blk; rw [putB_ne _ (by have := h.hb; omega)]; exact h.prog, putB_at h.st _ _, ht.putT h.st (by decide), h.f.other (fun e => h.f.ne h.st e.symm), h.g.other (fun e => h.g.ne h.st e.symm), h.hb, h.h6, h.h7, h.ne⟩
theorem FrW.put6 (h : FrW w wr b r6 r7 C s vo vt f g) {es : Array MapEntry} {c : Nat} (hm : SetM es f') : FrW w (putO wr r6 (.map es c)) b r6 r7 C s vo vt f' g := by
  obtain ⟨e0, c0, h1, -⟩ := id h.f
  exact ⟨h.below.trans (putM_below _ (by have := h.h6; omega) _), by unfold blk; rw [putO_ne _ (by have := h.h6; omega)]; exact h.prog, by unfold blk; rw [putO_ne _ (h.f.ne h.st)]; exact h.st, h.at'.putM h1, SetAt.put h1 hm, h.g.other (fun e => h.ne e.symm), h.hb, h.h6, h.h7, h.ne⟩
theorem FrW.put7 (h : FrW w wr b r6 r7 C s vo vt f g) {es : Array MapEntry} {c : Nat} (hm : SetM es f') : FrW w (putO wr r7 (.map es c)) b r6 r7 C s vo vt f f' := by
  obtain ⟨e0, c0, h1, -⟩ := id h.g
  exact ⟨h.below.trans (putM_below _ (by have := h.h7; omega) _), by unfold blk; rw [putO_ne _ (by have := h.h7; omega)]; exact h.prog, by unfold blk; rw [putO_ne _ (h.g.ne h.st)]; exact h.st, h.at'.putM h1, h.f.other h.ne, SetAt.put h1 hm, h.hb, h.h6, h.h7, h.ne⟩
theorem FrW.new7 (h : FrW w wr b r6 r7 C s vo vt f g) : FrW w (wr.alloc (.map #[] 0)) b r6 wr.heap.size C s vo vt f (fun _ => false) := by
  have hb : Below wr.heap.size wr (wr.alloc (.map #[] 0)) := (Below.refl _ _).alloc (Nat.le_refl _) _
  have h2 := h.next hb
  have h3 := blk_lt h.prog
  have h4 := h.f.lt
  exact ⟨h2.below, h2.prog, h2.st, h2.at', h2.f, setAt_new wr, h.hb, h.h6, h3, by omega⟩
theorem FrW.start {w1 : World} (hB : Below w.heap.size w w1) (hp : blk w1 w.heap.size C 25) :
    FrW w (((w1.alloc (.cells zeroS 36)).alloc (.map #[] 0)).alloc (.map #[] 0)) w1.heap.size (w1.heap.size + 1) (w1.heap.size + 1 + 1) C st0 (.slice none 0 0) (.slice none 0 0) (fun _ => false) (fun _ => false) := by
  have b1 : Below w1.heap.size w1 (w1.alloc (.cells zeroS 36)) := (Below.refl _ _).alloc (Nat.le_refl _) _
  have s1 : (w1.alloc (.cells zeroS 36)).heap.size = w1.heap.size + 1 := by simp
  have b2 : Below (w1.heap.size + 1) (w1.alloc (.cells zeroS 36)) ((w1.alloc (.cells zeroS 36)).alloc (.map #[] 0)) := (Below.refl _ _).alloc (by rw [s1]; exact Nat.le_refl _) _
  have s2 : ((w1.alloc (.cells zeroS 36)).alloc (.map #[] 0)).heap.size = w1.heap.size + 1 + 1 := by simp
  have b3 : Below (w1.heap.size + 1 + 1) ((w1.alloc (.cells zeroS 36)).alloc (.map #[] 0)) (((w1.alloc (.cells zeroS 36)).alloc (.map #[] 0)).alloc (.map #[] 0)) := (Below.refl _ _).alloc (by rw [s2]; exact Nat.le_refl _) _
  have hlt := blk_lt hp
  have b23 := (b2.trans (b3.mono (by omega)))
  have f1 := setAt_new (w1.alloc (.cells zeroS 36))
  rw [s1] at f1
  have f2 := setAt_new ((w1.alloc (.cells zeroS 36)).alloc (.map #[] 0))
  rw [s2] at f2
  exact ⟨hB.trans ((b1.trans (b23.mono (by omega))).mono hB.size), blk_below hp (b1.trans (b23.mono (by omega))), blk_below (blk_new w1 zeroS 36) (by rw [s1]; exact b23), ⟨⟨rfl, rfl, rfl⟩, ⟨[], rfl, ⟨⟨none, 0, rfl, Nat.le_refl _, by unfold maxLen; omega, .inl rfl⟩, fun _ => rfl, fun a n c e => (by cases e)⟩, fun xs hx => (by cases hx), fun j r xs hr _ => (by cases hr)⟩, ⟨none, 0, rfl, Nat.le_refl _, by unfold maxLen; omega, .inl rfl⟩, fun _ => rfl, fun a n c e => (by cases e)⟩, f1.below (by rw [s2]; exact b3), f2, hlt, by omega, by omega, by omega⟩
end
end Go.Proofs.YtbpijfncjboamaaDoor
