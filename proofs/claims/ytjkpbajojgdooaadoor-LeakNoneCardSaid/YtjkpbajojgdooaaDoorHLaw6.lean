/-
  CheckEach: what the inner loop keeps; an instruction put into a row.
-/
import Derived.Test.YtjkpbajojgdooaaDoorHLaw4
namespace Go.Proofs.YtjkpbajojgdooaaDoor
set_option linter.unusedSimpArgs false
set_option linter.unusedVariables false
open Go.RowKit

theorem own_set {w : World} {B Q size n j : Nat} {e : TypeId} {v u : Value} {xs : List Value} {cs : Array Value} {t : TypeId} (h : w.ownsRow B e size v n xs) (hk : blk w Q cs t) (hQ : Q < B) : (w.setCell ⟨Q, j, none⟩ u).ownsRow B e size v n xs := by
  rw [setCell_putB hk]
  obtain ⟨h1, h2⟩ := h
  refine ⟨h1, h2.imp id ?_⟩
  rintro ⟨g, cap, cur, rfl, hg, hc, rest⟩
  exact ⟨g, cap, cur, rfl, hg, by rw [putB_ne _ (by omega)]; exact hc, rest⟩
theorem below_setCells {B : Nat} {a : World} {b : Nat} (hb : B ≤ b) : ∀ (vs : List Value) (o : Nat) (w : World), Below B a w → Below B a (w.setCells b o vs)
  | [], _, _, h => h
  | v :: r, o, w, h => by
    rw [World.setCells]
    exact below_setCells hb r (o + 1) _ (h.setCell (p := ⟨b, o, none⟩) hb v)
/-- A row of instructions of the call's own, one of them put anew. -/
theorem own_put {w : World} {B g n c k : Nat} {is : List PIns} {i : PIns} (h : w.ownsRow B 45 5 (.slice (some ⟨g, 0, none⟩) n c) is.length (codeCells is)) (hk : k < is.length) :
    w.there g (k * 5) 5 ∧ B ≤ g ∧ InsRow (w.setCells g (k * 5) (insC i).toList) (.slice (some ⟨g, 0, none⟩) n c) (is.set k i) := by
  have hir := insRow_own h
  have hB : B ≤ g ∧ ∃ cur, w.heap[g]? = some (.cells cur 45 (0, 0)) := by
    rcases h.2 with ⟨h1, _⟩ | ⟨g', cap, cur, h1, h2, h3, _⟩
    · cases h1
    · simp only [Value.slice.injEq, Option.some.injEq, Addr.mk.injEq] at h1
      obtain ⟨⟨rfl, _⟩, _⟩ := h1
      exact ⟨h2, cur, h3⟩
  obtain ⟨hB, cur, hcur⟩ := hB
  obtain ⟨a, c', e, h1, h2, h3⟩ := hir
  simp only [Value.slice.injEq] at e
  obtain ⟨rfl, rfl, rfl⟩ := e
  have hrg : ∀ j i, is[j]? = some i → w.rangeAt g (j * 5) (insC i).toList := fun j i hj => by
    obtain ⟨b, o, e, _, hr⟩ := h3 j i hj
    simp only [Option.some.injEq, Addr.mk.injEq] at e
    obtain ⟨rfl, rfl, _⟩ := e
    rw [Nat.zero_add] at hr; exact hr
  have hth : w.there g (k * 5) 5 := fun j hj => by
    refine ⟨?_, by simp [World.frozen?, hcur]⟩
    have := (hrg k is[k] (List.getElem?_eq_getElem hk)).isSome j (by simpa using hj)
    exact this
  refine ⟨hth, hB, some ⟨g, 0, none⟩, c, by rw [List.length_set], by rw [List.length_set]; exact h1, h2, fun j i' hj => ⟨g, 0, rfl, ?_, ?_⟩⟩
  · have hb := (below_setCells (B := 0) (Nat.zero_le g) (insC i).toList (k * 5) w (Below.refl 0 w)).size
    have := (Array.getElem?_eq_some_iff.1 hcur).1
    omega
  · rw [Nat.zero_add]
    rw [List.getElem?_set] at hj
    split at hj
    · next e =>
      subst e
      obtain rfl := Option.some.inj hj
      exact World.rangeAt_setCells_same w g (k * 5) _ hth
    · next e =>
      have hr := hrg j i' hj
      refine World.rangeAt_setCells_apart hr g (k * 5) _ ?_
      have l1 : (insC i').toList.length = 5 := rfl
      have l2 : (insC i).toList.length = 5 := rfl
      rw [l1, l2]
      omega
/-- What the inner loop has behind j rounds. -/
structure EIn (W0 W : World) (P I Q : Nat) (vt vp vc : Value) (p : PProg) (i : PIns) (j : Nat) : Prop where
  b : Below W0.heap.size W0 W
  kp : Keep W P vt vp p
  ki : blk W I (insC i) 45
  kq : blk W Q (progC vt p vc) 25
  row : W.ownsRow (Q + 1) 45 5 vc j (codeCells (List.replicate j prI))
theorem EIn.form {W0 W : World} {P I Q : Nat} {vt vp vc : Value} {p : PProg} {i : PIns} {j : Nat} (h : EIn W0 W P I Q vt vp vc p i j) : (vc = .slice none 0 0 ∧ j = 0) ∨ ∃ g cap, vc = .slice (some ⟨g, 0, none⟩) j cap := ownsRow_forms h.row
theorem EIn.q' {W0 W W' : World} {P I Q : Nat} {vt vp vc : Value} {p : PProg} {i : PIns} {j : Nat} (h : EIn W0 W P I Q vt vp vc p i j) (hb : Below (Q + 1) W W') : blk W' Q (progC vt p vc) 25 := by
  unfold blk; rw [hb.block Q (by omega)]; exact h.kq
/-- One more. -/
theorem EIn.next {W0 W W' : World} {P I Q : Nat} {vt vp vc : Value} {p : PProg} {i : PIns} {j g cap : Nat} (h : EIn W0 W P I Q vt vp vc p i j) (h1 : P < I) (h2 : I < Q) (h3 : W0.heap.size ≤ I) (hb : Below (Q + 1) W W') (hr : W'.ownsRow (Q + 1) 45 5 (.slice (some ⟨g, 0, none⟩) (j + 1) cap) (j + 1) (codeCells (List.replicate j prI ++ [prI]))) (ht : RowAt W0 vt (p.types.map str)) (hc : InsRow W0 vp p.code) :
    EIn W0 (W'.setCell ⟨Q, 3, none⟩ (.slice (some ⟨g, 0, none⟩) (j + 1) cap)) P I Q vt vp (.slice (some ⟨g, 0, none⟩) (j + 1) cap) p i (j + 1) := by
  have kq' : blk W' Q (progC vt p vc) 25 := by unfold blk; rw [hb.block Q (by omega)]; exact h.kq
  have hbs : Below W0.heap.size W0 (W'.setCell ⟨Q, 3, none⟩ (.slice (some ⟨g, 0, none⟩) (j + 1) cap)) := (h.b.trans (hb.mono (by omega))).setCell (p := ⟨Q, 3, none⟩) (by simp; omega) _
  refine ⟨hbs, ⟨?_, _, _, rfl, ht.below hbs, hc.below hbs⟩, ?_, ?_, ?_⟩
  · rw [setCell_putB kq']
    unfold blk
    rw [putB_ne _ (by omega), hb.block P (by omega)]; exact h.kp.blk
  · rw [setCell_putB kq']
    unfold blk
    rw [putB_ne _ (by omega), hb.block I (by omega)]; exact h.ki
  · rw [setCell_putB kq']
    have := putB_at kq' (progC vt p (.slice (some ⟨g, 0, none⟩) (j + 1) cap)) 25
    exact this
  · rw [List.replicate_succ']
    exact own_set hr kq' (by omega)
theorem insC_one (i : PIns) : (insC i).all (·.oneCell') = true := all_oneCell_toArray (cs := (insC i).toList) (by intro v h; simp at h; rcases h with rfl | rfl | rfl | rfl | rfl <;> rfl)
def eachP (p : PProg) (k : Nat) (i : PIns) : PProg := { p with code := (List.replicate p.code.length prI).set k i }
/-- The program behind the store. -/
theorem EIn.put {W0 W : World} {P I Q : Nat} {vt vp : Value} {p : PProg} {i : PIns} {g cap k : Nat} (h : EIn W0 W P I Q vt vp (.slice (some ⟨g, 0, none⟩) p.code.length cap) p i p.code.length) (hk : k < p.code.length) (h1 : P < I) (h2 : I < Q) (h3 : W0.heap.size ≤ I) (ht : RowAt W0 vt (p.types.map str)) (hc : InsRow W0 vp p.code) :
    W.there g (k * 5) 5 ∧ Below W0.heap.size W0 (W.setCells g (k * 5) (insC i).toList) ∧ Keep (W.setCells g (k * 5) (insC i).toList) P vt vp p ∧ Keep (W.setCells g (k * 5) (insC i).toList) Q vt (.slice (some ⟨g, 0, none⟩) p.code.length cap) (eachP p k i) := by
  have hrow := h.row
  have hlen : (List.replicate p.code.length prI).length = p.code.length := List.length_replicate ..
  have hrow' : W.ownsRow (Q + 1) 45 5 (.slice (some ⟨g, 0, none⟩) p.code.length cap) (List.replicate p.code.length prI).length (codeCells (List.replicate p.code.length prI)) := by rw [hlen]; exact hrow
  obtain ⟨ht5, hB, hir⟩ := own_put (i := i) hrow' (k := k) (by rw [hlen]; exact hk)
  have hbs := below_setCells (B := W0.heap.size) (a := W0) (b := g) (by omega) (insC i).toList (k * 5) W h.b
  have hbq := below_setCells (B := Q + 1) (a := W) (b := g) hB (insC i).toList (k * 5) W (Below.refl _ _)
  refine ⟨ht5, hbs, ⟨?_, _, _, rfl, ht.below hbs, hc.below hbs⟩, ⟨?_, vt, _, rfl, ht.below hbs, hir⟩⟩
  · unfold blk; rw [hbq.block P (by omega)]; exact h.kp.blk
  · have e : progC vt (eachP p k i) (.slice (some ⟨g, 0, none⟩) p.code.length cap) = progC vt p (.slice (some ⟨g, 0, none⟩) p.code.length cap) := rfl
    rw [e]; unfold blk; rw [hbq.block Q (by omega)]; exact h.kq
end Go.Proofs.YtjkpbajojgdooaaDoor
