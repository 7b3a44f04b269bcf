/-
  A program without stores is built up, instruction by instruction.
-/
import Derived.Test.YtjkpbajojgdooaaDoorJUse
import Derived.Test.YtjkpbajojgdooaaDoorHLaw6
namespace Go.Proofs.YtjkpbajojgdooaaDoor
set_option linter.unusedSimpArgs false
set_option linter.unusedVariables false
open Go.RowKit

structure NoE (w W : World) (Q : Nat) (vt vp vc : Value) (p : PProg) (j : Nat) : Prop where
  b : Below w.heap.size w W
  kp : Keep W w.heap.size vt vp p
  kq : blk W Q (progC vt p vc) 25
  row : W.ownsRow (Q + 1) 45 5 vc j (codeCells ((noneQ p).code.take j))
  hQ : w.heap.size < Q
section
variable {w W W' : World} {Q : Nat} {vt vp vc : Value} {p : PProg} {j : Nat}
theorem NoE.form (h : NoE w W Q vt vp vc p j) : (vc = .slice none 0 0 ∧ j = 0) ∨ ∃ g cap, vc = .slice (some ⟨g, 0, none⟩) j cap := ownsRow_forms h.row
theorem NoE.below (h : NoE w W Q vt vp vc p j) (hb : Below W.heap.size W W') : NoE w W' Q vt vp vc p j :=
  ⟨h.b.trans (hb.mono h.b.size), h.kp.below hb, blk_below h.kq hb, own_below h.row hb, h.hQ⟩
theorem NoE.q' (h : NoE w W Q vt vp vc p j) (hb : Below (Q + 1) W W') : blk W' Q (progC vt p vc) 25 := by
  unfold blk; rw [hb.block Q (by omega)]; exact h.kq
theorem none_take {i : PIns} (hi : p.code[j]? = some i) : (noneQ p).code.take (j + 1) = (noneQ p).code.take j ++ [noneI i] := by
  show (p.code.map noneI).take (j + 1) = (p.code.map noneI).take j ++ [noneI i]
  rw [List.take_add_one, List.getElem?_map, hi]; rfl
theorem NoE.next {g cap : Nat} {i : PIns} (h : NoE w W Q vt vp vc p j) (hi : p.code[j]? = some i) (hb : Below (Q + 1) W W') (hr : W'.ownsRow (Q + 1) 45 5 (.slice (some ⟨g, 0, none⟩) (j + 1) cap) (j + 1) (codeCells ((noneQ p).code.take j ++ [noneI i]))) (ht : RowAt w vt (p.types.map str)) (hc : InsRow w vp p.code) :
    NoE w (W'.setCell ⟨Q, 3, none⟩ (.slice (some ⟨g, 0, none⟩) (j + 1) cap)) Q vt vp (.slice (some ⟨g, 0, none⟩) (j + 1) cap) p (j + 1) := by
  have hq := h.hQ
  have kq' := h.q' hb
  have hbs : Below w.heap.size w (W'.setCell ⟨Q, 3, none⟩ (.slice (some ⟨g, 0, none⟩) (j + 1) cap)) := (h.b.trans (hb.mono (by omega))).setCell (p := ⟨Q, 3, none⟩) (by simp; omega) _
  refine ⟨hbs, ⟨?_, _, _, rfl, ht.below hbs, hc.below hbs⟩, ?_, ?_, hq⟩
  · rw [setCell_putB kq']
    unfold blk
    rw [putB_ne _ (by omega), hb.block _ (by omega)]; exact h.kp.blk
  · rw [setCell_putB kq']
    have := putB_at kq' (progC vt p (.slice (some ⟨g, 0, none⟩) (j + 1) cap)) 25
    exact this
  · rw [none_take hi]
    exact own_set hr kq' (by omega)
/-- The whole. -/
theorem NoE.done (h : NoE w W Q vt vp vc p p.code.length) (ht : RowAt w vt (p.types.map str)) : Keep W Q vt vc (noneQ p) := by
  refine ⟨h.kq, vt, vc, rfl, ht.below h.b, ?_⟩
  have hr := h.row
  have hl : (noneQ p).code.length = p.code.length := List.length_map ..
  rw [List.take_of_length_le (by omega)] at hr
  exact insRow_own (by rw [hl]; exact hr)
/-- It begins. -/
theorem NoE.start (hb : Below w.heap.size w W) (hk : Keep W w.heap.size vt vp p) :
    NoE w (W.alloc (.cells (progC vt p (.slice none 0 0)) 25)) W.heap.size vt vp (.slice none 0 0) p 0 := by
  have hba : Below W.heap.size W (W.alloc (.cells (progC vt p (.slice none 0 0)) 25)) := (Below.refl _ _).alloc (Nat.le_refl _) _
  exact ⟨hb.trans (hba.mono hb.size), hk.below hba, blk_new _ _ _, by rw [List.take_zero]; exact World.ownsRow_nil _ _ _ _, blk_lt hk.blk⟩
end
end Go.Proofs.YtjkpbajojgdooaaDoor
