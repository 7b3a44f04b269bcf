/-
  CheckFirst: the walk.
-/
import Derived.Test.YtijgpfimdlnkiaaDoorHLaw3
import Derived.Test.YtijgpfimdlnkiaaDoorBApp
namespace Go.Proofs.YtijgpfimdlnkiaaDoor
set_option linter.unusedSimpArgs false
set_option linter.unusedVariables false
open Go.RowKit

theorem insRow_set {w : World} {Q g n c j : Nat} {cs : Array Value} {t : TypeId} {is : List PIns} (h : blk w Q cs t) (hne : g ≠ Q) (hr : InsRow w (.slice (some ⟨g, 0, none⟩) n c) is) (u : Value) : InsRow (w.setCell ⟨Q, j, none⟩ u) (.slice (some ⟨g, 0, none⟩) n c) is := by
  obtain ⟨a, c', e, h1, h2, h3⟩ := hr
  refine ⟨a, c', e, h1, h2, fun k i hk => ?_⟩
  obtain ⟨b, o, rfl, hlt, hrg⟩ := h3 k i hk
  simp only [Value.slice.injEq, Option.some.injEq, Addr.mk.injEq] at e
  obtain ⟨⟨rfl, rfl, _⟩, _⟩ := e
  exact ⟨g, 0, rfl, by rw [setCell_putB h, putB_size]; exact hlt, fun t v hv => by rw [set_ne h hne]; exact hrg t v hv⟩
/-- The code of a program that lies in a block of its own is put anew. -/
theorem code_put {w : World} {Q : Nat} {vt vc v2 : Value} {p q : PProg} (h : blk w Q (progC vt p vc) 25) (ht : RowAt (w.setCell ⟨Q, 3, none⟩ v2) vt (q.types.map str)) (hc : InsRow (w.setCell ⟨Q, 3, none⟩ v2) v2 q.code) (e1 : q.locals = p.locals) (e2 : q.globs = p.globs) : Keep (w.setCell ⟨Q, 3, none⟩ v2) Q vt v2 q := by
  refine ⟨?_, vt, v2, rfl, ht, hc⟩
  rw [setCell_putB h]
  have := putB_at h (progC vt q v2) 25
  have e : (progC vt p vc).setIfInBounds 3 v2 = progC vt q v2 := by unfold progC; rw [e1, e2]; rfl
  rw [e]; exact this
end Go.Proofs.YtijgpfimdlnkiaaDoor
