/-
  A region that draws its order, whose operations only read and whose callees keep what is read: walked once, in the order of the text, in a class of worlds of one's own.
-/
import Derived.Test.YtjkpbajojgdooaaDoorBRB
import Derived.BigQuiet
import Derived.Lib.AppendZeros
import Derived.Deep.RegionLaw
namespace Go.Proofs.YtjkpbajojgdooaaDoor
set_option linter.unusedSimpArgs false
set_option linter.unusedVariables false
open Go.RowKit

/-- A world of a class. -/
structure InW (Good : World → Prop) where
  w : World
  ok : Good w
/-- 'Good': what holds of the world all the while, whatever the callees do. -/
theorem wp_quiet_in {P : Program} {id : Nat} {Q : Exit → Act → World → Prop} {a : Act} {w : World} {l : List Oper} (Good : World → Prop) (hm : P.follows .mixedOrders = true) (hB : Region.lexB .any l.toArray = true) (hG : Good w.drew)
    (h : wpQuiet P l.toArray (fun w' => ∃ u : InW Good, w' = u.w) (fun a' => ∀ w', (∃ u : InW Good, w' = u.w) → Q .normal a' w') l a) : (Code.region id l.toArray true).wp P Q a w :=
  wp_region_quiet (C := fun w' => ∃ u : InW Good, w' = u.w) hm hB ⟨⟨_, hG⟩, rfl⟩ (by simpa using h)
/-- In a region that draws its order: an append whose run is known by an equation. -/
theorem step_append_run {P : Program} {ops : Array Oper} {o : Oper} {a : Act} {w : World} {K : Act → World → Prop} {Q : Exit → Act → World → Prop} {E : Prop} (hgd : o.guard = none) (s x : Operand) (t : TypeId)
    (ho : o.op = .call { callee := .builtin .append, args := #[s, x], argTypes := #[t, t] }) (vs vx : Value) (hs : a.eval s = vs) (hx : a.eval x = vx)
    (v' : Value) (w' : World) (hr : (Builtin.append_ #[t, t] o.type #[vs, vx]).run P w = .ok v' w') (h : K (a.put o.dst v') w') : if Region.wanted o (yielded ops a.tmps) = true then Oper.wp P o a w K Q else E := by
  have hw : Region.wanted o (yielded ops a.tmps) = true := by simp [Region.wanted, hgd]
  rw [if_pos hw]
  exact Lib.wp_append_run w s x t t ho vs vx hs hx v' w' hr h
end Go.Proofs.YtjkpbajojgdooaaDoor
