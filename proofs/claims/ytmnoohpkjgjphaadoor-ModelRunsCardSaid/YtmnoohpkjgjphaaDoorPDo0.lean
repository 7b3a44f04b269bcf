/-
  The program's do: what its operations leave.
-/
import Derived.Test.YtmnoohpkjgjphaaDoorPNew
import Derived.StillTailTactics
import Derived.Deep.CutRange
namespace Go.Proofs.YtmnoohpkjgjphaaDoor
set_option linter.unusedSimpArgs false
set_option linter.unusedVariables false
open Go.RowKit

def DoPost (w : World) (B b : Nat) (t : PSt) (e : Ending) (w' : World) : Prop := e = .returned (.tuple #[]) ∧ (∃ vo vt, Mem w' B b t vo vt) ∧ Below B w w' ∧ FarB w w' b
theorem far_cell {w : World} {b g j k : Nat} {cs cs' : Array Value} {t t' : TypeId} {v u : Value} (hb : blk w b cs' t') (h : blk w g cs t) (hne : t ≠ t') (hc : w.cell? ⟨g, k, none⟩ = some u) : (w.setCell ⟨b, j, none⟩ v).cell? ⟨g, k, none⟩ = some u := by
  rw [World.cell?_setCell_far w _ _ _ (fun e => blk_ne h hb hne e.symm)]; exact hc
theorem Mem.drew {w : World} {B b : Nat} {s : PSt} {vo vt : Value} (h : Mem w B b s vo vt) : Mem w.drew B b s vo vt := h.below (Below.refl _ _).drew
end Go.Proofs.YtmnoohpkjgjphaaDoor
