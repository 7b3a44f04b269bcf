/-
  The program's do: one contract.
  The program's Step: its contract.
-/
import Derived.Test.YtjkpbajojgdooaaDoorPNA
import Derived.StillTailTactics
import Derived.Deep.CutRange
import Derived.Deep.RegionLaw

/- The program's do: one contract. -/
namespace Go.Proofs.YtjkpbajojgdooaaDoor
set_option linter.unusedSimpArgs false
set_option linter.unusedVariables false
open Go.RowKit

/-- What an instruction of a valid program names. -/
theorem names_ok {p : PProg} {i : PIns} {n : Int} (hh : headB p = true) (ho : OkI i) (he : insE p n i = 0) :
    (∀ a : Int, 0 ≤ a → 0 ≤ localI p a → a < 8) ∧ (∀ a : Int, 0 ≤ a → 0 ≤ globI p a → a < 4) := by
  obtain ⟨h1, h2, h3, h4⟩ := head_parts hh
  refine ⟨fun a h0 hl => ?_, fun a h0 hl => ?_⟩
  · have := (local_lt hh h0 hl).1; omega
  · have := (glob_lt hh h0 hl).1; omega
end Go.Proofs.YtjkpbajojgdooaaDoor

/- The program's Step: its contract. -/
namespace Go.Proofs.YtjkpbajojgdooaaDoor
set_option linter.unusedSimpArgs false
set_option linter.unusedVariables false
open Go.RowKit

theorem Parts.mono {w : World} {B B' : Nat} {s : PSt} {vo vt : Value} (h : Parts w B s vo vt) (hb : B' ≤ B) : Parts w B' s vo vt := by
  obtain ⟨rows, gs, hr⟩ := h.objs
  exact ⟨h.len, ⟨rows, gs, ⟨ownsRow_le hr.outer hb, hr.nil, hr.lg, hr.nd, hr.ne, fun j r xs g a b c => ⟨ownsRow_le (hr.row j r xs g a b c).1 hb, (hr.row j r xs g a b c).2⟩⟩⟩, ownsRow_le h.out hb, h.onil⟩
/-- What a step answers. -/
def StepPost (w : World) (r : PSt × Bool × Nat) (e : Ending) (w' : World) : Prop :=
  ∃ vo vt, e = .returned (.tuple #[.agg (stC r.1 vo vt), .bool r.2.1, .int .i64 r.2.2]) ∧ StN w' vo vt r.1 ∧ Below w.heap.size w w'
/-- The sizes that a call asks for. -/
structure SizeOk (s : PSt) : Prop where
  objs : s.objs.length ≤ 1000000
  out : s.out.length ≤ 1000000
  rows : ∀ xs ∈ s.objs, xs.length ≤ 1000000
  pc : s.pc ≤ 1000000
end Go.Proofs.YtjkpbajojgdooaaDoor
