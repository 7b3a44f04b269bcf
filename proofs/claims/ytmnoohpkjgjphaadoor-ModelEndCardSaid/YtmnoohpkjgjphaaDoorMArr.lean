/-
  Arrays of numbers, compared with themselves.
-/
import Derived.Test.YtmnoohpkjgjphaaDoorMState
import Derived.ChangeKeysEq
namespace Go.Proofs.YtmnoohpkjgjphaaDoor
set_option linter.unusedSimpArgs false
set_option linter.unusedVariables false
open Go.RowKit

section
variable {P : Program}
theorem part_int (w : World) (e : TypeId) (xs : List Int) (j : Nat) (x : Int) (he : P.plainKey e = true) (hx : xs[j]? = some x) : (part e (i64s xs).toArray j).run P w = .ok (.int .i64 x) w :=
  run_part_plain w he (by simpa using i64s_get hx)
theorem items_same (w : World) (d : Nat) (e : TypeId) (xs : List Int) (hk : P.underlying e = some (.int .i64)) (he : P.plainKey e = true) : ∀ is : List Nat, (∀ i ∈ is, i < xs.length) → (Op.eqItems (d + 1) e 1 (i64s xs).toArray (i64s xs).toArray is).run P w = .ok true w
  | [], _ => by simp [Op.eqItems]
  | i :: is, h => by
    have hi := h i (by simp)
    obtain ⟨x, hx⟩ : ∃ x, xs[i]? = some x := ⟨_, List.getElem?_eq_getElem hi⟩
    have hp := part_int w e xs i x he hx
    rw [show i = i * 1 by omega] at hp
    simp only [Op.eqItems, Sem.run_bind, hp, Result.andThen_ok, run_equalIn_int w d e .i64 .i64 x x hk, beq_self_eq_true, Bool.not_true, Bool.false_eq_true, if_false]
    exact items_same w d e xs hk he is (fun j hj => h j (by simp [hj]))
/-- An array of numbers is itself. -/
theorem arr_same (w : World) {t e : TypeId} {n : Nat} {i : TypeInfo} (xs : List Int) (hu : P.underlying t = some (.array n e)) (hi : P.info? e = some i) (hc : P.cellsOf e = 1) (hk : P.underlying e = some (.int .i64)) (he : P.plainKey e = true) (hl : n ≤ xs.length) :
    (binOp .neq t (.agg (i64s xs).toArray) (.agg (i64s xs).toArray)).run P w = .ok (.bool false) w := by
  rw [run_neq_struct, show (10000 : Nat) = 9999 + 1 from rfl, run_equalIn_array w 9999 _ _ hu hi, hc, show (9999 : Nat) = 9998 + 1 from rfl, items_same w 9998 e xs hk he (List.range n) (fun j hj => by have := List.mem_range.1 hj; omega)]
  rfl
end
theorem info_some {t : TypeId} {z : Option Value × Nat × Nat} (h : (Tryd.prog.info? t).map (fun i => (i.zero, i.size, i.bytes)) = some z) : ∃ i, Tryd.prog.info? t = some i := by
  obtain ⟨i, hi, _⟩ := Option.map_eq_some_iff.1 h
  exact ⟨i, hi⟩
theorem info3 : (Tryd.prog.info? 3).map (fun i => (i.zero, i.size, i.bytes)) = some (some (.int .i64 0), 1, 8) := by kernel_rfl
theorem info2 : (Tryd.prog.info? 2).map (fun i => (i.zero, i.size, i.bytes)) = some (some (.int .i64 0), 1, 8) := by kernel_rfl
theorem infoX : (Tryd.prog.info? 28).map (·.size) = some 8 := by kernel_rfl
theorem infoP : (Tryd.prog.info? 29).map (·.size) = some 8 := by kernel_rfl
theorem infoG : (Tryd.prog.info? 30).map (·.size) = some 4 := by kernel_rfl
theorem same_X (w : World) (xs : List Int) (h : xs.length = 8) : (binOp .neq 28 (.agg (i64s xs).toArray) (.agg (i64s xs).toArray)).run Tryd.prog w = .ok (.bool false) w := by
  obtain ⟨i, hi⟩ := info_some info2
  exact arr_same w xs Tryd.underlying28 hi (by kernel_rfl) Tryd.underlying2 (by kernel_rfl) (by omega)
theorem same_P (w : World) (xs : List Int) (h : xs.length = 8) : (binOp .neq 29 (.agg (i64s xs).toArray) (.agg (i64s xs).toArray)).run Tryd.prog w = .ok (.bool false) w := by
  obtain ⟨i, hi⟩ := info_some info3
  exact arr_same w xs Tryd.underlying29 hi (by kernel_rfl) Tryd.underlying3 (by kernel_rfl) (by omega)
theorem same_G (w : World) (xs : List Int) (h : xs.length = 4) : (binOp .neq 30 (.agg (i64s xs).toArray) (.agg (i64s xs).toArray)).run Tryd.prog w = .ok (.bool false) w := by
  obtain ⟨i, hi⟩ := info_some info3
  exact arr_same w xs Tryd.underlying30 hi (by kernel_rfl) Tryd.underlying3 (by kernel_rfl) (by omega)
end Go.Proofs.YtmnoohpkjgjphaaDoor
