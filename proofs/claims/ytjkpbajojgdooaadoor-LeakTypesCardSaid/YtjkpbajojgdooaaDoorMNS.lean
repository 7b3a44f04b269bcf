/-
  The document's Nums: two slices of numbers, wherever they lie.
  States as they lie: arrays inside a struct, a slice of slices, a slice.
  Arrays of numbers, compared with themselves.
-/
import Derived.Test.YtjkpbajojgdooaaDoorBApp
import Derived.WalkSpells
import Derived.Test.YtjkpbajojgdooaaDoorVPa
import Derived.ChangeKeysEq

/- The document's Nums: two slices of numbers, wherever they lie. -/
namespace Go.Proofs.YtjkpbajojgdooaaDoor
set_option linter.unusedSimpArgs false
set_option linter.unusedVariables false
open Go.RowKit

abbrev i64s (xs : List Int) : List Value := xs.map (Value.int .i64)
theorem i64s_get {xs : List Int} {j : Nat} {x : Int} (h : xs[j]? = some x) : (i64s xs)[j]? = some (.int .i64 x) := by simp [h]
end Go.Proofs.YtjkpbajojgdooaaDoor

/- States as they lie: arrays inside a struct, a slice of slices, a slice. -/
namespace Go.Proofs.YtjkpbajojgdooaaDoor
set_option linter.unusedSimpArgs false
set_option linter.unusedVariables false
open Go.RowKit

/-- A slice of slices of numbers, wherever it lies. -/
def GridI (w : World) (v : Value) (xss : List (List Int)) : Prop :=
  ∃ rows : List Value, rows.length = xss.length ∧ RowAt w v rows ∧ ∀ (j : Nat) (r : Value) (xs : List Int), rows[j]? = some r → xss[j]? = some xs → RowAt w r (i64s xs)
theorem GridI.below {w w' : World} {v : Value} {xss : List (List Int)} (h : GridI w v xss) (hb : Below w.heap.size w w') : GridI w' v xss := by
  obtain ⟨rows, h1, h2, h3⟩ := h
  exact ⟨rows, h1, h2.below hb, fun j r xs hr hx => (h3 j r xs hr hx).below hb⟩
/-- A state's cells. -/
def stC (s : PSt) (vo vt : Value) : Array Value := (i64s (s.x ++ s.p ++ s.g) ++ [vo, vt, .int .i64 s.pc, .int .i64 s.steps]).toArray
structure LenS (s : PSt) : Prop where
  x : s.x.length = 8
  p : s.p.length = 8
  g : s.g.length = 4
theorem stC_size {s : PSt} (h : LenS s) (vo vt : Value) : (stC s vo vt).size = 24 := by
  have h1 := h.x
  have h2 := h.p
  have h3 := h.g
  unfold stC
  simp
  omega
/-- A state, wherever its parts lie. -/
def StAt (w : World) (v : Value) (s : PSt) : Prop := ∃ vo vt, v = .agg (stC s vo vt) ∧ GridI w vo s.objs ∧ RowAt w vt (i64s s.out) ∧ LenS s
theorem StAt.below {w w' : World} {v : Value} {s : PSt} (h : StAt w v s) (hb : Below w.heap.size w w') : StAt w' v s := by
  obtain ⟨vo, vt, rfl, h1, h2, h3⟩ := h
  exact ⟨vo, vt, rfl, h1.below hb, h2.below hb, h3⟩
theorem len_st0 : LenS st0 := ⟨rfl, rfl, rfl⟩
/-- A state's cells, one by one. -/
theorem stC_list {x0 x1 x2 x3 x4 x5 x6 x7 p0 p1 p2 p3 p4 p5 p6 p7 g0 g1 g2 g3 : Int} {objs : List (List Int)} {out : List Int} {pc steps : Nat} (vo vt : Value) :
    stC ⟨[x0, x1, x2, x3, x4, x5, x6, x7], [p0, p1, p2, p3, p4, p5, p6, p7], [g0, g1, g2, g3], objs, out, pc, steps⟩ vo vt =
      #[.int .i64 x0, .int .i64 x1, .int .i64 x2, .int .i64 x3, .int .i64 x4, .int .i64 x5, .int .i64 x6, .int .i64 x7, .int .i64 p0, .int .i64 p1, .int .i64 p2, .int .i64 p3, .int .i64 p4, .int .i64 p5, .int .i64 p6, .int .i64 p7, .int .i64 g0, .int .i64 g1, .int .i64 g2, .int .i64 g3, vo, vt, .int .i64 pc, .int .i64 steps] := rfl
theorem LenS.lists {s : PSt} (h : LenS s) : ∃ x0 x1 x2 x3 x4 x5 x6 x7 p0 p1 p2 p3 p4 p5 p6 p7 g0 g1 g2 g3, s = ⟨[x0, x1, x2, x3, x4, x5, x6, x7], [p0, p1, p2, p3, p4, p5, p6, p7], [g0, g1, g2, g3], s.objs, s.out, s.pc, s.steps⟩ := by
  obtain ⟨x, p, g, objs, out, pc, steps⟩ := s
  obtain ⟨hx, hp, hg⟩ := h
  simp only at hx hp hg
  match x, hx with
  | [x0, x1, x2, x3, x4, x5, x6, x7], _ =>
    match p, hp with
    | [p0, p1, p2, p3, p4, p5, p6, p7], _ =>
      match g, hg with
      | [g0, g1, g2, g3], _ => exact ⟨x0, x1, x2, x3, x4, x5, x6, x7, p0, p1, p2, p3, p4, p5, p6, p7, g0, g1, g2, g3, rfl⟩
end Go.Proofs.YtjkpbajojgdooaaDoor

/- Arrays of numbers, compared with themselves. -/
namespace Go.Proofs.YtjkpbajojgdooaaDoor
set_option linter.unusedSimpArgs false
set_option linter.unusedVariables false
open Go.RowKit

section
variable {P : Program}
theorem part_int (w : World) (e : TypeId) (xs : List Int) (j : Nat) (x : Int) (he : P.plainKey e = true) (hx : xs[j]? = some x) : (part e (i64s xs).toArray j).run P w = .ok (.int .i64 x) w :=
  run_part_plain w he (by simpa using i64s_get hx)
theorem items_same (w : World) (d : Nat) (e : TypeId) (xs : List Int) (hk : P.underlying e = some (.int .i64)) (he : P.plainKey e = true) : ∀ is : List Nat, (∀ i ∈ is, i < xs.length) → (Op.eqItems (d + 1) e 1 (i64s xs).toArray (i64s xs).toArray is).run P w = .ok true w
  | [], _ => by simp [Op.eqItems]
  | i :: is, h => by
    have hi := h i (by simp)
    obtain ⟨x, hx⟩ : ∃ x, xs[i]? = some x := ⟨_, List.getElem?_eq_getElem hi⟩
    have hp := part_int w e xs i x he hx
    rw [show i = i * 1 by omega] at hp
    simp only [Op.eqItems, Sem.run_bind, hp, Result.andThen_ok, run_equalIn_int w d e .i64 .i64 x x hk, beq_self_eq_true, Bool.not_true, Bool.false_eq_true, if_false]
    exact items_same w d e xs hk he is (fun j hj => h j (by simp [hj]))
/-- An array of numbers is itself. -/
theorem arr_same (w : World) {t e : TypeId} {n : Nat} {i : TypeInfo} (xs : List Int) (hu : P.underlying t = some (.array n e)) (hi : P.info? e = some i) (hc : P.cellsOf e = 1) (hk : P.underlying e = some (.int .i64)) (he : P.plainKey e = true) (hl : n ≤ xs.length) :
    (binOp .neq t (.agg (i64s xs).toArray) (.agg (i64s xs).toArray)).run P w = .ok (.bool false) w := by
  rw [run_neq_struct, show (10000 : Nat) = 9999 + 1 from rfl, run_equalIn_array w 9999 _ _ hu hi, hc, show (9999 : Nat) = 9998 + 1 from rfl, items_same w 9998 e xs hk he (List.range n) (fun j hj => by have := List.mem_range.1 hj; omega)]
  rfl
end
theorem info_some {t : TypeId} {z : Option Value × Nat × Nat} (h : (Tryd.prog.info? t).map (fun i => (i.zero, i.size, i.bytes)) = some z) : ∃ i, Tryd.prog.info? t = some i := by
  obtain ⟨i, hi, _⟩ := Option.map_eq_some_iff.1 h
  exact ⟨i, hi⟩
theorem info3 : (Tryd.prog.info? 3).map (fun i => (i.zero, i.size, i.bytes)) = some (some (.int .i64 0), 1, 8) := by kernel_rfl
theorem info2 : (Tryd.prog.info? 2).map (fun i => (i.zero, i.size, i.bytes)) = some (some (.int .i64 0), 1, 8) := by kernel_rfl
theorem infoX : (Tryd.prog.info? 30).map (·.size) = some 8 := by kernel_rfl
theorem infoP : (Tryd.prog.info? 31).map (·.size) = some 8 := by kernel_rfl
theorem infoG : (Tryd.prog.info? 32).map (·.size) = some 4 := by kernel_rfl
theorem same_X (w : World) (xs : List Int) (h : xs.length = 8) : (binOp .neq 30 (.agg (i64s xs).toArray) (.agg (i64s xs).toArray)).run Tryd.prog w = .ok (.bool false) w := by
  obtain ⟨i, hi⟩ := info_some info2
  exact arr_same w xs Tryd.underlying30 hi (by kernel_rfl) Tryd.underlying2 (by kernel_rfl) (by omega)
theorem same_P (w : World) (xs : List Int) (h : xs.length = 8) : (binOp .neq 31 (.agg (i64s xs).toArray) (.agg (i64s xs).toArray)).run Tryd.prog w = .ok (.bool false) w := by
  obtain ⟨i, hi⟩ := info_some info3
  exact arr_same w xs Tryd.underlying31 hi (by kernel_rfl) Tryd.underlying3 (by kernel_rfl) (by omega)
theorem same_G (w : World) (xs : List Int) (h : xs.length = 4) : (binOp .neq 32 (.agg (i64s xs).toArray) (.agg (i64s xs).toArray)).run Tryd.prog w = .ok (.bool false) w := by
  obtain ⟨i, hi⟩ := info_some info3
  exact arr_same w xs Tryd.underlying32 hi (by kernel_rfl) Tryd.underlying3 (by kernel_rfl) (by omega)
end Go.Proofs.YtjkpbajojgdooaaDoor
