/-
  The document's Nums: two slices of numbers, wherever they lie.
  States as they lie: arrays inside a struct, a slice of slices, a slice.
-/
import Derived.Test.YtcenjphpdgadmaaDoorBApp
import Derived.WalkSpells
import Derived.Test.YtcenjphpdgadmaaDoorMPu

/- The document's Nums: two slices of numbers, wherever they lie. -/
namespace Go.Proofs.YtcenjphpdgadmaaDoor
set_option linter.unusedSimpArgs false
set_option linter.unusedVariables false
open Go.RowKit

theorem belowDrewN (w : World) (n : Nat) : Below w.heap.size w (w.drewN n) := ⟨rfl, rfl, rfl, Nat.le_refl _, fun _ _ => rfl⟩
abbrev i64s (xs : List Int) : List Value := xs.map (Value.int .i64)
theorem i64s_get {xs : List Int} {j : Nat} {x : Int} (h : xs[j]? = some x) : (i64s xs)[j]? = some (.int .i64 x) := by simp [h]
theorem take_eq_next {a b : List Int} {j : Nat} {x : Int} (h : a.take j = b.take j) (ha : a[j]? = some x) (hb : b[j]? = some x) : a.take (j + 1) = b.take (j + 1) := by
  rw [List.take_add_one, List.take_add_one, h, ha, hb]
theorem ne_at {a b : List Int} {j : Nat} {x y : Int} (ha : a[j]? = some x) (hb : b[j]? = some y) (h : x ≠ y) : a ≠ b := by
  rintro rfl
  rw [ha] at hb
  exact h (Option.some.inj hb)
end Go.Proofs.YtcenjphpdgadmaaDoor

/- States as they lie: arrays inside a struct, a slice of slices, a slice. -/
namespace Go.Proofs.YtcenjphpdgadmaaDoor
set_option linter.unusedSimpArgs false
set_option linter.unusedVariables false
open Go.RowKit

/-- A slice of slices of numbers, wherever it lies. -/
def GridI (w : World) (v : Value) (xss : List (List Int)) : Prop :=
  ∃ rows : List Value, rows.length = xss.length ∧ RowAt w v rows ∧ ∀ (j : Nat) (r : Value) (xs : List Int), rows[j]? = some r → xss[j]? = some xs → RowAt w r (i64s xs)
theorem GridI.below {w w' : World} {v : Value} {xss : List (List Int)} (h : GridI w v xss) (hb : Below w.heap.size w w') : GridI w' v xss := by
  obtain ⟨rows, h1, h2, h3⟩ := h
  exact ⟨rows, h1, h2.below hb, fun j r xs hr hx => (h3 j r xs hr hx).below hb⟩
/-- A state's cells. -/
def stC (s : PSt) (vo vt : Value) : Array Value := (i64s (s.x ++ s.p ++ s.g) ++ [vo, vt, .int .i64 s.pc, .int .i64 s.steps]).toArray
structure LenS (s : PSt) : Prop where
  x : s.x.length = 8
  p : s.p.length = 8
  g : s.g.length = 4
theorem stC_size {s : PSt} (h : LenS s) (vo vt : Value) : (stC s vo vt).size = 24 := by
  have h1 := h.x
  have h2 := h.p
  have h3 := h.g
  unfold stC
  simp
  omega
/-- A state, wherever its parts lie. -/
def StAt (w : World) (v : Value) (s : PSt) : Prop := ∃ vo vt, v = .agg (stC s vo vt) ∧ GridI w vo s.objs ∧ RowAt w vt (i64s s.out) ∧ LenS s
theorem StAt.below {w w' : World} {v : Value} {s : PSt} (h : StAt w v s) (hb : Below w.heap.size w w') : StAt w' v s := by
  obtain ⟨vo, vt, rfl, h1, h2, h3⟩ := h
  exact ⟨vo, vt, rfl, h1.below hb, h2.below hb, h3⟩
theorem len_st0 : LenS st0 := ⟨rfl, rfl, rfl⟩
/-- A state's cells, one by one. -/
theorem stC_list {x0 x1 x2 x3 x4 x5 x6 x7 p0 p1 p2 p3 p4 p5 p6 p7 g0 g1 g2 g3 : Int} {objs : List (List Int)} {out : List Int} {pc steps : Nat} (vo vt : Value) :
    stC ⟨[x0, x1, x2, x3, x4, x5, x6, x7], [p0, p1, p2, p3, p4, p5, p6, p7], [g0, g1, g2, g3], objs, out, pc, steps⟩ vo vt =
      #[.int .i64 x0, .int .i64 x1, .int .i64 x2, .int .i64 x3, .int .i64 x4, .int .i64 x5, .int .i64 x6, .int .i64 x7, .int .i64 p0, .int .i64 p1, .int .i64 p2, .int .i64 p3, .int .i64 p4, .int .i64 p5, .int .i64 p6, .int .i64 p7, .int .i64 g0, .int .i64 g1, .int .i64 g2, .int .i64 g3, vo, vt, .int .i64 pc, .int .i64 steps] := rfl
theorem LenS.lists {s : PSt} (h : LenS s) : ∃ x0 x1 x2 x3 x4 x5 x6 x7 p0 p1 p2 p3 p4 p5 p6 p7 g0 g1 g2 g3, s = ⟨[x0, x1, x2, x3, x4, x5, x6, x7], [p0, p1, p2, p3, p4, p5, p6, p7], [g0, g1, g2, g3], s.objs, s.out, s.pc, s.steps⟩ := by
  obtain ⟨x, p, g, objs, out, pc, steps⟩ := s
  obtain ⟨hx, hp, hg⟩ := h
  simp only at hx hp hg
  match x, hx with
  | [x0, x1, x2, x3, x4, x5, x6, x7], _ =>
    match p, hp with
    | [p0, p1, p2, p3, p4, p5, p6, p7], _ =>
      match g, hg with
      | [g0, g1, g2, g3], _ => exact ⟨x0, x1, x2, x3, x4, x5, x6, x7, p0, p1, p2, p3, p4, p5, p6, p7, g0, g1, g2, g3, rfl⟩
end Go.Proofs.YtcenjphpdgadmaaDoor
