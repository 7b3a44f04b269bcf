/-
  The document's shape and part: contracts.
-/
import Derived.Test.YtcenjphpdgadmaaDoorZKit
namespace Go.Proofs.YtcenjphpdgadmaaDoor
set_option linter.unusedSimpArgs false
set_option linter.unusedVariables false
open Go.RowKit

def low (c : UInt8) : UInt8 := c + 32
/-- What shape answers. -/
def shapeL (op : Int) : Bs × Bs := match byOpL op with
  | none => ([], [])
  | some o => (o.2.1, o.2.2.map low)
theorem shapeL_some {op : Int} {o : Int × Bs × Bs} (h : byOpL op = some o) : shapeL op = (o.2.1, o.2.2.map low) := by unfold shapeL; rw [h]
def PairV (x : Bs × Bs) : Value := .tuple #[str x.1, str x.2]
theorem shape_none {op : Int} (h : op < 1 ∨ 15 < op) : shapeL op = ([], []) := by
  have : byOpL op = none := by
    unfold byOpL
    rw [List.find?_eq_none]
    intro o ho
    obtain ⟨h1, h2, _⟩ := ops_cases ho
    simp only [beq_iff_eq]
    omega
  unfold shapeL; rw [this]

set_option maxRecDepth 100000 in
theorem rest_any (op : Int) (w : World) (h : op < 1 ∨ 10 < op) : Calls Tryd.prog 62 #[.int .u8 op] w fun e w' => e = .returned (PairV (shapeL op)) ∧ w = w' := by
  by_cases e11 : op = 11
  · subst e11
    go_enter Tryd.func62, Tryd.ntmps62
    go_wp2
    go_ret2
    exact ⟨rfl, rfl⟩
  by_cases e12 : op = 12
  · subst e12
    go_enter Tryd.func62, Tryd.ntmps62
    go_wp2
    go_ret2
    exact ⟨rfl, rfl⟩
  by_cases e13 : op = 13
  · subst e13
    go_enter Tryd.func62, Tryd.ntmps62
    go_wp2
    go_ret2
    exact ⟨rfl, rfl⟩
  by_cases e14 : op = 14
  · subst e14
    go_enter Tryd.func62, Tryd.ntmps62
    go_wp2
    go_ret2
    exact ⟨rfl, rfl⟩
  by_cases e15 : op = 15
  · subst e15
    go_enter Tryd.func62, Tryd.ntmps62
    go_wp2
    go_ret2
    exact ⟨rfl, rfl⟩
  have n11 : (op == 11) = false := by simpa using e11
  have n12 : (op == 12) = false := by simpa using e12
  have n13 : (op == 13) = false := by simpa using e13
  have n14 : (op == 14) = false := by simpa using e14
  have n15 : (op == 15) = false := by simpa using e15
  rw [shape_none (by omega)]
  clear h
  go_enter Tryd.func62, Tryd.ntmps62
  go_wp2
  go_ret2
  exact ⟨rfl, rfl⟩
set_option maxRecDepth 100000 in
theorem shape_any (op : Int) (w : World) : Calls Tryd.prog 42 #[.int .u8 op] w fun e w' => e = .returned (PairV (shapeL op)) ∧ w = w' := by
  by_cases e1 : op = 1
  · subst e1
    go_enter Tryd.func42, Tryd.ntmps42
    go_wp2
    go_ret2
    exact ⟨rfl, rfl⟩
  by_cases e2 : op = 2
  · subst e2
    go_enter Tryd.func42, Tryd.ntmps42
    go_wp2
    go_ret2
    exact ⟨rfl, rfl⟩
  by_cases e3 : op = 3
  · subst e3
    go_enter Tryd.func42, Tryd.ntmps42
    go_wp2
    go_ret2
    exact ⟨rfl, rfl⟩
  by_cases e4 : op = 4
  · subst e4
    go_enter Tryd.func42, Tryd.ntmps42
    go_wp2
    go_ret2
    exact ⟨rfl, rfl⟩
  by_cases e5 : op = 5
  · subst e5
    go_enter Tryd.func42, Tryd.ntmps42
    go_wp2
    go_ret2
    exact ⟨rfl, rfl⟩
  by_cases e6 : op = 6
  · subst e6
    go_enter Tryd.func42, Tryd.ntmps42
    go_wp2
    go_ret2
    exact ⟨rfl, rfl⟩
  by_cases e7 : op = 7
  · subst e7
    go_enter Tryd.func42, Tryd.ntmps42
    go_wp2
    go_ret2
    exact ⟨rfl, rfl⟩
  by_cases e8 : op = 8
  · subst e8
    go_enter Tryd.func42, Tryd.ntmps42
    go_wp2
    go_ret2
    exact ⟨rfl, rfl⟩
  by_cases e9 : op = 9
  · subst e9
    go_enter Tryd.func42, Tryd.ntmps42
    go_wp2
    go_ret2
    exact ⟨rfl, rfl⟩
  by_cases e10 : op = 10
  · subst e10
    go_enter Tryd.func42, Tryd.ntmps42
    go_wp2
    go_ret2
    exact ⟨rfl, rfl⟩
  have n1 : (op == 1) = false := by simpa using e1
  have n2 : (op == 2) = false := by simpa using e2
  have n3 : (op == 3) = false := by simpa using e3
  have n4 : (op == 4) = false := by simpa using e4
  have n5 : (op == 5) = false := by simpa using e5
  have n6 : (op == 6) = false := by simpa using e6
  have n7 : (op == 7) = false := by simpa using e7
  have n8 : (op == 8) = false := by simpa using e8
  have n9 : (op == 9) = false := by simpa using e9
  have n10 : (op == 10) = false := by simpa using e10
  have hr := rest_any op w (by omega)
  generalize shapeL op = x at hr ⊢
  obtain ⟨x, y⟩ := x
  unfold PairV at hr ⊢
  simp only at hr ⊢
  go_enter Tryd.func42, Tryd.ntmps42
  go_wp2_with (go_at_call 62; refine hr.mono ?_; rintro e w1 ⟨rfl, rfl⟩)
  go_ret2
  exact ⟨rfl, rfl⟩

set_option maxRecDepth 100000 in
theorem part_low (i : PIns) (c : UInt8) (w : World) (hi : OkI i) (h : c = 65 ∨ c = 66 ∨ c = 67 ∨ c = 78) : Calls Tryd.prog 66 #[insV i, .int .u8 (low c).toNat] w (AggPost w (.int .i64 (partL i c))) := by
  obtain ⟨x, a, b, c', n⟩ := i
  obtain ⟨o0, o1, a0, a1, b0, b1, c0, c1, n0, n1⟩ := hi
  simp only at *
  rcases h with rfl | rfl | rfl | rfl
  · rw [show (((low 65).toNat : Nat) : Int) = 97 from rfl, show partL ⟨x, a, b, c', n⟩ 65 = a from rfl]
    go_enter Tryd.func66, Tryd.ntmps66
    go_wp2
    go_ret
    exact ⟨rfl, (Below.refl _ _).alloc (Nat.le_refl _) _⟩
  · rw [show (((low 66).toNat : Nat) : Int) = 98 from rfl, show partL ⟨x, a, b, c', n⟩ 66 = b from rfl]
    go_enter Tryd.func66, Tryd.ntmps66
    go_wp2
    go_ret
    exact ⟨rfl, (Below.refl _ _).alloc (Nat.le_refl _) _⟩
  · rw [show (((low 67).toNat : Nat) : Int) = 99 from rfl, show partL ⟨x, a, b, c', n⟩ 67 = c' from rfl]
    go_enter Tryd.func66, Tryd.ntmps66
    go_wp2
    go_ret
    exact ⟨rfl, (Below.refl _ _).alloc (Nat.le_refl _) _⟩
  · rw [show (((low 78).toNat : Nat) : Int) = 110 from rfl, show partL ⟨x, a, b, c', n⟩ 78 = n from rfl]
    go_enter Tryd.func66, Tryd.ntmps66
    go_wp2
    go_ret
    exact ⟨rfl, (Below.refl _ _).alloc (Nat.le_refl _) _⟩

/-! ### letters, or -/
end Go.Proofs.YtcenjphpdgadmaaDoor
