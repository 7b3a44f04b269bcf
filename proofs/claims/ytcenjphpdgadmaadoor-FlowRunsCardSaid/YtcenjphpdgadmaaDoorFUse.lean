/-
  What the statements want of the program's flow.
-/
import Derived.Test.YtcenjphpdgadmaaDoorFLoops
namespace Go.Proofs.YtcenjphpdgadmaaDoor
set_option linter.unusedSimpArgs false
set_option linter.unusedVariables false
open Go.RowKit

def RowAPost (w : World) (l : List Int) (e : Ending) (w' : World) : Prop := ∃ v, e = .returned v ∧ RowAt w' v (i64s l) ∧ Below w.heap.size w w'
def BoolsAPost (w : World) (l : List Bool) (e : Ending) (w' : World) : Prop := ∃ v, e = .returned v ∧ RowAt w' v (boolsV l) ∧ Below w.heap.size w w'
/-- A row of numbers: its value, and its cells. -/
theorem rowA_form {w : World} {v : Value} {l : List Int} (h : RowAt w v (i64s l)) : ∃ a c, v = .slice a l.length c ∧ l.length ≤ c ∧ c ≤ 9223372036854775807 ∧ ∀ j x, l[j]? = some x → ∃ b o, a = some ⟨b, o, none⟩ ∧ b < w.heap.size ∧ w.cell? ⟨b, o + j, none⟩ = some (.int .i64 x) := by
  obtain ⟨a, c, rfl, h1, h2, h3⟩ := h
  unfold maxLen at h2
  have hl : (i64s l).length = l.length := by simp
  rw [hl] at h1 ⊢
  refine ⟨a, c, rfl, h1, by omega, fun j x hx => ?_⟩
  rcases h3 with h3 | ⟨b, o, rfl, hb, hc⟩
  · have : l = [] := by simpa using h3
    rw [this] at hx; simp at hx
  · exact ⟨b, o, rfl, hb, hc j _ (i64s_get hx)⟩
theorem boolsA_form {w : World} {v : Value} {l : List Bool} (h : RowAt w v (boolsV l)) : ∃ a c, v = .slice a l.length c ∧ l.length ≤ c ∧ c ≤ 9223372036854775807 ∧ ∀ j x, l[j]? = some x → ∃ b o, a = some ⟨b, o, none⟩ ∧ b < w.heap.size ∧ w.cell? ⟨b, o + j, none⟩ = some (.bool x) := by
  obtain ⟨a, c, rfl, h1, h2, h3⟩ := h
  unfold maxLen at h2
  have hl : (boolsV l).length = l.length := by simp
  rw [hl] at h1 ⊢
  refine ⟨a, c, rfl, h1, by omega, fun j x hx => ?_⟩
  rcases h3 with h3 | ⟨b, o, rfl, hb, hc⟩
  · have : l = [] := by simpa using h3
    rw [this] at hx; simp at hx
  · exact ⟨b, o, rfl, hb, hc j _ (by simp [hx])⟩
/-- A row of truths that is not empty: each of its cells. -/
theorem boolsA_cells {w : World} {v : Value} {l : List Bool} {n : Nat} (h : RowAt w v (boolsV l)) (hn : l.length = n + 1) : ∃ b o c, v = .slice (some ⟨b, o, none⟩) (n + 1) c ∧ n + 1 ≤ c ∧ c ≤ 9223372036854775807 ∧ b < w.heap.size ∧ ∀ j, j ≤ n → w.cell? ⟨b, o + j, none⟩ = some (.bool (l.getD j false)) := by
  obtain ⟨a, c, rfl, h1, h2, h3⟩ := boolsA_form h
  have e : ∀ j, j ≤ n → l[j]? = some (l.getD j false) := fun j hj => by rw [List.getD_eq_getElem?_getD, List.getElem?_eq_getElem (by omega)]; rfl
  obtain ⟨b, o, rfl, hb, -⟩ := h3 0 _ (e 0 (Nat.zero_le _))
  refine ⟨b, o, c, by rw [hn], by omega, h2, hb, fun j hj => ?_⟩
  obtain ⟨b', o', e', -, hq⟩ := h3 j _ (e j hj)
  simp only [Option.some.injEq, Addr.mk.injEq, and_true] at e'
  obtain ⟨rfl, rfl⟩ := e'
  exact hq
/-- An instruction of a program that lies somewhere. -/
theorem prog_ins {w : World} {p : PProg} {vt : Value} {x' : Option Addr} {kx' : Nat} (h : ProgAt w (.agg (progC vt p (.slice x' p.code.length kx'))) p) {m : Nat} {i : PIns} (hi : p.code[m]? = some i) : ∃ bb o, x' = some ⟨bb, o, none⟩ ∧ bb < w.heap.size ∧ w.rangeAt bb (o + m * 5) (insC i).toList := by
  obtain ⟨vt1, vc1, e1, -, hc⟩ := h
  simp only [progC, Value.agg.injEq, Array.mk.injEq, List.cons.injEq, and_true] at e1
  obtain ⟨-, -, -, e4⟩ := e1
  obtain ⟨x1, k1, e5, -, -, g3⟩ := hc
  rw [← e4] at e5
  simp only [Value.slice.injEq] at e5
  obtain ⟨rfl, -, -⟩ := e5
  exact g3 m i hi
theorem wayV_at {q : PProg} {k : Nat} (h : k ≤ q.code.length) : wayV q k = wayL q k := by unfold wayV; rw [if_pos ⟨by omega, by omega⟩, Int.toNat_natCast]
theorem wayV_n {q : PProg} {k : Nat} (h : k ≤ q.code.length) : (wayV q k).length = q.code.length + 1 := wayV_len ⟨by omega, by omega⟩
theorem sound_parts {p : PProg} (h : soundB p = true) : fewP p = true ∧ p.code.length ≤ 60 ∧ (checkL p).2 = 0 ∧ InP p ∧ 1 ≤ p.code.length := by
  unfold soundB at h
  simp only [Bool.and_eq_true, decide_eq_true_eq] at h
  exact ⟨h.1.1, h.1.2, h.2, inP_check h.2, (check_ok h.2).2.1⟩
end Go.Proofs.YtcenjphpdgadmaaDoor
