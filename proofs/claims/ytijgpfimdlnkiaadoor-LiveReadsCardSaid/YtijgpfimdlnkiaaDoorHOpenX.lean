/-
  What came in: an instruction; eight bytes.
-/
import Derived.Test.YtijgpfimdlnkiaaDoorHOpen
import Derived.Test.YtijgpfimdlnkiaaDoorVBI
namespace Go.Proofs.YtijgpfimdlnkiaaDoor
set_option linter.unusedSimpArgs false
set_option linter.unusedVariables false
open Go.ChangeShapes Go.WideShapes Go.ChangeAt Go.RowKit

section
variable {H : Type} {enc : TypeId × Value → H} {w : World} {base : Nat} {spare : Nat → Bool} {held : Bool}
set_option maxRecDepth 100000 in
/-- An instruction that came in. -/
theorem open_ins {r : Reach} {b0 : Nat} {v : Value} {d : DataW H} {ps : List MemPlace} (hv : Value.okWide Tryd.prog w r b0 27 v) (h : DataW.Trod enc Tryd.prog w base spare held 27 v d ps) : ∃ i : PIns, v = insV i ∧ OkI i := by
  obtain ⟨cs, rfl, hsz⟩ := okWide_struct Tryd.underlying27 hv
  obtain ⟨l⟩ := cs
  have hl : l.length = 5 := hsz.trans cellsOf_ins
  match l, hl with
  | [c0, c1, c2, c3, c4], _ =>
    obtain ⟨fuel, hf⟩ := h
    obtain ⟨ys, n, _, _, _, hyl, hg⟩ := DataW.trod_struct Tryd.underlying27 hf
    match ys, hyl with
    | [y0, y1, y2, y3, y4], _ =>
      have u8 : Tryd.prog.cellsOf 5 = 1 := by kernel_rfl
      have i64 : Tryd.prog.cellsOf 2 = 1 := by kernel_rfl
      have f0 := hg 0 _ rfl
      have f1 := hg 1 _ rfl
      have f2 := hg 2 _ rfl
      have f3 := hg 3 _ rfl
      have f4 := hg 4 _ rfl
      simp [Value.cells, u8, i64] at f0 f1 f2 f3 f4
      obtain ⟨x0, e0, _, w0⟩ := DataW.trod_int Tryd.underlying5 f0
      obtain ⟨x1, e1, _, w1⟩ := DataW.trod_int Tryd.underlying5 f1
      obtain ⟨x2, e2, _, w2⟩ := DataW.trod_int Tryd.underlying5 f2
      obtain ⟨x3, e3, _, w3⟩ := DataW.trod_int Tryd.underlying5 f3
      obtain ⟨x4, e4, _, w4⟩ := DataW.trod_int Tryd.underlying2 f4
      simp at e0 e1 e2 e3 e4
      subst e0 e1 e2 e3 e4
      have b0 := of_wf_u8 w0
      have b1 := of_wf_u8 w1
      have b2 := of_wf_u8 w2
      have b3 := of_wf_u8 w3
      have b4 := of_wf_i64 w4
      exact ⟨⟨x0, x1, x2, x3, x4⟩, rfl, ⟨b0.1, b0.2, b1.1, b1.2, b2.1, b2.2, b3.1, b3.2, b4.1, b4.2⟩⟩
theorem cells8 : Tryd.prog.cellsOf 47 = 8 := by kernel_rfl
theorem cellU8 : Tryd.prog.cellsOf 5 = 1 := by kernel_rfl
set_option maxRecDepth 100000 in
theorem open_eight {r : Reach} {b0 : Nat} {v : Value} {d : DataW H} {ps : List MemPlace} (hv : Value.okWide Tryd.prog w r b0 47 v) (h : DataW.Trod enc Tryd.prog w base spare held 47 v d ps) : ∃ l : List Nat, l.length = 8 ∧ (∀ k, l.getD k 0 < 256) ∧ v = .agg (u8Arr l) := by
  unfold Value.okWide at hv
  rw [Tryd.underlying47] at hv
  obtain ⟨cs, rfl, hsz, _⟩ := hv
  rw [cells8] at hsz
  obtain ⟨l⟩ := cs
  match l, hsz with
  | [c0, c1, c2, c3, c4, c5, c6, c7], _ =>
    obtain ⟨fuel, hf⟩ := h
    obtain ⟨xs, m, _, _, _, hlen, hi⟩ := DataW.trod_array Tryd.underlying47 hf
    have i0 := hi 0 (by omega)
    have i1 := hi 1 (by omega)
    have i2 := hi 2 (by omega)
    have i3 := hi 3 (by omega)
    have i4 := hi 4 (by omega)
    have i5 := hi 5 (by omega)
    have i6 := hi 6 (by omega)
    have i7 := hi 7 (by omega)
    rw [cellU8] at i0 i1 i2 i3 i4 i5 i6 i7
    rw [List.getElem?_eq_getElem (by omega)] at i0 i1 i2 i3 i4 i5 i6 i7
    obtain ⟨x0, e0, _, w0⟩ := DataW.trod_int Tryd.underlying5 i0
    obtain ⟨x1, e1, _, w1⟩ := DataW.trod_int Tryd.underlying5 i1
    obtain ⟨x2, e2, _, w2⟩ := DataW.trod_int Tryd.underlying5 i2
    obtain ⟨x3, e3, _, w3⟩ := DataW.trod_int Tryd.underlying5 i3
    obtain ⟨x4, e4, _, w4⟩ := DataW.trod_int Tryd.underlying5 i4
    obtain ⟨x5, e5, _, w5⟩ := DataW.trod_int Tryd.underlying5 i5
    obtain ⟨x6, e6, _, w6⟩ := DataW.trod_int Tryd.underlying5 i6
    obtain ⟨x7, e7, _, w7⟩ := DataW.trod_int Tryd.underlying5 i7
    have b0 := of_wf_u8 w0
    have b1 := of_wf_u8 w1
    have b2 := of_wf_u8 w2
    have b3 := of_wf_u8 w3
    have b4 := of_wf_u8 w4
    have b5 := of_wf_u8 w5
    have b6 := of_wf_u8 w6
    have b7 := of_wf_u8 w7
    simp [Value.cells] at e0 e1 e2 e3 e4 e5 e6 e7
    obtain ⟨y0, rfl⟩ : ∃ y : Nat, x0 = y := ⟨x0.toNat, by omega⟩
    obtain ⟨y1, rfl⟩ : ∃ y : Nat, x1 = y := ⟨x1.toNat, by omega⟩
    obtain ⟨y2, rfl⟩ : ∃ y : Nat, x2 = y := ⟨x2.toNat, by omega⟩
    obtain ⟨y3, rfl⟩ : ∃ y : Nat, x3 = y := ⟨x3.toNat, by omega⟩
    obtain ⟨y4, rfl⟩ : ∃ y : Nat, x4 = y := ⟨x4.toNat, by omega⟩
    obtain ⟨y5, rfl⟩ : ∃ y : Nat, x5 = y := ⟨x5.toNat, by omega⟩
    obtain ⟨y6, rfl⟩ : ∃ y : Nat, x6 = y := ⟨x6.toNat, by omega⟩
    obtain ⟨y7, rfl⟩ : ∃ y : Nat, x7 = y := ⟨x7.toNat, by omega⟩
    refine ⟨[y0, y1, y2, y3, y4, y5, y6, y7], rfl, fun k => ?_, by rw [e0, e1, e2, e3, e4, e5, e6, e7]; rfl⟩
    match k with
    | 0 => show y0 < 256; omega
    | 1 => show y1 < 256; omega
    | 2 => show y2 < 256; omega
    | 3 => show y3 < 256; omega
    | 4 => show y4 < 256; omega
    | 5 => show y5 < 256; omega
    | 6 => show y6 < 256; omega
    | 7 => show y7 < 256; omega
    | k + 8 => show (0 : Nat) < 256; omega
end
end Go.Proofs.YtijgpfimdlnkiaaDoor
