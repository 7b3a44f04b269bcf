/-
  The table of operations, out of what the rows list.
-/
import Derived.Test.YtmnoohpkjgjphaaDoorCOpen
import Derived.Stop.LaidErr
import Derived.Test.YtmnoohpkjgjphaaDoorRows
import Derived.LaidMore
import Derived.Lay
import Derived.Stop.Joined
namespace Go.Proofs.YtmnoohpkjgjphaaDoor
set_option linter.unusedSimpArgs false
set_option linter.unusedVariables false
open Go.RowKit

abbrev laidR : List (String × DataW Unit) := Rows.modelFurtherRow.laid
set_option maxRecDepth 100000 in
theorem laid_met (os : Os) (args : Array Value) : laidMetH Tryd.prog laidR ((World.laidAll Tryd.prog os laidR).forCall (fun _ _ => 0) ⟨#[], args, []⟩).memory := by
  rw [MakeChecks.laidMetH_plain _ _ _ (by kernel_rfl)]
  exact laidMet_laidAll _ (by kernel_rfl) (by kernel_rfl)

theorem gO : Tryd.prog.globalNamed "lockstitch/code.operations" = some 0 := by kernel_rfl
theorem gOt : (Tryd.prog.globals[0]?).map (·.type) = some 120 := by kernel_rfl
theorem chunks : ∀ (os : List (Int × Bs × Bs)) (l : List Value), l.length = os.length * 3 → (∀ i o, os[i]? = some o → (l.drop (i * 3)).take 3 = opCells o) → l = os.flatMap opCells
  | [], l, h, _ => by simpa using h
  | o :: r, l, h, hc => by
    have h0 := hc 0 o rfl
    have ih := chunks r (l.drop 3) (by simp at h ⊢; omega) (fun i o' hi => by
      have := hc (i + 1) o' (by simpa using hi)
      rw [List.drop_drop, show 3 + i * 3 = (i + 1) * 3 by omega]; exact this)
    rw [List.flatMap_cons, ← ih, ← h0]
    simp
def opData (o : Int × Bs × Bs) : DataW Unit := .agg [.lit (.int .u8 o.1), .lit (.string o.2.1), .lit (.string o.2.2)]
theorem ops_data : (Rows.laid_lockstitch_code_operations : DataW Unit) = .agg (OPS.map opData) := by kernel_rfl
theorem cellsOf_oper : Tryd.prog.cellsOf 104 = 3 := by kernel_rfl
theorem cellsOf_u8 : Tryd.prog.cellsOf 5 = 1 := by kernel_rfl
theorem cellsOf_str : Tryd.prog.cellsOf 9 = 1 := by kernel_rfl
set_option maxRecDepth 100000 in
theorem oper_of {enc : TypeId × Value → Unit} {w : World} {base : Nat} {spare : Nat → Bool} {held : Bool} {m : Nat} {cs : List Value} {x : DataW Unit × List MemPlace} {o : Int × Bs × Bs} (h : DataW.trod enc Tryd.prog w base spare held m 104 cs = some x) (hx : x.1 = opData o) : cs = opCells o := by
  obtain ⟨ys, n, _, e, hl, _, hf⟩ := DataW.trod_struct Tryd.underlying104 h
  rw [cellsOf_oper] at hl
  match cs, hl with
  | [c0, c1, c2], _ =>
    have f0 := hf 0 _ rfl
    have f1 := hf 1 _ rfl
    have f2 := hf 2 _ rfl
    rw [e] at hx
    unfold opData at hx
    simp only [DataW.agg.injEq] at hx
    match ys, hx with
    | [y0, y1, y2], hx =>
      simp only [List.map_cons, List.map_nil, List.cons.injEq, and_true] at hx
      obtain ⟨g0, g1, g2⟩ := hx
      simp [cellsOf_u8, cellsOf_str] at f0 f1 f2
      obtain ⟨n0, a0, b0, _⟩ := DataW.trod_int Tryd.underlying5 f0
      obtain ⟨s1, a1, b1, _⟩ := DataW.trod_string Tryd.underlying9 f1
      obtain ⟨s2, a2, b2, _⟩ := DataW.trod_string Tryd.underlying9 f2
      rw [b0] at g0
      rw [b1] at g1
      rw [b2] at g2
      simp at g0 g1 g2 a0 a1 a2
      subst a0 a1 a2
      have e1 : s1 = ⟨o.2.1.toArray⟩ := by rw [← g1]
      have e2 : s2 = ⟨o.2.2.toArray⟩ := by rw [← g2]
      rw [g0, e1, e2]
set_option maxRecDepth 100000 in
theorem hasO_of {W : World} (h : laidMetH Tryd.prog laidR W) : HasO W := by
  rw [MakeChecks.laidMetH_plain _ _ _ (by kernel_rfl)] at h
  obtain ⟨ps, ⟨g0, t0, cs0, f0, p0, q0, hg0, ht0, hv0, hd0, _, e0⟩, _, hrows⟩ := h
  obtain rfl := Option.some.inj (gO.symm.trans hg0)
  obtain rfl := Option.some.inj (gOt.symm.trans ht0)
  obtain ⟨xs, m, hm, hx, hy, hl, hi⟩ := DataW.trod_array Tryd.underlying120 hd0
  rw [ops_data] at hx
  have hxs : OPS.map opData = xs.map (·.1) := by have := (Prod.mk.inj hx).1; simpa using this
  have hcs : cs0.toList = opsCells := by
    refine chunks OPS cs0.toList (by rw [hy]; kernel_rfl) (fun i o ho => ?_)
    have hi15 : i < 15 := (List.getElem?_eq_some_iff.1 ho).1
    have h1 := hi i hi15
    rw [cellsOf_oper, List.getElem?_eq_getElem (by omega)] at h1
    refine oper_of h1 ?_
    have h2 := congrArg (fun l => l[i]?) hxs
    simp only [List.getElem?_map, ho, Option.map_some] at h2
    rw [List.getElem?_eq_getElem (by omega)] at h2
    simpa using h2.symm
  have hcell := fun off => World.var?_cell gO hv0 off
  refine ⟨fun j v hv => ?_, ?_⟩
  · rw [← hcs] at hv
    rw [Nat.zero_add]
    have := hcell j
    rw [this]
    simpa using hv
  · have := hcell 0
    have h0 : cs0[0]? = some (.int .u8 1) := by
      have : cs0.toList[0]? = some (.int .u8 1) := by rw [hcs]; rfl
      simpa using this
    rw [h0] at this
    exact World.block_lt_of_cell? _ _ this
end Go.Proofs.YtmnoohpkjgjphaaDoor
