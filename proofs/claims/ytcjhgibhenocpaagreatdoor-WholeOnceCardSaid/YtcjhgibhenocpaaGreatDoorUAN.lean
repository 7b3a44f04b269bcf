/-
  A program that came in, opened.
  The table of operations, out of what the rows list.
  What the rows of this seat list, met by a world; a byte that came in; the builtin min of two integers, as a step.
  Plain lists: texts as lines of words, as the document says them. No program is named here.   Plain lists: what Join tells comes back from Lines; lengths; texts one behind the other.   Plain lists: decimal words.   Plain lists: decimal numbers and their texts.   Programs as texts, in plain lists: what an operation is called, what a program's lines are, and what is read from lines.   Layer 3, in plain words: types as texts, their fields, what one comes to by them.   The letters of operations.
  Programs that may be run, in plain lists: of which types locals and globals are, what is wrong of an instruction, the first error.
-/
import Derived.Test.YtcjhgibhenocpaaGreatDoorUAM
import Derived.OpenShut
import Derived.ProofKit
import Derived.ShutString
import Derived.Deep.Strs
import Derived.Deep.Slices
import Derived.Deep.Fields
import Derived.ChangeSame
import Derived.Lib.SmallJoins
import Derived.SizedLaws
import Derived.Stop.LaidErr
import Derived.Test.YtcjhgibhenocpaaGreatDoorUAE
import Derived.Test.YtcjhgibhenocpaaGreatDoorUAC
import Derived.Test.YtcjhgibhenocpaaGreatDoorUAA
import Derived.Test.YtcjhgibhenocpaaGreatDoorUAB
import Derived.Lib.SplitLaws
import Derived.Lib.Join
import Derived.Lib.IndexBytes
import Derived.Lib.ItoaNum
import Derived.Lib.ParseIntB
import Derived.Lib.ParseIntBTie
import Derived.Lib.ItoaMem
import Derived.Lib.ItoaLen
import Derived.Lib.Hide

/- A program that came in, opened. -/
namespace Go.Proofs.YtcjhgibhenocpaaGreatDoor
set_option linter.unusedSimpArgs false
set_option linter.unusedVariables false
open Go.RowKit Go.ChangeShapes Go.WideShapes Go.Deep Go.Joins

section
variable {H : Type} {enc : TypeId × Value → H} {P : Program} {w : World} {base : Nat} {spare : Nat → Bool} {held : Bool}
theorem open_slice_fields {t e : TypeId} {fs : Array Field} {fuel : Nat} {cs : List Value} {x : DataW H × List MemPlace} (ht : P.underlying t = some (.slice e)) (he : P.underlying e = some (.struct fs))
    (hone : oneCellFields P fs = true) (hC : P.cellsOf e = fs.size) (h : DataW.trod enc P w base spare held fuel t cs = some x) :
    (cs = [.slice none 0 0] ∧ x = (.nil, [])) ∨
    ∃ (a : Addr) (len cap m : Nat) (D : Nat → DataW H), cs = [.slice (some a) len cap] ∧ len ≤ cap ∧ cap ≤ maxLen ∧ m = (if spare a.block then cap else len) ∧
      x.1 = .slice ((List.range len).map D) ((List.range (m - len)).map fun j => D (len + j)) ∧
      ∀ i, i < m → ∃ (ys : List (DataW H × List MemPlace)) (n : Nat), ys.length = fs.size ∧
        ∀ (j : Nat) (f : Field), fs[j]? = some f → ∃ (v : Value) (y : DataW H × List MemPlace), w.cell? (a.add (i * fs.size + j)) = some v ∧ ys[j]? = some y ∧ DataW.trod enc P w base spare held n f.type [v] = some y := by
  rcases open_slice ht h with h0 | ⟨a, len, cap, m, n, D, Pl, hcs, hb, hl, hm, hmm, hx, hi⟩
  · exact .inl h0
  · refine .inr ⟨a, len, cap, m, D, hcs, hl, hm, hmm, by rw [hx], fun i him => ?_⟩
    obtain ⟨cs', hc, ht'⟩ := hi i him
    rw [hC] at hc
    obtain ⟨ys, n', hn', hy, hlen, hyl, hf⟩ := DataW.trod_struct he ht'
    obtain ⟨_, hcl, hat⟩ := World.cells?_some hc
    refine ⟨ys, n', hyl, fun j f hj => ?_⟩
    obtain ⟨ho, hk⟩ := hone_of hone j f hj
    have hjl : j < fs.size := (Array.getElem?_eq_some_iff.1 hj).1
    have hcell := hat j hjl
    have hv : cs'[j]? = some (cs'[j]'(by omega)) := List.getElem?_eq_getElem (by omega)
    have h1 := hf j f hj
    rw [ho, hk] at h1
    have hone' : (cs'.drop j).take 1 = [cs'[j]'(by omega)] := by
      rw [List.drop_eq_getElem_cons (by omega)]
      rfl
    rw [hone'] at h1
    have hys : ys[j]? = some (ys[j]'(by omega)) := List.getElem?_eq_getElem (by omega)
    refine ⟨_, _, ?_, hys, h1.trans hys⟩
    rw [← Go.Deep.add_add, hcell, hv]
end
section
variable {H : Type} {enc : TypeId × Value → H} {w : World} {base : Nat} {spare : Nat → Bool} {held : Bool}
theorem plain_add {b off i : Nat} : (⟨b, off, none⟩ : Addr).add i = ⟨b, off + i, none⟩ := by
  unfold Addr.add
  by_cases h : i = 0 <;> simp [h]
theorem spot_of {x : Addr} {v : Value} (h : w.cell? x = some v) : x.spot = none := by
  obtain ⟨_, _, _, _, h4⟩ := World.shape?_of_cell? h
  exact h4
/-- A slice of texts that came in. -/
theorem open_texts {v : Value} {fuel : Nat} {x : DataW H × List MemPlace} (h : DataW.trod enc Tryz.prog w base spare held fuel 22 [v] = some x) (hw : ∀ n ∈ x.1.weights Tryz.prog 22, n ≤ reachBytes) :
    ∃ xs : List Bs, RowAt w v (xs.map str) ∧ (∀ t ∈ xs, t.length ≤ maxLen) ∧ xs.length ≤ 8796093022208 := by
  rcases Go.Deep.open_strs Tryz.underlying22 Tryz.underlying9 (by kernel_rfl) h with ⟨hcs, _⟩ | ⟨a, len, cap, m, Sx, hcs, _, hl, hm, hmm, hd, hx⟩
  · simp at hcs
    subst hcs
    exact ⟨[], rowAt_nil w, fun t ht => by simp at ht, by simp⟩
  · simp at hcs
    subst hcs
    have hlm : len ≤ m := by rw [hmm]; split <;> omega
    have hbound : len ≤ 8796093022208 := by
      have h0 := hw ((len + (m - len)) * Tryz.prog.bytesOf 9) (by rw [hd]; simp [DataW.weights, Tryz.underlying22])
      rw [show Tryz.prog.bytesOf 9 = 16 by kernel_rfl] at h0
      unfold reachBytes at h0
      omega
    have hstr : ∀ i, Value.string (Sx i) = str (Sx i).data.toList := fun i => by show _ = Value.string ⟨(Sx i).data.toList.toArray⟩; congr 1
    refine ⟨(List.range len).map fun i => (Sx i).data.toList, ?_, ?_, by simpa using hbound⟩
    · have hlen : (((List.range len).map fun i => (Sx i).data.toList).map str).length = len := by simp
      refine ⟨some a, cap, by rw [hlen], by rw [hlen]; exact hl, hm, ?_⟩
      rcases Nat.eq_zero_or_pos len with h0 | h0
      · left; subst h0; rfl
      · right
        have h1 := (hx 0 (by omega)).1
        rw [show a.add 0 = a by simp [Addr.add]] at h1
        have hsp := spot_of h1
        obtain ⟨b, off, sp⟩ := a
        dsimp only at hsp
        subst hsp
        refine ⟨b, off, rfl, World.block_lt_of_cell? _ _ h1, fun j u hu => ?_⟩
        have hj : j < len := by
          have := (List.getElem?_eq_some_iff.1 hu).1
          rw [hlen] at this; exact this
        have h2 := (hx j (by omega)).1
        rw [plain_add] at h2
        rw [h2, hstr]
        simp [hj] at hu
        rw [← hu]
    · intro t ht
      obtain ⟨j, hj, rfl⟩ := List.mem_map.1 ht
      have := (hx j (by have := List.mem_range.1 hj; omega)).2
      rw [len_size]; exact this
theorem cellsOf_ins : Tryz.prog.cellsOf 60 = 5 := by kernel_rfl
theorem of_wf_u8 {n : Int} (h : (Lit.int .u8 n).wf = true) : 0 ≤ n ∧ n ≤ 255 := by
  have e1 : IntKind.min .u8 = 0 := by decide
  have e2 : IntKind.max .u8 = 255 := by decide
  simp only [Lit.wf, Bool.and_eq_true, decide_eq_true_eq, e1, e2] at h
  exact h
theorem of_wf_i64 {n : Int} (h : (Lit.int .i64 n).wf = true) : -9223372036854775808 ≤ n ∧ n ≤ 9223372036854775807 := by
  have e1 : IntKind.min .i64 = -9223372036854775808 := by decide
  have e2 : IntKind.max .i64 = 9223372036854775807 := by decide
  simp only [Lit.wf, Bool.and_eq_true, decide_eq_true_eq, e1, e2] at h
  exact h
/-- A slice of instructions that came in. -/
theorem open_code {v : Value} {fuel : Nat} {x : DataW H × List MemPlace} (h : DataW.trod enc Tryz.prog w base spare held fuel 23 [v] = some x) : ∃ code : List PIns, InsRow w v code ∧ ∀ i ∈ code, OkI i := by
  rcases open_slice_fields Tryz.underlying23 Tryz.underlying60 (by kernel_rfl) cellsOf_ins h with ⟨hcs, _⟩ | ⟨a, len, cap, m, D, hcs, hl, hm, hmm, _, hx⟩
  · simp at hcs
    subst hcs
    exact ⟨[], ⟨none, 0, rfl, Nat.le_refl _, Nat.zero_le _, fun j i hj => by simp at hj⟩, fun i hi => by simp at hi⟩
  · simp at hcs
    subst hcs
    have hlm : len ≤ m := by rw [hmm]; split <;> omega
    have key : ∀ i, i < len → ∃ q : PIns, OkI q ∧ ∀ t u, (insC q).toList[t]? = some u → w.cell? (a.add (i * 5 + t)) = some u := by
      intro i hi
      obtain ⟨ys, n, hyl, hf⟩ := hx i (by omega)
      obtain ⟨v0, y0, c0, _, t0⟩ := hf 0 _ rfl
      obtain ⟨v1, y1, c1, _, t1⟩ := hf 1 _ rfl
      obtain ⟨v2, y2, c2, _, t2⟩ := hf 2 _ rfl
      obtain ⟨v3, y3, c3, _, t3⟩ := hf 3 _ rfl
      obtain ⟨v4, y4, c4, _, t4⟩ := hf 4 _ rfl
      obtain ⟨x0, e0, _, w0⟩ := DataW.trod_int Tryz.underlying5 t0
      obtain ⟨x1, e1, _, w1⟩ := DataW.trod_int Tryz.underlying5 t1
      obtain ⟨x2, e2, _, w2⟩ := DataW.trod_int Tryz.underlying5 t2
      obtain ⟨x3, e3, _, w3⟩ := DataW.trod_int Tryz.underlying5 t3
      obtain ⟨x4, e4, _, w4⟩ := DataW.trod_int Tryz.underlying2 t4
      simp at e0 e1 e2 e3 e4
      subst e0 e1 e2 e3 e4
      refine ⟨⟨x0, x1, x2, x3, x4⟩, ?_, ?_⟩
      · have b0 := of_wf_u8 w0
        have b1 := of_wf_u8 w1
        have b2 := of_wf_u8 w2
        have b3 := of_wf_u8 w3
        have b4 := of_wf_i64 w4
        exact ⟨b0.1, b0.2, b1.1, b1.2, b2.1, b2.2, b3.1, b3.2, b4.1, b4.2⟩
      · intro t u hu
        rcases t with _ | _ | _ | _ | _ | t
        · simp at hu; subst hu; exact c0
        · simp at hu; subst hu; exact c1
        · simp at hu; subst hu; exact c2
        · simp at hu; subst hu; exact c3
        · simp at hu; subst hu; exact c4
        · simp at hu
    obtain ⟨f, hf⟩ : ∃ f : Nat → PIns, ∀ i, i < len → OkI (f i) ∧ ∀ t u, (insC (f i)).toList[t]? = some u → w.cell? (a.add (i * 5 + t)) = some u := by
      refine ⟨fun i => if h : i < len then Classical.choose (key i h) else ⟨0, 0, 0, 0, 0⟩, fun i hi => ?_⟩
      simp only [hi, dif_pos]
      exact Classical.choose_spec (key i hi)
    refine ⟨(List.range len).map f, ⟨some a, cap, by simp, by simpa using hl, hm, fun j i hj => ?_⟩, fun i hi => ?_⟩
    · obtain ⟨hjl, he⟩ := List.getElem?_eq_some_iff.1 hj
      have hjl' : j < len := by simpa using hjl
      have hfi : f j = i := by simpa using he
      have hc := (hf j hjl').2
      rw [hfi] at hc
      have h0 := hc 0 _ rfl
      have h00 := (hf 0 (by omega)).2 0 _ rfl
      rw [show a.add (0 * 5 + 0) = a by simp [Addr.add]] at h00
      have hsp := spot_of h00
      obtain ⟨b, off, sp⟩ := a
      dsimp only at hsp
      subst hsp
      rw [plain_add] at h0
      refine ⟨b, off, rfl, World.block_lt_of_cell? _ _ h0, fun t u hu => ?_⟩
      have := hc t u hu
      rw [plain_add] at this
      rw [Nat.add_assoc]; exact this
    · obtain ⟨j, hj, rfl⟩ := List.mem_map.1 hi
      exact (hf j (List.mem_range.1 hj)).1
theorem cellsOf_prog : Tryz.prog.cellsOf 25 = 4 := by kernel_rfl
set_option maxRecDepth 100000 in
/-- A program that came in. -/
theorem open_prog {r : Reach} {b0 : Nat} {v : Value} {d : DataW H} {ps : List MemPlace} (hv : Value.okWide Tryz.prog w r b0 25 v) (h : DataW.Trod enc Tryz.prog w base spare held 25 v d ps) (hw : ∀ n ∈ d.weights Tryz.prog 25, n ≤ reachBytes) :
    ∃ p, ProgAt w v p ∧ OkP p ∧ p.types.length ≤ 8796093022208 := by
  obtain ⟨v0, v1, v2, v3, y0, y1, y2, y3, n, rfl, rfl, _, t0, t1, t2, t3⟩ := open_agg4 Tryz.underlying25 (by kernel_rfl) cellsOf_prog hv h
  simp only [DataW.weights, Tryz.underlying25] at hw
  obtain ⟨ts, h0, h1, h2⟩ := open_texts t0 (fun n hn => hw n (DataW.weights_mem_each (j := 0) rfl rfl n hn))
  obtain ⟨code, h3, h4⟩ := open_code t3
  obtain ⟨s1, e1, _, w1⟩ := DataW.trod_string Tryz.underlying9 t1
  obtain ⟨s2, e2, _, w2⟩ := DataW.trod_string Tryz.underlying9 t2
  simp at e1 e2
  subst e1 e2
  exact ⟨⟨ts, s1.data.toList, s2.data.toList, code⟩, ⟨v0, v3, rfl, h0, h3⟩, ⟨h1, by show s1.data.toList.length ≤ maxLen; rw [len_size]; exact w1, by show s2.data.toList.length ≤ maxLen; rw [len_size]; exact w2, h4⟩, h2⟩
end
end Go.Proofs.YtcjhgibhenocpaaGreatDoor

/- The table of operations, out of what the rows list. -/
namespace Go.Proofs.YtcjhgibhenocpaaGreatDoor
set_option linter.unusedSimpArgs false
set_option linter.unusedVariables false
open Go.RowKit

theorem gO : Tryz.prog.globalNamed "lockstitch/code.operations" = some 0 := by kernel_rfl
theorem gOt : (Tryz.prog.globals[0]?).map (·.type) = some 144 := by kernel_rfl
theorem chunks : ∀ (os : List (Int × Bs × Bs)) (l : List Value), l.length = os.length * 3 → (∀ i o, os[i]? = some o → (l.drop (i * 3)).take 3 = opCells o) → l = os.flatMap opCells
  | [], l, h, _ => by simpa using h
  | o :: r, l, h, hc => by
    have h0 := hc 0 o rfl
    have ih := chunks r (l.drop 3) (by simp at h ⊢; omega) (fun i o' hi => by
      have := hc (i + 1) o' (by simpa using hi)
      rw [List.drop_drop, show 3 + i * 3 = (i + 1) * 3 by omega]; exact this)
    rw [List.flatMap_cons, ← ih, ← h0]
    simp
def opData (o : Int × Bs × Bs) : DataW Unit := .agg [.lit (.int .u8 o.1), .lit (.string o.2.1), .lit (.string o.2.2)]
theorem ops_data : (Rows.laid_lockstitch_code_operations : DataW Unit) = .agg (OPS.map opData) := by kernel_rfl
theorem cellsOf_oper : Tryz.prog.cellsOf 90 = 3 := by kernel_rfl
theorem cellsOf_u8 : Tryz.prog.cellsOf 5 = 1 := by kernel_rfl
theorem cellsOf_str : Tryz.prog.cellsOf 9 = 1 := by kernel_rfl
set_option maxRecDepth 100000 in
theorem oper_of {enc : TypeId × Value → Unit} {w : World} {base : Nat} {spare : Nat → Bool} {held : Bool} {m : Nat} {cs : List Value} {x : DataW Unit × List MemPlace} {o : Int × Bs × Bs} (h : DataW.trod enc Tryz.prog w base spare held m 90 cs = some x) (hx : x.1 = opData o) : cs = opCells o := by
  obtain ⟨ys, n, _, e, hl, _, hf⟩ := DataW.trod_struct Tryz.underlying90 h
  rw [cellsOf_oper] at hl
  match cs, hl with
  | [c0, c1, c2], _ =>
    have f0 := hf 0 _ rfl
    have f1 := hf 1 _ rfl
    have f2 := hf 2 _ rfl
    rw [e] at hx
    unfold opData at hx
    simp only [DataW.agg.injEq] at hx
    match ys, hx with
    | [y0, y1, y2], hx =>
      simp only [List.map_cons, List.map_nil, List.cons.injEq, and_true] at hx
      obtain ⟨g0, g1, g2⟩ := hx
      simp [cellsOf_u8, cellsOf_str] at f0 f1 f2
      obtain ⟨n0, a0, b0, _⟩ := DataW.trod_int Tryz.underlying5 f0
      obtain ⟨s1, a1, b1, _⟩ := DataW.trod_string Tryz.underlying9 f1
      obtain ⟨s2, a2, b2, _⟩ := DataW.trod_string Tryz.underlying9 f2
      rw [b0] at g0
      rw [b1] at g1
      rw [b2] at g2
      simp at g0 g1 g2 a0 a1 a2
      subst a0 a1 a2
      have e1 : s1 = ⟨o.2.1.toArray⟩ := by rw [← g1]
      have e2 : s2 = ⟨o.2.2.toArray⟩ := by rw [← g2]
      rw [g0, e1, e2]
set_option maxRecDepth 100000 in
theorem hasO_of {W : World} (h : laidMetH Tryz.prog laidR W) : HasO W := by
  rw [MakeChecks.laidMetH_plain _ _ _ (by kernel_rfl)] at h
  obtain ⟨ps, ⟨g0, t0, cs0, f0, p0, q0, hg0, ht0, hv0, hd0, _, e0⟩, _, hrows⟩ := h.tail.tail.tail.tail.tail.tail
  obtain rfl := Option.some.inj (gO.symm.trans hg0)
  obtain rfl := Option.some.inj (gOt.symm.trans ht0)
  obtain ⟨xs, m, hm, hx, hy, hl, hi⟩ := DataW.trod_array Tryz.underlying144 hd0
  rw [ops_data] at hx
  have hxs : OPS.map opData = xs.map (·.1) := by have := (Prod.mk.inj hx).1; simpa using this
  have hcs : cs0.toList = opsCells := by
    refine chunks OPS cs0.toList (by rw [hy]; kernel_rfl) (fun i o ho => ?_)
    have hi15 : i < 15 := (List.getElem?_eq_some_iff.1 ho).1
    have h1 := hi i hi15
    rw [cellsOf_oper, List.getElem?_eq_getElem (by omega)] at h1
    refine oper_of h1 ?_
    have h2 := congrArg (fun l => l[i]?) hxs
    simp only [List.getElem?_map, ho, Option.map_some] at h2
    rw [List.getElem?_eq_getElem (by omega)] at h2
    simpa using h2.symm
  have hcell := fun off => World.var?_cell gO hv0 off
  refine ⟨fun j v hv => ?_, ?_⟩
  · rw [← hcs] at hv
    rw [Nat.zero_add]
    have := hcell j
    rw [this]
    simpa using hv
  · have := hcell 0
    have h0 : cs0[0]? = some (.int .u8 1) := by
      have : cs0.toList[0]? = some (.int .u8 1) := by rw [hcs]; rfl
      simpa using this
    rw [h0] at this
    exact World.block_lt_of_cell? _ _ this
theorem hasAll_of {W : World} (h : laidMetH Tryz.prog laidR W) (hS : W.ShapedOpen Tryz.prog) : HasAll W := ⟨hasM_of hS, hasE_of h, hasT_of h, hasO_of h⟩
end Go.Proofs.YtcjhgibhenocpaaGreatDoor

/- What the rows of this seat list, met by a world; a byte that came in; the builtin min of two integers, as a step. -/
namespace Go.Proofs.YtcjhgibhenocpaaGreatDoor
set_option linter.unusedSimpArgs false
set_option linter.unusedVariables false
open Go.RowKit Go.ChangeShapes Go.WideShapes Go.Deep Go.Joins

set_option maxRecDepth 100000 in
theorem laid_met (os : Os) (args : Array Value) : laidMetH Tryz.prog laidR ((World.laidAll Tryz.prog os laidR).forCall (fun _ _ => 0) ⟨#[], args, []⟩).memory := by
  rw [MakeChecks.laidMetH_plain _ _ _ (by kernel_rfl)]
  exact laidMet_laidAll _ (by kernel_rfl) (by kernel_rfl)
section
variable {H : Type} {enc : TypeId × Value → H} {w : World} {base : Nat} {spare : Nat → Bool} {held : Bool}
set_option maxRecDepth 100000 in
theorem open_u8 {r : Reach} {b0 : Nat} {v : Value} {d : DataW H} {ps : List MemPlace} (hv : Value.okWide Tryz.prog w r b0 5 v) (h : DataW.Trod enc Tryz.prog w base spare held 5 v d ps) : ∃ n : Int, v = .int .u8 n ∧ d = .lit (.int .u8 n) ∧ ps = [] ∧ 0 ≤ n ∧ n ≤ 255 := by
  obtain ⟨n, e, e2, e3, hw⟩ := open_int Tryz.underlying5 hv h
  exact ⟨n, e, e2, e3, (of_wf_u8 hw).1, (of_wf_u8 hw).2⟩
end
theorem wpList_minZ {ops : Array Oper} {rest : List Oper} {o : Oper} {a : Act} {w : World} {Q : Exit → Act → World → Prop} (hg : o.guard = none) (x y : Operand) (ts : Array TypeId) (ho : o.op = .call { callee := .builtin .min, args := #[x, y], argTypes := ts }) (k : IntKind) (m n z : Int) (hx : a.eval x = .int k m) (hy : a.eval y = .int k n) (hz : (if n < m then n else m) = z)
    (h : wpList Tryz.prog ops Q rest (a.put o.dst (.int k z)) w) : wpList Tryz.prog ops Q (o :: rest) a w := by
  refine wpList_plain hg fun K hK' => ?_
  have hrun : (Builtin.min_ ts o.type #[.int k m, .int k n]).run Tryz.prog w = .ok (.int k z) w := by
    rw [run_min_int2, hz]
  unfold Oper.wp
  simp [execOp, ho, resolve, invoke, builtin, hx, hy, hrun, Result.andThen]
  exact hK' _ _ h
end Go.Proofs.YtcjhgibhenocpaaGreatDoor

/- Plain lists: texts as lines of words, as the document says them. No program is named here.   Plain lists: what Join tells comes back from Lines; lengths; texts one behind the other.   Plain lists: decimal words.   Plain lists: decimal numbers and their texts.   Programs as texts, in plain lists: what an operation is called, what a program's lines are, and what is read from lines.   Layer 3, in plain words: types as texts, their fields, what one comes to by them.   The letters of operations. -/
/- Plain lists: texts as lines of words, as the document says them. No program is named here. -/
namespace Go.Proofs.YtcjhgibhenocpaaGreatDoor
set_option linter.unusedSimpArgs false
set_option linter.unusedVariables false

end Go.Proofs.YtcjhgibhenocpaaGreatDoor

/- Plain lists: what Join tells comes back from Lines; lengths; texts one behind the other. -/
namespace Go.Proofs.YtcjhgibhenocpaaGreatDoor
set_option linter.unusedSimpArgs false
set_option linter.unusedVariables false

end Go.Proofs.YtcjhgibhenocpaaGreatDoor

/- Plain lists: decimal words. -/
namespace Go.Proofs.YtcjhgibhenocpaaGreatDoor
set_option linter.unusedSimpArgs false
set_option linter.unusedVariables false

end Go.Proofs.YtcjhgibhenocpaaGreatDoor

/- Plain lists: decimal numbers and their texts. -/
namespace Go.Proofs.YtcjhgibhenocpaaGreatDoor
set_option linter.unusedSimpArgs false
set_option linter.unusedVariables false

end Go.Proofs.YtcjhgibhenocpaaGreatDoor

/- Programs as texts, in plain lists: what an operation is called, what a program's lines are, and what is read from lines. -/
namespace Go.Proofs.YtcjhgibhenocpaaGreatDoor
set_option linter.unusedSimpArgs false
set_option linter.unusedVariables false

end Go.Proofs.YtcjhgibhenocpaaGreatDoor

/- Layer 3, in plain words: types as texts, their fields, what one comes to by them. -/
namespace Go.Proofs.YtcjhgibhenocpaaGreatDoor
set_option linter.unusedSimpArgs false
set_option linter.unusedVariables false

/-- The byte at k, as a number. -/
def byt (s : ByteArray) (k : Nat) : Nat := (s.data.toList.getD k 0).toNat
theorem byt_at {s : ByteArray} {k : Nat} (h : k < s.size) : s[k].toNat = byt s k := by
  have h' : k < s.data.toList.length := by rw [Array.length_toList]; exact h
  unfold byt
  rw [List.getD_eq_getElem?_getD, List.getElem?_eq_getElem h']
  rfl
theorem byt_lt (s : ByteArray) (k : Nat) : byt s k < 256 := UInt8.toNat_lt _

def digB (n c : Nat) : Bool := decide (48 ≤ c ∧ c < 48 + n)
def letB (n c : Nat) : Bool := c == 105 || digB n c
def okB (n : Nat) (s : ByteArray) : Bool := decide (1 ≤ s.size ∧ s.size ≤ 6 ∧ ∀ k, k < s.size → letB n (byt s k) = true)
def ty (ts : List ByteArray) (t : Nat) : ByteArray := ts.getD t ByteArray.empty
def rightB (ts : List ByteArray) : Bool := decide (1 ≤ ts.length ∧ ts.length ≤ 8 ∧ ∀ t, t < ts.length → okB ts.length (ty ts t) = true)
def refsB (ts : List ByteArray) (s : ByteArray) : Bool := rightB ts && decide (∀ k, k < s.size → digB ts.length (byt s k) = true)
def oneB (ts : List ByteArray) (t : Int) : Bool := decide (0 ≤ t ∧ t < ts.length) && rightB ts

theorem ty_get {ts : List ByteArray} {t : Nat} (h : t < ts.length) : ts[t]? = some (ty ts t) := by
  unfold ty
  rw [List.getD_eq_getElem?_getD, List.getElem?_eq_getElem h]
  rfl
theorem ty_mem {ts : List ByteArray} {t : Nat} (h : t < ts.length) : ty ts t ∈ ts := List.mem_of_getElem? (ty_get h)

theorem dig_iff {n c : Nat} : digB n c = true ↔ 48 ≤ c ∧ c < 48 + n := by simp [digB]
theorem dig_no {n c : Nat} : digB n c = false ↔ ¬ (48 ≤ c ∧ c < 48 + n) := by simp only [digB, decide_eq_false_iff_not]
theorem let_iff {n c : Nat} : letB n c = true ↔ c = 105 ∨ digB n c = true := by simp [letB]
theorem let_no {n c : Nat} : letB n c = false ↔ c ≠ 105 ∧ digB n c = false := by simp [letB]
theorem ok_iff {n : Nat} {s : ByteArray} : okB n s = true ↔ 1 ≤ s.size ∧ s.size ≤ 6 ∧ ∀ k, k < s.size → letB n (byt s k) = true := by simp [okB]
theorem ok_size {n : Nat} {s : ByteArray} (h : s.size < 1 ∨ 6 < s.size) : okB n s = false := by
  rw [Bool.eq_false_iff]; intro h'
  have := ok_iff.1 h'
  omega
theorem ok_let {n k : Nat} {s : ByteArray} (hk : k < s.size) (h : letB n (byt s k) = false) : okB n s = false := by
  rw [Bool.eq_false_iff]; intro h'
  rw [(ok_iff.1 h').2.2 k hk] at h
  exact absurd h (by decide)
theorem right_iff {ts : List ByteArray} : rightB ts = true ↔ 1 ≤ ts.length ∧ ts.length ≤ 8 ∧ ∀ t, t < ts.length → okB ts.length (ty ts t) = true := by simp [rightB]
theorem right_size {ts : List ByteArray} (h : ts.length < 1 ∨ 8 < ts.length) : rightB ts = false := by
  rw [Bool.eq_false_iff]; intro h'
  have := right_iff.1 h'
  omega
theorem right_ok {ts : List ByteArray} {t : Nat} (ht : t < ts.length) (h : okB ts.length (ty ts t) = false) : rightB ts = false := by
  rw [Bool.eq_false_iff]; intro h'
  rw [(right_iff.1 h').2.2 t ht] at h
  exact absurd h (by decide)
theorem one_iff {ts : List ByteArray} {t : Int} : oneB ts t = true ↔ 0 ≤ t ∧ t < ts.length ∧ rightB ts = true := by
  simp [oneB, and_assoc]
theorem one_no {ts : List ByteArray} {t : Int} : oneB ts t = false ↔ (t < 0 ∨ (ts.length : Int) ≤ t) ∨ rightB ts = false := by
  rw [Bool.eq_false_iff, Ne, one_iff]
  cases rightB ts <;> simp <;> omega
theorem refs_iff {ts : List ByteArray} {s : ByteArray} : refsB ts s = true ↔ rightB ts = true ∧ ∀ k, k < s.size → digB ts.length (byt s k) = true := by simp [refsB]
theorem refs_no {ts : List ByteArray} {s : ByteArray} {k : Nat} (hk : k < s.size) (h : digB ts.length (byt s k) = false) : refsB ts s = false := by
  rw [Bool.eq_false_iff]; intro h'
  rw [(refs_iff.1 h').2 k hk] at h
  exact absurd h (by decide)
theorem refs_right {ts : List ByteArray} {s : ByteArray} (h : rightB ts = false) : refsB ts s = false := by
  unfold refsB; rw [h]; rfl

/-- What a letter points to; -1: it is a number. -/
def ptrI (c : Nat) : Int := if c = 105 then -1 else (c : Int) - 48
theorem ptr_i : ptrI 105 = -1 := rfl
theorem ptr_d {c : Nat} (h : c ≠ 105) : ptrI c = (c : Int) - 48 := by simp [ptrI, h]

def sizeI (ts : List ByteArray) (t : Int) : Int := if oneB ts t = true then ((ty ts t.toNat).size : Int) else 0
def toI (ts : List ByteArray) (t f : Int) : Int := if oneB ts t = true ∧ 0 ≤ f ∧ f < (ty ts t.toNat).size then ptrI (byt (ty ts t.toNat) f.toNat) else -1
/-- One field of a points to b. -/
def Edge (ts : List ByteArray) (a b : Nat) : Prop := a < ts.length ∧ ∃ k, k < (ty ts a).size ∧ byt (ty ts a) k ≠ 105 ∧ byt (ty ts a) k = b + 48
inductive Rch (ts : List ByteArray) (t : Nat) : Nat → Prop
  | here : Rch ts t t
  | more {a b : Nat} : Rch ts t a → Edge ts a b → Rch ts t b
theorem edge_lt {ts : List ByteArray} (h : rightB ts = true) {a b : Nat} (he : Edge ts a b) : b < ts.length := by
  obtain ⟨ha, k, hk, h1, h2⟩ := he
  have := (ok_iff.1 ((right_iff.1 h).2.2 a ha)).2.2 k hk
  rcases let_iff.1 this with h3 | h3
  · exact absurd h3 h1
  · have := dig_iff.1 h3; omega
theorem Rch.lt {ts : List ByteArray} (h : rightB ts = true) {t : Nat} (ht : t < ts.length) {n : Nat} (hr : Rch ts t n) : n < ts.length := by
  induction hr with
  | here => exact ht
  | more _ he _ => exact edge_lt h he
theorem Rch.trans {ts : List ByteArray} {a b c : Nat} (h1 : Rch ts a b) (h2 : Rch ts b c) : Rch ts a c := by
  induction h2 with
  | here => exact h1
  | more _ he ih => exact ih.more he

end Go.Proofs.YtcjhgibhenocpaaGreatDoor

/- The letters of operations. -/
namespace Go.Proofs.YtcjhgibhenocpaaGreatDoor
set_option linter.unusedSimpArgs false
set_option linter.unusedVariables false
end Go.Proofs.YtcjhgibhenocpaaGreatDoor

/- Programs that may be run, in plain lists: of which types locals and globals are, what is wrong of an instruction, the first error. -/
namespace Go.Proofs.YtcjhgibhenocpaaGreatDoor
set_option linter.unusedSimpArgs false
set_option linter.unusedVariables false

def baL (l : Bs) : ByteArray := ⟨l.toArray⟩
def tsP (ts : List Bs) : List ByteArray := ts.map baL
/-- The type that the letter at a names. -/
def namesI (ts : List Bs) (s : Bs) (a : Int) : Int := if 0 ≤ a ∧ a < s.length ∧ refsB (tsP ts) (baL [s.getD a.toNat 0]) = true then ((s.getD a.toNat 0).toNat : Int) - 48 else -1
def localI (p : PProg) (a : Int) : Int := namesI p.types p.locals a
def globI (p : PProg) (a : Int) : Int := namesI p.types p.globs a
def sizeP (ts : List Bs) (t : Int) : Int := sizeI (tsP ts) t
def toP (ts : List Bs) (t f : Int) : Int := toI (tsP ts) t f
def numF (ts : List Bs) (t n : Int) : Bool := decide (0 ≤ n) && decide (n < sizeP ts t) && decide (toP ts t n < 0)
def sameT (a b : Int) : Bool := decide (0 ≤ a) && decide (a = b)
def jumpI (i : PIns) : Bool := decide (i.op = 3) || decide (i.op = 4)
def intsB (i : PIns) : Bool :=
  if i.op = 1 ∨ i.op = 4 ∨ i.op = 8 ∨ i.op = 14 ∨ i.op = 15 then decide (i.a < 8)
  else if i.op = 2 then decide (i.a < 8) && decide (i.b < 8) && decide (i.c < 8)
  else if i.op = 9 then decide (i.b < 8) else true
def kindsB (p : PProg) (i : PIns) : Bool :=
  if i.op = 5 ∨ i.op = 6 then decide (0 ≤ localI p i.a)
  else if i.op = 7 then sameT (localI p i.a) (localI p i.b)
  else if i.op = 15 then sameT (localI p i.b) (localI p i.c)
  else if i.op = 8 then decide (0 ≤ localI p i.b) && numF p.types (localI p i.b) i.n
  else if i.op = 9 then decide (0 ≤ localI p i.a) && numF p.types (localI p i.a) i.n
  else if i.op = 10 then decide (0 ≤ localI p i.b) && sameT (localI p i.a) (toP p.types (localI p i.b) i.n)
  else if i.op = 11 then decide (0 ≤ localI p i.a) && sameT (localI p i.b) (toP p.types (localI p i.a) i.n)
  else if i.op = 12 then sameT (localI p i.a) (globI p i.b)
  else if i.op = 13 then sameT (localI p i.b) (globI p i.a)
  else true
/-- What is wrong of an instruction among n. -/
def insE (p : PProg) (n : Int) (i : PIns) : Nat :=
  if rightL i = false then 4 else if jumpI i = true ∧ (i.n < 0 ∨ n < i.n) then 12 else if (intsB i && kindsB p i) = false then 5 else 0
def headB (p : PProg) : Bool := refsB (tsP p.types) (baL p.locals) && refsB (tsP p.types) (baL p.globs) && decide (p.locals.length ≤ 8) && decide (p.globs.length ≤ 4)
def firstE (p : PProg) (n : Int) : Nat → List PIns → Int × Nat
  | _, [] => (-1, 0)
  | k, i :: r => if insE p n i = 0 then firstE p n (k + 1) r else ((k : Int), insE p n i)
def checkL (p : PProg) : Int × Nat := if headB p = false then (-1, 5) else if p.code.length < 1 ∨ 200 < p.code.length then (-1, 3) else firstE p p.code.length 0 p.code

/-! ### The first error -/
section
variable {p q : PProg} {n m : Int}
theorem firstE_app : ∀ (a b : List PIns) (k : Nat), (∀ i ∈ a, insE p n i = 0) → firstE p n k (a ++ b) = firstE p n (k + a.length) b
  | [], b, k, _ => rfl
  | i :: a, b, k, h => by
    show (if insE p n i = 0 then firstE p n (k + 1) (a ++ b) else _) = _
    rw [if_pos (h i (by simp)), firstE_app a b (k + 1) (fun j hj => h j (by simp [hj]))]
    simp only [List.length_cons]
    rw [show k + 1 + a.length = k + (a.length + 1) by omega]
theorem firstE_all {l : List PIns} (k : Nat) (h : ∀ i ∈ l, insE p n i = 0) : firstE p n k l = (-1, 0) := by
  have := firstE_app l [] k h
  rw [List.append_nil] at this
  rw [this]; rfl
theorem firstE_at {a b : List PIns} {i : PIns} (k : Nat) (h : ∀ j ∈ a, insE p n j = 0) (hi : insE p n i ≠ 0) : firstE p n k (a ++ i :: b) = ((k : Int) + a.length, insE p n i) := by
  rw [firstE_app a _ k h]
  show (if insE p n i = 0 then _ else (((k + a.length : Nat) : Int), insE p n i)) = _
  rw [if_neg hi]; simp
theorem firstE_cases : ∀ (l : List PIns) (k : Nat), (∀ i ∈ l, insE p n i = 0) ∨ ∃ a i b, l = a ++ i :: b ∧ (∀ j ∈ a, insE p n j = 0) ∧ insE p n i ≠ 0
  | [], _ => .inl (by simp)
  | i :: r, k => by
    by_cases hi : insE p n i = 0
    · rcases firstE_cases r k with h | ⟨a, j, b, rfl, h1, h2⟩
      · exact .inl fun j hj => by rcases List.mem_cons.1 hj with rfl | hj; exact hi; exact h j hj
      · exact .inr ⟨i :: a, j, b, rfl, fun x hx => by rcases List.mem_cons.1 hx with rfl | hx; exact hi; exact h1 x hx, h2⟩
    · exact .inr ⟨[], i, r, rfl, by simp, hi⟩
theorem check_head (h : headB p = false) : checkL p = (-1, 5) := by unfold checkL; rw [if_pos h]
theorem check_big (h : headB p = true) (hn : p.code.length < 1 ∨ 200 < p.code.length) : checkL p = (-1, 3) := by unfold checkL; rw [if_neg (by rw [h]; simp), if_pos hn]
theorem check_code (h : headB p = true) (h1 : 1 ≤ p.code.length) (h2 : p.code.length ≤ 200) : checkL p = firstE p p.code.length 0 p.code := by unfold checkL; rw [if_neg (by rw [h]; simp), if_neg (by omega)]
/-- What Check answers, in its four ways. -/
theorem check_cases (p : PProg) : (headB p = false ∧ checkL p = (-1, 5)) ∨ (headB p = true ∧ (p.code.length < 1 ∨ 200 < p.code.length) ∧ checkL p = (-1, 3)) ∨
    (headB p = true ∧ 1 ≤ p.code.length ∧ p.code.length ≤ 200 ∧ (∀ i ∈ p.code, insE p p.code.length i = 0) ∧ checkL p = (-1, 0)) ∨
    (headB p = true ∧ 1 ≤ p.code.length ∧ p.code.length ≤ 200 ∧ ∃ a i b, p.code = a ++ i :: b ∧ (∀ j ∈ a, insE p p.code.length j = 0) ∧ insE p p.code.length i ≠ 0 ∧ checkL p = ((a.length : Int), insE p p.code.length i)) := by
  rcases hh : headB p with _ | _
  · exact .inl ⟨rfl, check_head hh⟩
  · by_cases hn : p.code.length < 1 ∨ 200 < p.code.length
    · exact .inr (.inl ⟨rfl, hn, check_big hh hn⟩)
    · have e := check_code hh (by omega) (by omega)
      rcases firstE_cases (p := p) (n := p.code.length) p.code 0 with h | ⟨a, i, b, h1, h2, h3⟩
      · exact .inr (.inr (.inl ⟨rfl, by omega, by omega, h, by rw [e]; exact firstE_all 0 h⟩))
      · refine .inr (.inr (.inr ⟨rfl, by omega, by omega, a, i, b, h1, h2, h3, ?_⟩))
        rw [e]
        have : firstE p p.code.length 0 p.code = firstE p p.code.length 0 (a ++ i :: b) := by rw [← h1]
        rw [this, firstE_at 0 h2 h3]; simp
theorem check_ok (h : (checkL p).2 = 0) : headB p = true ∧ 1 ≤ p.code.length ∧ p.code.length ≤ 200 ∧ (∀ i ∈ p.code, insE p p.code.length i = 0) ∧ checkL p = (-1, 0) := by
  rcases check_cases p with ⟨_, e⟩ | ⟨_, _, e⟩ | h' | ⟨_, _, _, a, i, b, _, _, h3, e⟩
  · rw [e] at h; cases h
  · rw [e] at h; cases h
  · exact h'
  · rw [e] at h; exact absurd h h3

end
end Go.Proofs.YtcjhgibhenocpaaGreatDoor
