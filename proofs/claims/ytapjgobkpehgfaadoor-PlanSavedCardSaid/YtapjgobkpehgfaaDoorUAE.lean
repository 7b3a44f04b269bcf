/-
  A program that came in, opened.
  The table of operations, out of what the rows list.
  Appends of instructions, and of texts, to rows of the call's own.
-/
import Derived.Test.YtapjgobkpehgfaaDoorUAD
import Derived.OpenShut
import Derived.ProofKit
import Derived.ShutString
import Derived.Deep.Strs
import Derived.Deep.Slices
import Derived.Deep.Fields
import Derived.ChangeSame
import Derived.Lib.SmallJoins
import Derived.SizedLaws
import Derived.Stop.LaidErr
import Derived.Test.YtapjgobkpehgfaaDoorRows
import Derived.LaidMore
import Derived.Lay
import Derived.Stop.Joined
import Derived.Laws.AppendOwnNone
import Derived.BigFrame

/- A program that came in, opened. -/
namespace Go.Proofs.YtapjgobkpehgfaaDoor
set_option linter.unusedSimpArgs false
set_option linter.unusedVariables false
open Go.RowKit Go.ChangeShapes Go.WideShapes Go.Deep Go.Joins

section
variable {H : Type} {enc : TypeId × Value → H} {P : Program} {w : World} {base : Nat} {spare : Nat → Bool} {held : Bool}
theorem open_slice_fields {t e : TypeId} {fs : Array Field} {fuel : Nat} {cs : List Value} {x : DataW H × List MemPlace} (ht : P.underlying t = some (.slice e)) (he : P.underlying e = some (.struct fs))
    (hone : oneCellFields P fs = true) (hC : P.cellsOf e = fs.size) (h : DataW.trod enc P w base spare held fuel t cs = some x) :
    (cs = [.slice none 0 0] ∧ x = (.nil, [])) ∨
    ∃ (a : Addr) (len cap m : Nat) (D : Nat → DataW H), cs = [.slice (some a) len cap] ∧ len ≤ cap ∧ cap ≤ maxLen ∧ m = (if spare a.block then cap else len) ∧
      x.1 = .slice ((List.range len).map D) ((List.range (m - len)).map fun j => D (len + j)) ∧
      ∀ i, i < m → ∃ (ys : List (DataW H × List MemPlace)) (n : Nat), ys.length = fs.size ∧
        ∀ (j : Nat) (f : Field), fs[j]? = some f → ∃ (v : Value) (y : DataW H × List MemPlace), w.cell? (a.add (i * fs.size + j)) = some v ∧ ys[j]? = some y ∧ DataW.trod enc P w base spare held n f.type [v] = some y := by
  rcases open_slice ht h with h0 | ⟨a, len, cap, m, n, D, Pl, hcs, hb, hl, hm, hmm, hx, hi⟩
  · exact .inl h0
  · refine .inr ⟨a, len, cap, m, D, hcs, hl, hm, hmm, by rw [hx], fun i him => ?_⟩
    obtain ⟨cs', hc, ht'⟩ := hi i him
    rw [hC] at hc
    obtain ⟨ys, n', hn', hy, hlen, hyl, hf⟩ := DataW.trod_struct he ht'
    obtain ⟨_, hcl, hat⟩ := World.cells?_some hc
    refine ⟨ys, n', hyl, fun j f hj => ?_⟩
    obtain ⟨ho, hk⟩ := hone_of hone j f hj
    have hjl : j < fs.size := (Array.getElem?_eq_some_iff.1 hj).1
    have hcell := hat j hjl
    have hv : cs'[j]? = some (cs'[j]'(by omega)) := List.getElem?_eq_getElem (by omega)
    have h1 := hf j f hj
    rw [ho, hk] at h1
    have hone' : (cs'.drop j).take 1 = [cs'[j]'(by omega)] := by
      rw [List.drop_eq_getElem_cons (by omega)]
      rfl
    rw [hone'] at h1
    have hys : ys[j]? = some (ys[j]'(by omega)) := List.getElem?_eq_getElem (by omega)
    refine ⟨_, _, ?_, hys, h1.trans hys⟩
    rw [← Go.Deep.add_add, hcell, hv]
end
section
variable {H : Type} {enc : TypeId × Value → H} {w : World} {base : Nat} {spare : Nat → Bool} {held : Bool}
theorem plain_add {b off i : Nat} : (⟨b, off, none⟩ : Addr).add i = ⟨b, off + i, none⟩ := by
  unfold Addr.add
  by_cases h : i = 0 <;> simp [h]
theorem spot_of {x : Addr} {v : Value} (h : w.cell? x = some v) : x.spot = none := by
  obtain ⟨_, _, _, _, h4⟩ := World.shape?_of_cell? h
  exact h4
/-- A slice of texts that came in. -/
theorem open_texts {v : Value} {fuel : Nat} {x : DataW H × List MemPlace} (h : DataW.trod enc Tryd.prog w base spare held fuel 27 [v] = some x) (hw : ∀ n ∈ x.1.weights Tryd.prog 27, n ≤ reachBytes) :
    ∃ xs : List Bs, RowAt w v (xs.map str) ∧ (∀ t ∈ xs, t.length ≤ maxLen) ∧ xs.length ≤ 8796093022208 := by
  rcases Go.Deep.open_strs Tryd.underlying27 Tryd.underlying9 (by kernel_rfl) h with ⟨hcs, _⟩ | ⟨a, len, cap, m, Sx, hcs, _, hl, hm, hmm, hd, hx⟩
  · simp at hcs
    subst hcs
    exact ⟨[], rowAt_nil w, fun t ht => by simp at ht, by simp⟩
  · simp at hcs
    subst hcs
    have hlm : len ≤ m := by rw [hmm]; split <;> omega
    have hbound : len ≤ 8796093022208 := by
      have h0 := hw ((len + (m - len)) * Tryd.prog.bytesOf 9) (by rw [hd]; simp [DataW.weights, Tryd.underlying27])
      rw [show Tryd.prog.bytesOf 9 = 16 by kernel_rfl] at h0
      unfold reachBytes at h0
      omega
    have hstr : ∀ i, Value.string (Sx i) = str (Sx i).data.toList := fun i => by show _ = Value.string ⟨(Sx i).data.toList.toArray⟩; congr 1
    refine ⟨(List.range len).map fun i => (Sx i).data.toList, ?_, ?_, by simpa using hbound⟩
    · have hlen : (((List.range len).map fun i => (Sx i).data.toList).map str).length = len := by simp
      refine ⟨some a, cap, by rw [hlen], by rw [hlen]; exact hl, hm, ?_⟩
      rcases Nat.eq_zero_or_pos len with h0 | h0
      · left; subst h0; rfl
      · right
        have h1 := (hx 0 (by omega)).1
        rw [show a.add 0 = a by simp [Addr.add]] at h1
        have hsp := spot_of h1
        obtain ⟨b, off, sp⟩ := a
        dsimp only at hsp
        subst hsp
        refine ⟨b, off, rfl, World.block_lt_of_cell? _ _ h1, fun j u hu => ?_⟩
        have hj : j < len := by
          have := (List.getElem?_eq_some_iff.1 hu).1
          rw [hlen] at this; exact this
        have h2 := (hx j (by omega)).1
        rw [plain_add] at h2
        rw [h2, hstr]
        simp [hj] at hu
        rw [← hu]
    · intro t ht
      obtain ⟨j, hj, rfl⟩ := List.mem_map.1 ht
      have := (hx j (by have := List.mem_range.1 hj; omega)).2
      rw [len_size]; exact this
theorem cellsOf_ins : Tryd.prog.cellsOf 29 = 5 := by kernel_rfl
theorem of_wf_u8 {n : Int} (h : (Lit.int .u8 n).wf = true) : 0 ≤ n ∧ n ≤ 255 := by
  have e1 : IntKind.min .u8 = 0 := by decide
  have e2 : IntKind.max .u8 = 255 := by decide
  simp only [Lit.wf, Bool.and_eq_true, decide_eq_true_eq, e1, e2] at h
  exact h
theorem of_wf_i64 {n : Int} (h : (Lit.int .i64 n).wf = true) : -9223372036854775808 ≤ n ∧ n ≤ 9223372036854775807 := by
  have e1 : IntKind.min .i64 = -9223372036854775808 := by decide
  have e2 : IntKind.max .i64 = 9223372036854775807 := by decide
  simp only [Lit.wf, Bool.and_eq_true, decide_eq_true_eq, e1, e2] at h
  exact h
/-- A slice of instructions that came in. -/
theorem open_code {v : Value} {fuel : Nat} {x : DataW H × List MemPlace} (h : DataW.trod enc Tryd.prog w base spare held fuel 30 [v] = some x) : ∃ code : List PIns, InsRow w v code ∧ ∀ i ∈ code, OkI i := by
  rcases open_slice_fields Tryd.underlying30 Tryd.underlying29 (by kernel_rfl) cellsOf_ins h with ⟨hcs, _⟩ | ⟨a, len, cap, m, D, hcs, hl, hm, hmm, _, hx⟩
  · simp at hcs
    subst hcs
    exact ⟨[], ⟨none, 0, rfl, Nat.le_refl _, Nat.zero_le _, fun j i hj => by simp at hj⟩, fun i hi => by simp at hi⟩
  · simp at hcs
    subst hcs
    have hlm : len ≤ m := by rw [hmm]; split <;> omega
    have key : ∀ i, i < len → ∃ q : PIns, OkI q ∧ ∀ t u, (insC q).toList[t]? = some u → w.cell? (a.add (i * 5 + t)) = some u := by
      intro i hi
      obtain ⟨ys, n, hyl, hf⟩ := hx i (by omega)
      obtain ⟨v0, y0, c0, _, t0⟩ := hf 0 _ rfl
      obtain ⟨v1, y1, c1, _, t1⟩ := hf 1 _ rfl
      obtain ⟨v2, y2, c2, _, t2⟩ := hf 2 _ rfl
      obtain ⟨v3, y3, c3, _, t3⟩ := hf 3 _ rfl
      obtain ⟨v4, y4, c4, _, t4⟩ := hf 4 _ rfl
      obtain ⟨x0, e0, _, w0⟩ := DataW.trod_int Tryd.underlying5 t0
      obtain ⟨x1, e1, _, w1⟩ := DataW.trod_int Tryd.underlying5 t1
      obtain ⟨x2, e2, _, w2⟩ := DataW.trod_int Tryd.underlying5 t2
      obtain ⟨x3, e3, _, w3⟩ := DataW.trod_int Tryd.underlying5 t3
      obtain ⟨x4, e4, _, w4⟩ := DataW.trod_int Tryd.underlying2 t4
      simp at e0 e1 e2 e3 e4
      subst e0 e1 e2 e3 e4
      refine ⟨⟨x0, x1, x2, x3, x4⟩, ?_, ?_⟩
      · have b0 := of_wf_u8 w0
        have b1 := of_wf_u8 w1
        have b2 := of_wf_u8 w2
        have b3 := of_wf_u8 w3
        have b4 := of_wf_i64 w4
        exact ⟨b0.1, b0.2, b1.1, b1.2, b2.1, b2.2, b3.1, b3.2, b4.1, b4.2⟩
      · intro t u hu
        rcases t with _ | _ | _ | _ | _ | t
        · simp at hu; subst hu; exact c0
        · simp at hu; subst hu; exact c1
        · simp at hu; subst hu; exact c2
        · simp at hu; subst hu; exact c3
        · simp at hu; subst hu; exact c4
        · simp at hu
    obtain ⟨f, hf⟩ : ∃ f : Nat → PIns, ∀ i, i < len → OkI (f i) ∧ ∀ t u, (insC (f i)).toList[t]? = some u → w.cell? (a.add (i * 5 + t)) = some u := by
      refine ⟨fun i => if h : i < len then Classical.choose (key i h) else ⟨0, 0, 0, 0, 0⟩, fun i hi => ?_⟩
      simp only [hi, dif_pos]
      exact Classical.choose_spec (key i hi)
    refine ⟨(List.range len).map f, ⟨some a, cap, by simp, by simpa using hl, hm, fun j i hj => ?_⟩, fun i hi => ?_⟩
    · obtain ⟨hjl, he⟩ := List.getElem?_eq_some_iff.1 hj
      have hjl' : j < len := by simpa using hjl
      have hfi : f j = i := by simpa using he
      have hc := (hf j hjl').2
      rw [hfi] at hc
      have h0 := hc 0 _ rfl
      have h00 := (hf 0 (by omega)).2 0 _ rfl
      rw [show a.add (0 * 5 + 0) = a by simp [Addr.add]] at h00
      have hsp := spot_of h00
      obtain ⟨b, off, sp⟩ := a
      dsimp only at hsp
      subst hsp
      rw [plain_add] at h0
      refine ⟨b, off, rfl, World.block_lt_of_cell? _ _ h0, fun t u hu => ?_⟩
      have := hc t u hu
      rw [plain_add] at this
      rw [Nat.add_assoc]; exact this
    · obtain ⟨j, hj, rfl⟩ := List.mem_map.1 hi
      exact (hf j (List.mem_range.1 hj)).1
theorem cellsOf_prog : Tryd.prog.cellsOf 32 = 4 := by kernel_rfl
set_option maxRecDepth 100000 in
/-- A program that came in. -/
theorem open_prog {r : Reach} {b0 : Nat} {v : Value} {d : DataW H} {ps : List MemPlace} (hv : Value.okWide Tryd.prog w r b0 32 v) (h : DataW.Trod enc Tryd.prog w base spare held 32 v d ps) (hw : ∀ n ∈ d.weights Tryd.prog 32, n ≤ reachBytes) :
    ∃ p, ProgAt w v p ∧ OkP p ∧ p.types.length ≤ 8796093022208 := by
  obtain ⟨v0, v1, v2, v3, y0, y1, y2, y3, n, rfl, rfl, _, t0, t1, t2, t3⟩ := open_agg4 Tryd.underlying32 (by kernel_rfl) cellsOf_prog hv h
  simp only [DataW.weights, Tryd.underlying32] at hw
  obtain ⟨ts, h0, h1, h2⟩ := open_texts t0 (fun n hn => hw n (DataW.weights_mem_each (j := 0) rfl rfl n hn))
  obtain ⟨code, h3, h4⟩ := open_code t3
  obtain ⟨s1, e1, _, w1⟩ := DataW.trod_string Tryd.underlying9 t1
  obtain ⟨s2, e2, _, w2⟩ := DataW.trod_string Tryd.underlying9 t2
  simp at e1 e2
  subst e1 e2
  exact ⟨⟨ts, s1.data.toList, s2.data.toList, code⟩, ⟨v0, v3, rfl, h0, h3⟩, ⟨h1, by show s1.data.toList.length ≤ maxLen; rw [len_size]; exact w1, by show s2.data.toList.length ≤ maxLen; rw [len_size]; exact w2, h4⟩, h2⟩
end
end Go.Proofs.YtapjgobkpehgfaaDoor

/- The table of operations, out of what the rows list. -/
namespace Go.Proofs.YtapjgobkpehgfaaDoor
set_option linter.unusedSimpArgs false
set_option linter.unusedVariables false
open Go.RowKit

abbrev laidR : List (String × DataW Unit) := Rows.planSavedRow.laid
set_option maxRecDepth 100000 in
theorem laid_met (os : Os) (args : Array Value) : laidMetH Tryd.prog laidR ((World.laidAll Tryd.prog os laidR).forCall (fun _ _ => 0) ⟨#[], args, []⟩).memory := by
  rw [MakeChecks.laidMetH_plain _ _ _ (by kernel_rfl)]
  exact laidMet_laidAll _ (by kernel_rfl) (by kernel_rfl)

theorem gO : Tryd.prog.globalNamed "lockstitch/code.operations" = some 0 := by kernel_rfl
theorem gOt : (Tryd.prog.globals[0]?).map (·.type) = some 106 := by kernel_rfl
theorem chunks : ∀ (os : List (Int × Bs × Bs)) (l : List Value), l.length = os.length * 3 → (∀ i o, os[i]? = some o → (l.drop (i * 3)).take 3 = opCells o) → l = os.flatMap opCells
  | [], l, h, _ => by simpa using h
  | o :: r, l, h, hc => by
    have h0 := hc 0 o rfl
    have ih := chunks r (l.drop 3) (by simp at h ⊢; omega) (fun i o' hi => by
      have := hc (i + 1) o' (by simpa using hi)
      rw [List.drop_drop, show 3 + i * 3 = (i + 1) * 3 by omega]; exact this)
    rw [List.flatMap_cons, ← ih, ← h0]
    simp
def opData (o : Int × Bs × Bs) : DataW Unit := .agg [.lit (.int .u8 o.1), .lit (.string o.2.1), .lit (.string o.2.2)]
theorem ops_data : (Rows.laid_lockstitch_code_operations : DataW Unit) = .agg (OPS.map opData) := by kernel_rfl
theorem cellsOf_oper : Tryd.prog.cellsOf 90 = 3 := by kernel_rfl
theorem cellsOf_u8 : Tryd.prog.cellsOf 5 = 1 := by kernel_rfl
theorem cellsOf_str : Tryd.prog.cellsOf 9 = 1 := by kernel_rfl
set_option maxRecDepth 100000 in
theorem oper_of {enc : TypeId × Value → Unit} {w : World} {base : Nat} {spare : Nat → Bool} {held : Bool} {m : Nat} {cs : List Value} {x : DataW Unit × List MemPlace} {o : Int × Bs × Bs} (h : DataW.trod enc Tryd.prog w base spare held m 90 cs = some x) (hx : x.1 = opData o) : cs = opCells o := by
  obtain ⟨ys, n, _, e, hl, _, hf⟩ := DataW.trod_struct Tryd.underlying90 h
  rw [cellsOf_oper] at hl
  match cs, hl with
  | [c0, c1, c2], _ =>
    have f0 := hf 0 _ rfl
    have f1 := hf 1 _ rfl
    have f2 := hf 2 _ rfl
    rw [e] at hx
    unfold opData at hx
    simp only [DataW.agg.injEq] at hx
    match ys, hx with
    | [y0, y1, y2], hx =>
      simp only [List.map_cons, List.map_nil, List.cons.injEq, and_true] at hx
      obtain ⟨g0, g1, g2⟩ := hx
      simp [cellsOf_u8, cellsOf_str] at f0 f1 f2
      obtain ⟨n0, a0, b0, _⟩ := DataW.trod_int Tryd.underlying5 f0
      obtain ⟨s1, a1, b1, _⟩ := DataW.trod_string Tryd.underlying9 f1
      obtain ⟨s2, a2, b2, _⟩ := DataW.trod_string Tryd.underlying9 f2
      rw [b0] at g0
      rw [b1] at g1
      rw [b2] at g2
      simp at g0 g1 g2 a0 a1 a2
      subst a0 a1 a2
      have e1 : s1 = ⟨o.2.1.toArray⟩ := by rw [← g1]
      have e2 : s2 = ⟨o.2.2.toArray⟩ := by rw [← g2]
      rw [g0, e1, e2]
set_option maxRecDepth 100000 in
theorem hasO_of {W : World} (h : laidMetH Tryd.prog laidR W) : HasO W := by
  rw [MakeChecks.laidMetH_plain _ _ _ (by kernel_rfl)] at h
  obtain ⟨ps, ⟨g0, t0, cs0, f0, p0, q0, hg0, ht0, hv0, hd0, _, e0⟩, _, hrows⟩ := h
  obtain rfl := Option.some.inj (gO.symm.trans hg0)
  obtain rfl := Option.some.inj (gOt.symm.trans ht0)
  obtain ⟨xs, m, hm, hx, hy, hl, hi⟩ := DataW.trod_array Tryd.underlying106 hd0
  rw [ops_data] at hx
  have hxs : OPS.map opData = xs.map (·.1) := by have := (Prod.mk.inj hx).1; simpa using this
  have hcs : cs0.toList = opsCells := by
    refine chunks OPS cs0.toList (by rw [hy]; kernel_rfl) (fun i o ho => ?_)
    have hi15 : i < 15 := (List.getElem?_eq_some_iff.1 ho).1
    have h1 := hi i hi15
    rw [cellsOf_oper, List.getElem?_eq_getElem (by omega)] at h1
    refine oper_of h1 ?_
    have h2 := congrArg (fun l => l[i]?) hxs
    simp only [List.getElem?_map, ho, Option.map_some] at h2
    rw [List.getElem?_eq_getElem (by omega)] at h2
    simpa using h2.symm
  have hcell := fun off => World.var?_cell gO hv0 off
  refine ⟨fun j v hv => ?_, ?_⟩
  · rw [← hcs] at hv
    rw [Nat.zero_add]
    have := hcell j
    rw [this]
    simpa using hv
  · have := hcell 0
    have h0 : cs0[0]? = some (.int .u8 1) := by
      have : cs0.toList[0]? = some (.int .u8 1) := by rw [hcs]; rfl
      simpa using this
    rw [h0] at this
    exact World.block_lt_of_cell? _ _ this
end Go.Proofs.YtapjgobkpehgfaaDoor

/- Appends of instructions, and of texts, to rows of the call's own. -/
namespace Go.Proofs.YtapjgobkpehgfaaDoor
set_option linter.unusedSimpArgs false
set_option linter.unusedVariables false
open Go.RowKit

theorem plain_addr {b off i : Nat} : (⟨b, off, none⟩ : Addr).add i = ⟨b, off + i, none⟩ := by
  unfold Addr.add
  by_cases h : i = 0 <;> simp [h]
abbrev zeroC : Array Value := #[.int .u8 0, .int .u8 0, .int .u8 0, .int .u8 0, .int .i64 0]
/-- A slice that is nil, or has an address. -/
def FormS (u : Value) : Prop := u = .slice none 0 0 ∨ ∃ ad n c, u = .slice (some ad) n c
end Go.Proofs.YtapjgobkpehgfaaDoor
