/-
  Facts, as the program keeps them: three truths each.
  Facts that came in, opened.
  What came in: a byte; a slice of instructions.
-/
import Derived.Test.YtapjgobkpehgfaaDoorRowS
import Derived.Test.YtapjgobkpehgfaaDoorUAE

/- Facts, as the program keeps them: three truths each. -/
namespace Go.Proofs.YtapjgobkpehgfaaDoor
set_option linter.unusedSimpArgs false
set_option linter.unusedVariables false
open Go.RowKit

/-- What may be left out at a place. -/
structure PFact where
  st : Bool
  ra : Bool
  pl : Bool
deriving DecidableEq
def noFact : PFact := ⟨false, false, false⟩
/-- One list of facts leaves out no more than another one. -/
def leFact (x y : PFact) : Bool := (!x.st || y.st) && (!x.ra || y.ra) && (!x.pl || y.pl)
def fitsL (l : List PFact) (best : List PFact) : Bool := decide (l.length = best.length) && (List.range l.length).all fun k => leFact (l.getD k noFact) (best.getD k noFact)
def savedS (l : List PFact) : Nat := l.countP (·.st)
def savedR (l : List PFact) : Nat := l.countP (·.ra)
def savedP (l : List PFact) : Nat := l.countP (·.pl)
/-- P12.3. -/
theorem saved_app (a b : List PFact) : savedS (a ++ b) = savedS a + savedS b ∧ savedR (a ++ b) = savedR a + savedR b ∧ savedP (a ++ b) = savedP a + savedP b := by
  unfold savedS savedR savedP
  simp [List.countP_append]
theorem saved_le (a : List PFact) : savedS a ≤ a.length ∧ savedR a ≤ a.length ∧ savedP a ≤ a.length := ⟨List.countP_le_length, List.countP_le_length, List.countP_le_length⟩
theorem fits_iff {l best : List PFact} : fitsL l best = true ↔ l.length = best.length ∧ ∀ k, k < l.length → leFact (l.getD k noFact) (best.getD k noFact) = true := by
  unfold fitsL
  simp only [Bool.and_eq_true, decide_eq_true_eq, List.all_eq_true, List.mem_range]
/-! ### As they lie -/
def factC (f : PFact) : List Value := [.bool f.st, .bool f.ra, .bool f.pl]
theorem factC_len (f : PFact) : (factC f).length = 3 := rfl
theorem factC_one (f : PFact) : ∀ u ∈ factC f, u.oneCell' = true := by
  intro u hu
  unfold factC at hu
  simp at hu
  rcases hu with rfl | rfl | rfl <;> rfl
/-- A slice of facts. -/
abbrev FactsAt (w : World) (v : Value) (l : List PFact) : Prop := RowS factC 3 w v l
/-- One of them, cell by cell. -/
theorem facts_cell {w : World} {a : Option Addr} {m cap : Nat} {l : List PFact} (h : FactsAt w (.slice a m cap) l) {k : Nat} {x : PFact} (hk : l[k]? = some x) :
    ∃ b o, a = some ⟨b, o, none⟩ ∧ w.cell? ⟨b, o + k * 3, none⟩ = some (.bool x.st) ∧ w.cell? ⟨b, o + k * 3 + 1, none⟩ = some (.bool x.ra) ∧ w.cell? ⟨b, o + k * 3 + 2, none⟩ = some (.bool x.pl) := by
  obtain ⟨b, o, rfl, _, hr⟩ := h.at' hk
  exact ⟨b, o, rfl, hr 0 _ rfl, hr 1 _ rfl, hr 2 _ rfl⟩
/-! ### A row of the call's own, into which is written -/
abbrev zeroF : Array Value := #[.bool false, .bool false, .bool false]
theorem infoF : (Tryd.prog.info? 37).map (fun i => (i.zero, i.size, i.bytes)) = some (some (.agg zeroF), 3, 3) := by kernel_rfl
theorem infoF' : ∃ i, Tryd.prog.info? 37 = some i ∧ i.zero = some (.agg zeroF) ∧ i.size = 3 ∧ i.bytes = 3 := info_parts infoF
def putF (f : PFact) (t : Nat) (b : Bool) : PFact := match t with
  | 0 => { f with st := b }
  | 1 => { f with ra := b }
  | _ => { f with pl := b }
theorem cells_put {l : List PFact} {k t : Nat} {f : PFact} {b : Bool} (hk : l[k]? = some f) (ht : t < 3) : (cellsS factC l).set (k * 3 + t) (.bool b) = cellsS factC (l.set k (putF f t b)) := by
  induction l generalizing k with
  | nil => simp at hk
  | cons x r ih =>
    cases k with
    | zero =>
      obtain rfl := Option.some.inj hk
      unfold cellsS
      rw [List.flatMap_cons, List.set_cons_zero, List.flatMap_cons]
      rcases (by omega : t = 0 ∨ t = 1 ∨ t = 2) with rfl | rfl | rfl <;> rfl
    | succ k =>
      have := ih (k := k) (by simpa using hk)
      unfold cellsS at this ⊢
      rw [List.flatMap_cons, List.set_cons_succ, List.flatMap_cons, ← this]
      rw [show (k + 1) * 3 + t = (k * 3 + t) + 1 + 1 + 1 by omega]
      rfl
structure MixW (w wr : World) (g cap : Nat) (l : List PFact) : Prop where
  below : Below w.heap.size w wr
  row : ∃ cur, blk wr g cur 37 ∧ cur.size = cap * 3 ∧ cur.toList.take (l.length * 3) = cellsS factC l
  hB : w.heap.size ≤ g
  hc : l.length ≤ cap
  hm : cap ≤ maxLen
section
variable {w wr w' : World} {g cap : Nat} {l : List PFact}
theorem MixW.own (h : MixW w wr g cap l) : wr.ownsRow w.heap.size 37 3 (.slice (some ⟨g, 0, none⟩) l.length cap) l.length (cellsS factC l) := by
  obtain ⟨cur, h1, h2, h3⟩ := h.row
  exact ⟨cellsS_len factC_len l, .inr ⟨g, cap, cur, rfl, h.hB, h1, h.hc, h.hm, h2, h3⟩⟩
theorem MixW.facts (h : MixW w wr g cap l) : FactsAt wr (.slice (some ⟨g, 0, none⟩) l.length cap) l := rowS_own factC_len h.own
theorem MixW.next (h : MixW w wr g cap l) (hb : Below wr.heap.size wr w') : MixW w w' g cap l := by
  obtain ⟨cur, h1, h2, h3⟩ := h.row
  exact ⟨h.below.trans (hb.mono h.below.size), ⟨cur, blk_below h1 hb, h2, h3⟩, h.hB, h.hc, h.hm⟩
theorem MixW.of_own {v : Value} (hb : Below w.heap.size w wr) (ho : wr.ownsRow w.heap.size 37 3 v l.length (cellsS factC l)) (hl : 0 < l.length) : ∃ g cap, v = .slice (some ⟨g, 0, none⟩) l.length cap ∧ l.length ≤ cap ∧ cap ≤ 9223372036854775807 ∧ MixW w wr g cap l := by
  rcases ho.2 with ⟨-, h0⟩ | ⟨g, cap, cur, rfl, h1, h2, h3, h4, h5, h6⟩
  · omega
  · exact ⟨g, cap, rfl, h3, by unfold maxLen at h4; omega, hb, ⟨cur, h2, h5, h6⟩, h1, h3, h4⟩
theorem MixW.set (h : MixW w wr g cap l) {k t : Nat} {f : PFact} (b : Bool) (hk : l[k]? = some f) (ht : t < 3) : MixW w (wr.setCell ⟨g, k * 3 + t, none⟩ (.bool b)) g cap (l.set k (putF f t b)) := by
  obtain ⟨cur, h1, h2, h3⟩ := h.row
  have hkl := (List.getElem?_eq_some_iff.1 hk).1
  rw [setCell_putB h1]
  refine ⟨h.below.trans (putB_below _ h.hB _ _), ⟨_, putB_at h1 _ _, by rw [Array.size_setIfInBounds]; exact h2, ?_⟩, h.hB, by rw [List.length_set]; exact h.hc, h.hm⟩
  rw [List.length_set, Array.toList_setIfInBounds, List.take_set, h3, cells_put hk ht]
theorem MixW.cell (h : MixW w wr g cap l) {k : Nat} {f : PFact} (hk : l[k]? = some f) : wr.cell? ⟨g, k * 3, none⟩ = some (.bool f.st) ∧ wr.cell? ⟨g, k * 3 + 1, none⟩ = some (.bool f.ra) ∧ wr.cell? ⟨g, k * 3 + 2, none⟩ = some (.bool f.pl) ∧ ∀ j, wr.frozen? ⟨g, j, none⟩ = false := by
  obtain ⟨b, o, e, q0, q1, q2⟩ := facts_cell h.facts hk
  simp only [Option.some.injEq, Addr.mk.injEq] at e
  obtain ⟨rfl, rfl, -⟩ := e
  rw [Nat.zero_add] at q0 q1 q2
  obtain ⟨cur, h1, -, -⟩ := h.row
  exact ⟨q0, q1, q2, fun j => blk_frozen h1 j⟩
end
end Go.Proofs.YtapjgobkpehgfaaDoor

/- Facts that came in, opened. -/
namespace Go.Proofs.YtapjgobkpehgfaaDoor
set_option linter.unusedSimpArgs false
set_option linter.unusedVariables false
open Go.RowKit Go.ChangeShapes Go.WideShapes Go.Deep Go.Joins

section
variable {H : Type} {enc : TypeId × Value → H} {w : World} {base : Nat} {spare : Nat → Bool} {held : Bool}
theorem open_facts_at {tS tF tB : TypeId} {fs : Array Field} (hS : Tryd.prog.underlying tS = some (.slice tF)) (hF : Tryd.prog.underlying tF = some (.struct fs)) (hone : oneCellFields Tryd.prog fs = true) (hC : Tryd.prog.cellsOf tF = fs.size)
    (h3 : fs.map (·.type) = #[tB, tB, tB]) (hB : Tryd.prog.underlying tB = some .bool) {v : Value} {fuel : Nat} {x : DataW H × List MemPlace} (h : DataW.trod enc Tryd.prog w base spare held fuel tS [v] = some x) : ∃ l : List PFact, FactsAt w v l := by
  have hs : fs.size = 3 := by have := congrArg Array.size h3; simpa using this
  have hg : ∀ j, j < 3 → ∃ f, fs[j]? = some f ∧ f.type = tB := by
    intro j hj
    have hj' : j < fs.size := by omega
    refine ⟨fs[j], Array.getElem?_eq_getElem hj', ?_⟩
    have h4 := congrArg (fun a => a[j]?) h3
    simp only [Array.getElem?_map, Array.getElem?_eq_getElem hj', Option.map_some] at h4
    rcases (by omega : j = 0 ∨ j = 1 ∨ j = 2) with rfl | rfl | rfl <;> exact Option.some.inj h4
  obtain ⟨f0, g0, e0⟩ := hg 0 (by omega)
  obtain ⟨f1, g1, e1⟩ := hg 1 (by omega)
  obtain ⟨f2, g2, e2⟩ := hg 2 (by omega)
  rcases open_slice_fields hS hF hone hC h with ⟨hcs, _⟩ | ⟨a, len, cap, m, D, hcs, hl, hm, hmm, _, hx⟩
  · simp at hcs
    subst hcs
    exact ⟨[], rowS_nil w⟩
  · simp at hcs
    subst hcs
    have hlm : len ≤ m := by rw [hmm]; split <;> omega
    have key : ∀ i, i < len → ∃ q : PFact, ∀ t u, (factC q)[t]? = some u → w.cell? (a.add (i * 3 + t)) = some u := by
      intro i hi
      obtain ⟨ys, n, hyl, hf⟩ := hx i (by omega)
      obtain ⟨v0, y0, c0, _, t0⟩ := hf 0 _ g0
      obtain ⟨v1, y1, c1, _, t1⟩ := hf 1 _ g1
      obtain ⟨v2, y2, c2, _, t2⟩ := hf 2 _ g2
      rw [e0] at t0; rw [e1] at t1; rw [e2] at t2
      rw [hs] at c0 c1 c2
      obtain ⟨x0, k0, _⟩ := DataW.trod_bool hB t0
      obtain ⟨x1, k1, _⟩ := DataW.trod_bool hB t1
      obtain ⟨x2, k2, _⟩ := DataW.trod_bool hB t2
      simp at k0 k1 k2
      subst k0 k1 k2
      refine ⟨⟨x0, x1, x2⟩, fun t u hu => ?_⟩
      rcases t with _ | _ | _ | t
      · simp [factC] at hu; subst hu; exact c0
      · simp [factC] at hu; subst hu; exact c1
      · simp [factC] at hu; subst hu; exact c2
      · simp [factC] at hu
    obtain ⟨f, hf⟩ : ∃ f : Nat → PFact, ∀ i, i < len → ∀ t u, (factC (f i))[t]? = some u → w.cell? (a.add (i * 3 + t)) = some u := by
      refine ⟨fun i => if h : i < len then Classical.choose (key i h) else noFact, fun i hi => ?_⟩
      simp only [hi, dif_pos]
      exact Classical.choose_spec (key i hi)
    refine ⟨(List.range len).map f, some a, cap, by simp, by simpa using hl, hm, fun j i hj => ?_⟩
    obtain ⟨hjl, he⟩ := List.getElem?_eq_some_iff.1 hj
    have hjl' : j < len := by simpa using hjl
    have hfi : f j = i := by simpa using he
    have hc := hf j hjl'
    rw [hfi] at hc
    have h0 := hc 0 _ rfl
    have h00 := hf 0 (by omega) 0 _ rfl
    rw [show a.add (0 * 3 + 0) = a by simp [Addr.add]] at h00
    have hsp := spot_of h00
    obtain ⟨b, off, sp⟩ := a
    dsimp only at hsp
    subst hsp
    rw [plain_add] at h0
    refine ⟨b, off, rfl, World.block_lt_of_cell? _ _ h0, fun t u hu => ?_⟩
    have := hc t u hu
    rw [plain_add] at this
    rw [Nat.add_assoc]; exact this
set_option maxRecDepth 100000 in
theorem open_facts {r : Reach} {b0 : Nat} {v : Value} {d : DataW H} {ps : List MemPlace} (hv : Value.okWide Tryd.prog w r b0 22 v) (h : DataW.Trod enc Tryd.prog w base spare held 22 v d ps) : ∃ l : List PFact, FactsAt w v l ∧ FormS v := by
  obtain ⟨a, n, c, rfl⟩ := okWide_slice Tryd.underlying22 hv
  obtain ⟨fuel, hf⟩ := h
  have hc : Value.cells (.slice a n c) = #[.slice a n c] := rfl
  rw [hc] at hf
  obtain ⟨l, hl⟩ := open_facts_at (tB := 4) Tryd.underlying22 Tryd.underlying37 (by kernel_rfl) (by kernel_rfl) (by simp) Tryd.underlying4 hf
  refine ⟨l, hl, ?_⟩
  rcases open_slice_fields Tryd.underlying22 Tryd.underlying37 (by kernel_rfl) (by kernel_rfl) hf with ⟨hcs, _⟩ | ⟨a', len, cap, m, D, hcs, _⟩
  · simp at hcs
    obtain ⟨rfl, rfl, rfl⟩ := hcs
    exact .inl rfl
  · simp at hcs
    obtain ⟨rfl, rfl, rfl⟩ := hcs
    exact .inr ⟨_, _, _, rfl⟩
end
end Go.Proofs.YtapjgobkpehgfaaDoor

/- What came in: a byte; a slice of instructions. -/
namespace Go.Proofs.YtapjgobkpehgfaaDoor
set_option linter.unusedSimpArgs false
set_option linter.unusedVariables false
open Go.RowKit Go.ChangeShapes Go.WideShapes Go.Deep Go.Joins

section
variable {H : Type} {enc : TypeId × Value → H} {w : World} {base : Nat} {spare : Nat → Bool} {held : Bool}
set_option maxRecDepth 100000 in
theorem open_u8 {r : Reach} {b0 : Nat} {v : Value} {d : DataW H} {ps : List MemPlace} (hv : Value.okWide Tryd.prog w r b0 5 v) (h : DataW.Trod enc Tryd.prog w base spare held 5 v d ps) : ∃ n : Int, v = .int .u8 n ∧ d = .lit (.int .u8 n) ∧ ps = [] ∧ 0 ≤ n ∧ n ≤ 255 := by
  obtain ⟨n, e, e2, e3, hw⟩ := open_int Tryd.underlying5 hv h
  exact ⟨n, e, e2, e3, (of_wf_u8 hw).1, (of_wf_u8 hw).2⟩
set_option maxRecDepth 100000 in
theorem open_codeF {r : Reach} {b0 : Nat} {v : Value} {d : DataW H} {ps : List MemPlace} (hv : Value.okWide Tryd.prog w r b0 30 v) (h : DataW.Trod enc Tryd.prog w base spare held 30 v d ps) : ∃ code : List PIns, InsRow w v code ∧ (∀ i ∈ code, OkI i) ∧ FormS v := by
  obtain ⟨a, n, c, rfl⟩ := okWide_slice Tryd.underlying30 hv
  obtain ⟨fuel, hf⟩ := h
  have hc : Value.cells (.slice a n c) = #[.slice a n c] := rfl
  rw [hc] at hf
  obtain ⟨code, h1, h2⟩ := open_code hf
  refine ⟨code, h1, h2, ?_⟩
  rcases open_slice_fields Tryd.underlying30 Tryd.underlying29 (by kernel_rfl) cellsOf_ins hf with ⟨hcs, _⟩ | ⟨a', len, cap, m, D, hcs, _⟩
  · simp at hcs
    obtain ⟨rfl, rfl, rfl⟩ := hcs
    exact .inl rfl
  · simp at hcs
    obtain ⟨rfl, rfl, rfl⟩ := hcs
    exact .inr ⟨_, _, _, rfl⟩
end
end Go.Proofs.YtapjgobkpehgfaaDoor
