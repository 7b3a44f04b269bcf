/-
  What Best writes, place by place; where its rows lie.
-/
import Derived.Test.YtapjgobkpehgfaaDoorUAU
import Derived.Test.YtapjgobkpehgfaaDoorUBA
namespace Go.Proofs.YtapjgobkpehgfaaDoor
set_option linter.unusedSimpArgs false
set_option linter.unusedVariables false
open Go.RowKit

section
variable {q : PProg} {i : PIns} {k j : Nat}
/-- The facts of the first k places; none of those behind. -/
noncomputable def bestP (q : PProg) (k : Nat) : List PFact := (List.range q.code.length).map fun j => if j < k then bestK q j else noFact
theorem bestP_len : (bestP q k).length = q.code.length := by unfold bestP; simp
theorem bestP_get (hj : j < q.code.length) : (bestP q k)[j]? = some (if j < k then bestK q j else noFact) := by
  unfold bestP; rw [List.getElem?_map, List.getElem?_range hj]; rfl
theorem bestP_0 : bestP q 0 = noneL q := by
  unfold bestP noneL
  refine List.ext_getElem (by simp) fun j h1 h2 => ?_
  simp
theorem bestP_all : bestP q q.code.length = bestL q := by
  unfold bestP bestL
  refine List.map_congr_left fun j hj => ?_
  rw [if_pos (List.mem_range.1 hj)]
theorem bestP_here (hk : k < q.code.length) : (bestP q k)[k]? = some noFact := by rw [bestP_get hk, if_neg (Nat.lt_irrefl k)]
theorem bestP_set {f : PFact} (hk : k < q.code.length) (hf : bestK q k = f) : (bestP q k).set k f = bestP q (k + 1) := by
  refine List.ext_getElem? fun j => ?_
  by_cases hj : j < q.code.length
  · rw [bestP_get hj, List.getElem?_set]
    by_cases e : k = j
    · subst e
      rw [if_pos rfl, if_pos (by rw [bestP_len]; exact hk), if_pos (Nat.lt_succ_self k), hf]
    · rw [if_neg e, bestP_get hj]
      congr 1
      by_cases h : j < k
      · rw [if_pos h, if_pos (by omega)]
      · rw [if_neg h, if_neg (by omega)]
  · rw [List.getElem?_eq_none (by rw [List.length_set, bestP_len]; omega), List.getElem?_eq_none (by rw [bestP_len]; omega)]
theorem bestP_skip (hk : k < q.code.length) (hf : bestK q k = noFact) : bestP q k = bestP q (k + 1) := by
  rw [← bestP_set hk hf]
  refine (List.ext_getElem? fun j => ?_)
  rw [List.getElem?_set]
  split
  · next e => subst e; rw [if_pos (by rw [bestP_len]; exact hk), bestP_here hk]
  · rfl
theorem bestK_of (hi : q.code[k]? = some i) : bestK q k = bestI q k i := by unfold bestK; rw [hi]
theorem bestK_no (hi : q.code[k]? = some i) (h5 : i.op ≠ 5) (h11 : i.op ≠ 11) : bestK q k = noFact := by
  rw [bestK_of hi]; unfold bestI noFact; simp [h5, h11]
theorem bestK_5 (hi : q.code[k]? = some i) (h5 : i.op = 5) : bestK q k = putF (putF noFact 0 (!loopL q k && !leakB q k)) 1 (decide (0 ≤ lastL q k)) := by
  rw [bestK_of hi]; unfold bestI noFact putF; simp [h5, Bool.and_comm]
theorem bestK_11 (hi : q.code[k]? = some i) (h11 : i.op = 11) : bestK q k = putF noFact 2 (((freshL q).getD k 0).testBit i.a.toNat) := by
  rw [bestK_of hi]; unfold bestI noFact putF; simp [h11]
end
/-! ### As its row lies while it is written -/
def factsA (l : List PFact) : Array Value := (cellsS factC l).toArray
theorem factsA_get {l : List PFact} {m : Nat} {u : Value} (h : (factsA l)[m]? = some u) : ∃ b, u = .bool b := by
  unfold factsA at h
  have h1 : (cellsS factC l)[m]? = some u := by simpa using h
  have h2 := List.mem_of_getElem? h1
  unfold cellsS at h2
  obtain ⟨x, _, hx⟩ := List.mem_flatMap.1 h2
  unfold factC at hx
  simp at hx
  rcases hx with rfl | rfl | rfl <;> exact ⟨_, rfl⟩
theorem factsA_put {l : List PFact} {k t : Nat} {f : PFact} (b : Bool) (hk : l[k]? = some f) (ht : t < 3) : (factsA l).setIfInBounds (k * 3 + t) (.bool b) = factsA (l.set k (putF f t b)) := by
  apply Array.toList_inj.1
  unfold factsA
  rw [Array.toList_setIfInBounds]
  exact cells_put hk ht
theorem cells_none (n : Nat) : cellsS factC (List.replicate n noFact) = List.replicate (n * 3) (.bool false) := by
  induction n with
  | zero => rfl
  | succ n ih =>
    unfold cellsS at ih ⊢
    rw [List.replicate_succ, List.flatMap_cons, ih]
    show List.replicate 3 (Value.bool false) ++ List.replicate (n * 3) (.bool false) = _
    rw [List.replicate_append_replicate, show 3 + n * 3 = (n + 1) * 3 by omega]
theorem zeroF_get (j : Nat) : zeroF[j % zeroF.size]! = .bool false := by
  have h3 : j % zeroF.size < 3 := Nat.mod_lt _ (by decide)
  generalize j % zeroF.size = r at h3
  rcases (by omega : r = 0 ∨ r = 1 ∨ r = 2) with rfl | rfl | rfl <;> rfl
theorem made_none (n : Nat) : madeCells zeroF (n * 3) = factsA (List.replicate n noFact) := by
  apply Array.toList_inj.1
  unfold factsA
  rw [cells_none]
  refine List.eq_replicate_iff.2 ⟨by simp [madeCells], fun b hb => ?_⟩
  unfold madeCells at hb
  rw [Array.toList_map] at hb
  obtain ⟨x, _, rfl⟩ := List.mem_map.1 hb
  exact zeroF_get x
structure BsW (w wr : World) (g : Nat) (C : Array Value) (vin : Value) (p : PProg) (l : List PFact) : Prop where
  below : Below w.heap.size w wr
  prog : blk wr w.heap.size C 32
  row : blk wr g (factsA l) 37
  inn : RowAt wr vin (u8s (freshL p))
  hg : w.heap.size < g
section
variable {w wr w' : World} {g : Nat} {C : Array Value} {vin : Value} {p : PProg} {l : List PFact}
theorem BsW.next (h : BsW w wr g C vin p l) (hb : Below wr.heap.size wr w') : BsW w w' g C vin p l :=
  ⟨h.below.trans (hb.mono h.below.size), blk_below h.prog hb, blk_below h.row hb, h.inn.below hb, h.hg⟩
theorem BsW.put (h : BsW w wr g C vin p l) {k t : Nat} {f : PFact} (b : Bool) (hk : l[k]? = some f) (ht : t < 3) : BsW w (wr.setCell ⟨g, k * 3 + t, none⟩ (.bool b)) g C vin p (l.set k (putF f t b)) := by
  have hg := h.hg
  rw [setCell_putB h.row, factsA_put b hk ht]
  refine ⟨h.below.trans (putB_below _ (by omega) _ _), by unfold blk; rw [putB_ne _ (by omega)]; exact h.prog, putB_at h.row _ _, ?_, hg⟩
  obtain ⟨a, c, e, h1, h2, h3⟩ := h.inn
  refine ⟨a, c, e, h1, h2, h3.imp id ?_⟩
  rintro ⟨bb, o, e2, hlt, hc⟩
  refine ⟨bb, o, e2, by rw [putB_size]; exact hlt, fun j x hx => ?_⟩
  have hx' := hc j x hx
  have hne : bb ≠ g := by
    rintro rfl
    have hr := h.row
    unfold blk at hr
    simp only [World.cell?, hr] at hx'
    have hx2 : (factsA l)[o + j]? = some x := by simpa using hx'
    obtain ⟨b1, rfl⟩ := factsA_get hx2
    have := List.mem_of_getElem? hx
    unfold u8s at this
    simp at this
  have e3 : (putB wr g (factsA (l.set k (putF f t b))) 37).cell? ⟨bb, o + j, none⟩ = wr.cell? ⟨bb, o + j, none⟩ := by
    simp only [World.cell?]
    rw [putB_ne _ hne]
  rw [e3]; exact hx'
theorem BsW.cell (h : BsW w wr g C vin p l) {k : Nat} {f : PFact} (hk : l[k]? = some f) : wr.cell? ⟨g, k * 3, none⟩ = some (.bool f.st) ∧ wr.cell? ⟨g, k * 3 + 1, none⟩ = some (.bool f.ra) ∧ wr.cell? ⟨g, k * 3 + 2, none⟩ = some (.bool f.pl) ∧ ∀ j, wr.frozen? ⟨g, j, none⟩ = false := by
  have hc : ∀ t v, (factC f)[t]? = some v → wr.cell? ⟨g, k * 3 + t, none⟩ = some v := fun t v hv => blk_cell h.row _ v (by
    unfold factsA
    have := cellsS_get factC_len l k f t v hk hv
    simpa using this)
  exact ⟨hc 0 _ rfl, hc 1 _ rfl, hc 2 _ rfl, fun j => blk_frozen h.row j⟩
theorem BsW.facts (h : BsW w wr g C vin p l) (hl : l.length ≤ 200) : FactsAt wr (.slice (some ⟨g, 0, none⟩) l.length l.length) l := rowS_blk factC_len h.row (by unfold factsA; rfl) (by unfold maxLen; omega)
end
/-- The row of a new list of facts, of its own. -/
def NonePost (w : World) (p : PProg) (e : Ending) (w' : World) : Prop := ∃ g, e = .returned (.tuple #[.slice (some ⟨g, 0, none⟩) p.code.length p.code.length, .int .i64 0]) ∧ w.heap.size ≤ g ∧ blk w' g (factsA (noneL p)) 37 ∧ Below w.heap.size w w'
end Go.Proofs.YtapjgobkpehgfaaDoor
