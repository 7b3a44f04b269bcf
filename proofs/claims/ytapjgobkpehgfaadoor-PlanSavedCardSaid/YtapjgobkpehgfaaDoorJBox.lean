/-
  Rows of truths in blocks of their own, and a row of them.
-/
import Derived.Test.YtapjgobkpehgfaaDoorUAC
import Derived.Test.YtapjgobkpehgfaaDoorUBA
import Derived.Deep.MidRow
import Derived.Deep.OwnRows
namespace Go.Proofs.YtapjgobkpehgfaaDoor
set_option linter.unusedSimpArgs false
set_option linter.unusedVariables false
open Go.RowKit

theorem infoBoolG : (Tryd.prog.info? 4).map (fun i => (i.zero, i.size, i.bytes)) = some (some (.bool false), 1, 1) := by kernel_rfl
theorem infoBoolsG : (Tryd.prog.info? 52).map (fun i => (i.zero, i.size, i.bytes)) = some (some (.slice none 0 0), 1, 24) := by kernel_rfl
def boolRow (m : Nat) (r : Nat → Bool) : Array Value := ((List.range m).map fun j => Value.bool (r j)).toArray
def gridC (n m k : Nat) (ad : Nat → Nat) : Array Value := ((List.range n).map fun a => if a < k then Value.slice (some ⟨ad a, 0, none⟩) m m else Value.slice none 0 0).toArray
section
variable {n m k j : Nat} {r s : Nat → Bool} {ad : Nat → Nat}
theorem boolRow_get (h : j < m) : (boolRow m r)[j]? = some (.bool (r j)) := by unfold boolRow; simp [h]
theorem boolRow_congr (h : ∀ j, j < m → r j = s j) : boolRow m r = boolRow m s := by
  unfold boolRow
  congr 1
  exact List.map_congr_left fun j hj => by rw [h j (List.mem_range.1 hj)]
theorem boolRow_set (b : Bool) : (boolRow m r).setIfInBounds k (.bool b) = boolRow m (fun j => if j = k then b else r j) := by
  unfold boolRow
  rw [List.setIfInBounds_toArray]
  congr 1
  refine List.ext_getElem? fun i => ?_
  rw [List.getElem?_set]
  simp only [List.length_map, List.length_range, List.getElem?_map]
  by_cases e : k = i
  · subst e
    by_cases h : k < m
    · simp [h]
    · simp [h]
  · have e2 : ¬ i = k := fun h => e h.symm
    by_cases h : i < m
    · simp [e, e2, h]
    · simp [e, h]
theorem madeG (z : Value) (n : Nat) : madeCells #[z] n = (List.replicate n z).toArray := by
  unfold madeCells
  apply Array.ext'
  refine List.ext_getElem? fun i => ?_
  simp only [List.getElem?_replicate]
  by_cases h : i < n
  · simp [h, Nat.mod_one]
  · simp [h]
theorem boolRow_zeros (m : Nat) : madeCells #[.bool false] m = boolRow m (fun _ => false) := by
  rw [madeG]
  unfold boolRow
  rw [List.map_const', List.length_range]
theorem gridC_get (h : j < k) (hk : k ≤ n) : (gridC n m k ad)[j]? = some (.slice (some ⟨ad j, 0, none⟩) m m) := by
  have h2 : j < n := by omega
  unfold gridC; simp [h, h2]
theorem gridC_last (h : k < n) : (gridC n m k ad)[k]? = some (.slice none 0 0) := by
  unfold gridC; simp [h]
theorem gridC_set (x : Nat) : (gridC n m k ad).setIfInBounds k (.slice (some ⟨x, 0, none⟩) m m) = gridC n m (k + 1) (fun a => if a = k then x else ad a) := by
  unfold gridC
  rw [List.setIfInBounds_toArray]
  congr 1
  refine List.ext_getElem? fun i => ?_
  rw [List.getElem?_set]
  simp only [List.length_map, List.length_range, List.getElem?_map]
  by_cases e : k = i
  · subst e
    by_cases h : k < n
    · simp [h]
    · simp [h]
  · have e2 : ¬ i = k := fun h => e h.symm
    by_cases h : i < n
    · have e3 : (i < k + 1) = (i < k) := propext (by omega)
      simp [e, e2, e3, h]
    · simp [e, h]
theorem gridC_zeros (n m : Nat) (ad : Nat → Nat) : madeCells #[.slice none 0 0] n = gridC n m 0 ad := by
  rw [madeG]
  unfold gridC
  simp only [Nat.not_lt_zero, if_false]
  rw [List.map_const', List.length_range]
end

/-- A row of rows, each in a block of its own, of which k are made. -/
structure GridW (B : Nat) (w wr : World) (G n m k : Nat) (ad : Nat → Nat) (M : Nat → Nat → Bool) : Prop where
  below : Below B w wr
  hB : B ≤ G
  kn : k ≤ n
  out : blk wr G (gridC n m k ad) 52
  rows : ∀ a, a < k → blk wr (ad a) (boolRow m (M a)) 4
  far : ∀ a, a < k → G < ad a
  inj : ∀ a b, a < b → b < k → ad a < ad b
section
variable {B : Nat} {w wr w' : World} {G n m k : Nat} {ad : Nat → Nat} {M : Nat → Nat → Bool}
theorem GridW.size (h : GridW B w wr G n m k ad M) : B ≤ wr.heap.size := by
  have := blk_lt h.out; have := h.hB; omega
theorem GridW.next (h : GridW B w wr G n m k ad M) (hb : Below wr.heap.size wr w') : GridW B w w' G n m k ad M :=
  ⟨h.below.trans (hb.mono h.size), h.hB, h.kn, blk_below h.out hb, fun a ha => blk_below (h.rows a ha) hb, h.far, h.inj⟩
theorem GridW.cell (h : GridW B w wr G n m k ad M) {a : Nat} (ha : a < k) : wr.cell? ⟨G, a, none⟩ = some (.slice (some ⟨ad a, 0, none⟩) m m) :=
  blk_cell h.out a _ (gridC_get ha h.kn)
theorem GridW.at (h : GridW B w wr G n m k ad M) {a j : Nat} (ha : a < k) (hj : j < m) : wr.cell? ⟨ad a, j, none⟩ = some (.bool (M a j)) :=
  blk_cell (h.rows a ha) j _ (boolRow_get hj)
/-- One row is written anew. -/
theorem GridW.put (h : GridW B w wr G n m k ad M) {a : Nat} (ha : a < k) (r : Nat → Bool) : GridW B w (putB wr (ad a) (boolRow m r) 4) G n m k ad (fun x => if x = a then r else M x) := by
  have hf := h.far a ha
  have hB := h.hB
  refine ⟨h.below.trans (putB_below wr (by omega) _ _), h.hB, h.kn, ?_, fun x hx => ?_, h.far, h.inj⟩
  · unfold blk; rw [putB_ne _ (by omega)]; exact h.out
  · by_cases e : x = a
    · subst e
      rw [if_pos rfl]
      exact putB_at (h.rows x hx) _ _
    · rw [if_neg e]
      unfold blk
      rw [putB_ne _ (by
        rcases Nat.lt_or_gt_of_ne e with h1 | h1
        · have := h.inj x a h1 ha; omega
        · have := h.inj a x h1 hx; omega)]
      exact h.rows x hx
theorem GridW.setc (h : GridW B w wr G n m k ad M) {a j : Nat} (ha : a < k) (b : Bool) : GridW B w (wr.setCell ⟨ad a, j, none⟩ (.bool b)) G n m k ad (fun x => if x = a then (fun y => if y = j then b else M a y) else M x) := by
  rw [setCell_putB (h.rows a ha), boolRow_set]
  exact h.put ha _
/-- One row more. -/
theorem GridW.more (h : GridW B w wr G n m k ad M) (hk : k < n) (r : Nat → Bool) :
    GridW B w ((wr.alloc (.cells (boolRow m r) 4)).setCell ⟨G, k, none⟩ (.slice (some ⟨wr.heap.size, 0, none⟩) m m)) G n m (k + 1) (fun a => if a = k then wr.heap.size else ad a) (fun a => if a = k then r else M a) := by
  have hG := blk_lt h.out
  have ho := blk_alloc h.out (.cells (boolRow m r) 4)
  have hB := h.hB
  rw [setCell_putB ho, gridC_set]
  have hba : Below wr.heap.size wr (wr.alloc (.cells (boolRow m r) 4)) := (Below.refl _ _).alloc (Nat.le_refl _) _
  refine ⟨(h.below.trans (hba.mono h.size)).trans (putB_below _ hB _ _), h.hB, hk, putB_at ho _ _, fun a ha => ?_, fun a ha => ?_, fun a b hab hb => ?_⟩
  · unfold blk
    by_cases e : a = k
    · rw [if_pos e, if_pos e, putB_ne _ (by omega)]
      exact blk_new _ _ _
    · have hf := h.far a (by omega)
      rw [if_neg e, if_neg e, putB_ne _ (by omega)]
      exact blk_alloc (h.rows a (by omega)) _
  · show G < (if a = k then wr.heap.size else ad a)
    by_cases e : a = k
    · rw [if_pos e]; exact hG
    · rw [if_neg e]; exact h.far a (by omega)
  · show (if a = k then wr.heap.size else ad a) < (if b = k then wr.heap.size else ad b)
    by_cases e : b = k
    · have e2 : ¬ a = k := by omega
      rw [if_pos e, if_neg e2]
      exact blk_lt (h.rows a (by omega))
    · have e2 : ¬ a = k := by omega
      rw [if_neg e, if_neg e2]
      exact h.inj a b hab (by omega)
theorem GridW.new (h : Below B w wr) (hB : B ≤ wr.heap.size) (n m : Nat) (ad : Nat → Nat) (M : Nat → Nat → Bool) : GridW B w (wr.alloc (.cells (gridC n m 0 ad) 52)) wr.heap.size n m 0 ad M :=
  ⟨h.trans (((Below.refl _ _).alloc (Nat.le_refl _) _).mono hB), hB, Nat.zero_le _, blk_new _ _ _, fun _ h => absurd h (Nat.not_lt_zero _), fun _ h => absurd h (Nat.not_lt_zero _), fun _ _ _ h => absurd h (Nat.not_lt_zero _)⟩
end
end Go.Proofs.YtapjgobkpehgfaaDoor
