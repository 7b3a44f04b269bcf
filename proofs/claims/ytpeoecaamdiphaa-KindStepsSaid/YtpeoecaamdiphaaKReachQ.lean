/-
  What the document's Reach gathers, in plain words.
-/
import Derived.Test.YtpeoecaamdiphaaKReach
namespace Go.Proofs.Ytpeoecaamdiphaa
open Go.RowKit

theorem count_ext : ∀ {x y : List Bool}, x.length = y.length → (∀ j : Nat, x[j]? = some true → y[j]? = some true) → x.count true ≤ y.count true ∧ ((∃ j : Nat, y[j]? = some true ∧ x[j]? ≠ some true) → x.count true < y.count true)
  | [], [], _, _ => ⟨Nat.le_refl _, fun ⟨j, h, _⟩ => by simp at h⟩
  | [], _ :: _, h, _ => by simp at h
  | _ :: _, [], h, _ => by simp at h
  | a :: x, b :: y, hl, h => by
    have ih := count_ext (x := x) (y := y) (by simpa using hl) (fun j hj => by simpa using h (j + 1) (by simpa using hj))
    have h0 := h 0
    simp only [List.getElem?_cons_zero, Option.some.injEq] at h0
    rw [List.count_cons, List.count_cons]
    constructor
    · cases a <;> cases b <;> simp at h0 ⊢ <;> omega
    · rintro ⟨j, h1, h2⟩
      rcases j with _ | j
      · simp only [List.getElem?_cons_zero, Option.some.injEq, Ne] at h1 h2
        subst h1
        cases a
        · simp; omega
        · exact absurd rfl h2
      · simp only [List.getElem?_cons_succ] at h1 h2
        have := ih.2 ⟨j, h1, h2⟩
        cases a <;> cases b <;> simp at h0 ⊢ <;> omega
theorem count_lt {m : Nat} {x : List Bool} (h : ∀ j : Nat, x[j]? = some true → j < m) : x.count true ≤ m := by
  have h1 : x.count true = (x.take m).count true + (x.drop m).count true := by
    rw [← List.count_append, List.take_append_drop]
  have h2 : (x.drop m).count true = 0 := by
    rw [List.count_eq_zero]
    intro hm
    obtain ⟨j, hj⟩ := List.getElem?_of_mem hm
    rw [List.getElem?_drop] at hj
    have := h _ hj
    omega
  have h3 : (x.take m).count true ≤ (x.take m).length := List.count_le_length
  have h4 : (x.take m).length ≤ m := by rw [List.length_take]; omega
  omega

/-- Marked are only types that one comes to, and the first one. -/
structure Had (ts : List ByteArray) (t : Nat) (bs : List Bool) : Prop where
  len : bs.length = 8
  rch : ∀ j : Nat, bs[j]? = some true → Rch ts t j
  here : bs[t]? = some true
def Whole (ts : List ByteArray) (t : Nat) (bs : List Bool) : Prop := ∀ j : Nat, Rch ts t j → bs[j]? = some true
def Incl (x y : List Bool) : Prop := ∀ j : Nat, x[j]? = some true → y[j]? = some true
/-- The round's work: the first k types, and f fields of the next one, are looked through. -/
def Upto (ts : List ByteArray) (k f : Nat) (x y : List Bool) : Prop := ∀ a : Nat, a < k ∨ a = k → x[a]? = some true → ∀ j : Nat, j < (ty ts a).size → (a = k → j < f) → byt (ty ts a) j ≠ 105 → ∀ b : Nat, byt (ty ts a) j = b + 48 → y[b]? = some true
theorem ext_refl (x : List Bool) : Incl x x := fun _ h => h
theorem set_ext {x y : List Bool} {m : Nat} (h : Incl x y) : Incl x (y.set m true) := fun j hj => by
  have h1 := h j hj
  rw [List.getElem?_set]
  split
  · next e => subst e; rw [if_pos (List.getElem?_eq_some_iff.1 h1).1]
  · exact h1
theorem upto_start (ts : List ByteArray) (x : List Bool) : Upto ts 0 0 x x := by
  intro a ha _ j _ hf
  rcases ha with ha | ha
  · omega
  · have := hf ha; omega
theorem Upto.set {ts : List ByteArray} {k f m : Nat} {x y : List Bool} (h : Upto ts k f x y) : Upto ts k f x (y.set m true) := by
  intro a ha hx j hj hf hi b hb
  have h1 := h a ha hx j hj hf hi b hb
  rw [List.getElem?_set]
  split
  · next e => subst e; rw [if_pos (List.getElem?_eq_some_iff.1 h1).1]
  · exact h1
theorem Upto.field {ts : List ByteArray} {k f : Nat} {x y : List Bool} (h : Upto ts k f x y) (hn : x[k]? = some true → byt (ty ts k) f ≠ 105 → ∀ b : Nat, byt (ty ts k) f = b + 48 → y[b]? = some true) : Upto ts k (f + 1) x y := by
  intro a ha hx j hj hf hi b hb
  by_cases hk : a = k
  · subst hk
    by_cases hjf : j = f
    · subst hjf; exact hn hx hi b hb
    · exact h a ha hx j hj (fun _ => by have := hf rfl; omega) hi b hb
  · exact h a ha hx j hj (fun e => absurd e hk) hi b hb
theorem Upto.type {ts : List ByteArray} {k : Nat} {x y : List Bool} (h : Upto ts k (ty ts k).size x y) : Upto ts (k + 1) 0 x y := by
  intro a ha hx j hj hf hi b hb
  rcases ha with ha | ha
  · exact h a (by omega) hx j hj (fun e => by subst e; exact hj) hi b hb
  · have := hf ha; omega
theorem Had.set {ts : List ByteArray} {t k m : Nat} {y : List Bool} (h : Had ts t y) (hk : y[k]? = some true) (hE : Edge ts k m) : Had ts t (y.set m true) := by
  refine ⟨by simp [h.len], fun j hj => ?_, ?_⟩
  · rw [List.getElem?_set] at hj
    split at hj
    · next e => subst e; exact (h.rch k hk).more hE
    · exact h.rch j hj
  · exact set_ext (x := y) (ext_refl y) t h.here
/-- One round more. -/
theorem Had.round {ts : List ByteArray} {t i : Nat} {x y : List Bool} (hx : Had ts t x) (hy : Had ts t y) (he : Incl x y) (hu : Upto ts ts.length 0 x y) (h : Whole ts t x ∨ i + 1 ≤ x.count true) : Whole ts t y ∨ i + 1 + 1 ≤ y.count true := by
  by_cases hw : Whole ts t x
  · exact .inl fun j hj => he j (hw j hj)
  right
  have h1 := h.resolve_left hw
  have h2 : ∃ a b, x[a]? = some true ∧ Edge ts a b ∧ x[b]? ≠ some true := by
    apply Classical.byContradiction
    intro hno
    apply hw
    intro j hj
    induction hj with
    | here => exact hx.here
    | more _ hE ih =>
      apply Classical.byContradiction
      intro hb
      exact hno ⟨_, _, ih, hE, hb⟩
  obtain ⟨a, b, ha, hE, hb⟩ := h2
  have hyb : y[b]? = some true := by
    obtain ⟨hlt, j, hj, hi, hc⟩ := hE
    exact hu a (.inl hlt) ha j hj (fun e => by omega) hi b hc
  have := (count_ext (hx.len.trans hy.len.symm) he).2 ⟨b, hyb, hb⟩
  omega
theorem Had.whole {ts : List ByteArray} (hr : rightB ts = true) {t : Nat} (ht : t < ts.length) {x : List Bool} (hx : Had ts t x) (h : Whole ts t x ∨ ts.length + 1 ≤ x.count true) : Whole ts t x := by
  rcases h with h | h
  · exact h
  · have := count_lt (m := ts.length) (x := x) fun j hj => (hx.rch j hj).lt hr ht
    omega
open Classical in
/-- The answer, as far as the first i types. -/
noncomputable def outL (ts : List ByteArray) (t i : Nat) : List Nat := t :: (List.range i).filter fun n => decide (n ≠ t ∧ Rch ts t n)
open Classical in
theorem out_keep {ts : List ByteArray} {t i : Nat} (h : i ≠ t ∧ Rch ts t i) : outL ts t (i + 1) = outL ts t i ++ [i] := by
  unfold outL
  rw [List.range_succ, List.filter_append]
  simp [h]
open Classical in
theorem out_drop {ts : List ByteArray} {t i : Nat} (h : ¬ (i ≠ t ∧ Rch ts t i)) : outL ts t (i + 1) = outL ts t i := by
  unfold outL
  rw [List.range_succ, List.filter_append]
  have e : ([i].filter fun n => decide (n ≠ t ∧ Rch ts t n)) = [] := by
    rw [List.filter_cons, decide_eq_false h]; rfl
  rw [e, List.append_nil]
open Classical in
theorem out_len (ts : List ByteArray) (t i : Nat) : (outL ts t i).length ≤ i + 1 := by
  unfold outL
  have := List.length_filter_le (fun n => decide (n ≠ t ∧ Rch ts t n)) (List.range i)
  simp only [List.length_cons, List.length_range] at this ⊢
  omega
theorem Had.iff {ts : List ByteArray} {t : Nat} {x : List Bool} (hx : Had ts t x) (hw : Whole ts t x) (j : Nat) : x[j]? = some true ↔ Rch ts t j := ⟨hx.rch j, hw j⟩

/-- The marks, in memory. -/
def hadW (w : World) (e : TypeId) (bs : List Bool) : World := w.alloc (.cells (bs.map Value.bool).toArray e)
theorem had_cell (w : World) (e : TypeId) {bs : List Bool} {j : Nat} {x : Bool} (h : bs[j]? = some x) : (hadW w e bs).cell? ⟨w.heap.size, j, none⟩ = some (.bool x) := by
  unfold hadW
  simp only [World.cell?, heap_alloc_new]
  simp [h]
theorem had_frozen (w : World) (e : TypeId) (bs : List Bool) (j : Nat) : (hadW w e bs).frozen? ⟨w.heap.size, j, none⟩ = false := by
  unfold hadW
  exact World.frozen?_alloc_new _ _ _ _
theorem had_below (w : World) (e : TypeId) (bs : List Bool) : Below w.heap.size w (hadW w e bs) := (Below.refl _ _).alloc (Nat.le_refl _) _
theorem had_size (w : World) (e : TypeId) (bs : List Bool) : (hadW w e bs).heap.size = w.heap.size + 1 := by simp [hadW]
theorem had_set (w : World) (e : TypeId) (bs : List Bool) (m : Nat) : (hadW w e bs).setCell ⟨w.heap.size, m, none⟩ (.bool true) = hadW w e (bs.set m true) := by
  unfold hadW
  rw [World.setCell_alloc_new]
  simp [List.map_set]
end Go.Proofs.Ytpeoecaamdiphaa
