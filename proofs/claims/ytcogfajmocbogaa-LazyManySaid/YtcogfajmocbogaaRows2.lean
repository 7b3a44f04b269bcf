/-
  A slice that came in, opened: it has no elements, or it lies at a plain address below the heap's size, and each element's cell is known.
-/
import Derived.Test.YtcogfajmocbogaaBlocks
import Derived.OpenShut
import Derived.ProofKit
import Derived.Deep.Slices
namespace Go.Proofs.Ytcogfajmocbogaa
open Go.RowKit

theorem cell_lt {w : World} {a : Addr} {v : Value} (h : w.cell? a = some v) : a.block < w.heap.size := by
  rcases Nat.lt_or_ge a.block w.heap.size with h' | h'
  · exact h'
  · simp [World.cell?, Array.getElem?_eq_none h'] at h

/-- What is known of a slice of integers that came in. -/
def Ints (k : IntKind) (w : World) (a : Option Addr) (len cap : Nat) (zs : List Int) : Prop :=
  (a = none ∧ len = 0 ∧ cap = 0 ∧ zs = []) ∨
  ∃ x, a = some x ∧ len ≤ cap ∧ cap ≤ maxLen ∧ zs.length = cap ∧ (∀ i, i < zs.length → w.cell? (x.add i) = some (.int k (zs.getD i 0))) ∧ ∀ n ∈ zs, (Lit.int k n).wf = true

theorem Ints.cases {k : IntKind} {w : World} {a : Option Addr} {len cap : Nat} {zs : List Int} (h : Ints k w a len cap zs) :
    len = 0 ∨ ∃ b off, a = some ⟨b, off, none⟩ ∧ b < w.heap.size ∧ 0 < len ∧ len ≤ cap ∧ cap ≤ maxLen ∧ (∀ i, i < len → w.cell? ⟨b, off + i, none⟩ = some (.int k (zs.getD i 0))) ∧ ∀ i, i < len → (Lit.int k (zs.getD i 0)).wf = true := by
  rcases h with ⟨_, h0, _⟩ | ⟨x, rfl, h1, h2, h3, h4, h5⟩
  · exact .inl h0
  · rcases Nat.eq_zero_or_pos len with h0 | h0
    · exact .inl h0
    · obtain ⟨b, off, rfl, hc⟩ := ints_at h4 (by omega)
      refine .inr ⟨b, off, rfl, ?_, h0, h1, h2, fun i hi => hc i (by omega), fun i hi => ?_⟩
      · have := hc 0 (by omega)
        exact cell_lt this
      · have hl : i < zs.length := by omega
        have : zs.getD i 0 = zs[i] := by simp [List.getD, hl]
        rw [this]
        exact h5 _ (List.getElem_mem hl)

theorem plain_add {b off i : Nat} : (⟨b, off, none⟩ : Addr).add i = ⟨b, off + i, none⟩ := by
  unfold Addr.add
  by_cases h : i = 0 <;> simp [h]

section
variable {H : Type} {enc : TypeId × Value → H} {P : Program} {w : World} {base : Nat} {spare : Nat → Bool} {held : Bool}

/-- A slice of whatever elements: it has none, or it lies at a plain address, and each element is so many cells that read as a datum. -/
theorem open_plain {t e : TypeId} {a : Option Addr} {len cap : Nat} {d : DataW H} {ps : List MemPlace} (ht : P.underlying t = some (.slice e)) (hpos : 0 < P.cellsOf e)
    (h : DataW.Trod enc P w base spare held t (.slice a len cap) d ps) :
    len = 0 ∨ ∃ b off, a = some ⟨b, off, none⟩ ∧ b < w.heap.size ∧ 0 < len ∧ len ≤ cap ∧ cap ≤ maxLen ∧
      ∀ i, i < len → ∃ (cs : List Value) (n : Nat) (y : DataW H × List MemPlace), cs.length = P.cellsOf e ∧ (∀ j, j < P.cellsOf e → w.cell? ⟨b, off + (i * P.cellsOf e + j), none⟩ = cs[j]?) ∧ DataW.trod enc P w base spare held n e cs = some y := by
  obtain ⟨fuel, hf⟩ := h
  rcases Go.Deep.open_slice ht hf with ⟨hcs, _⟩ | ⟨x, l, c, m, n, D, Pl, hcs, _, hl, hm, hmm, _, hi⟩
  · simp [Value.cells] at hcs
    exact .inl hcs.2.1
  · simp [Value.cells] at hcs
    obtain ⟨rfl, rfl, rfl⟩ := hcs
    rcases Nat.eq_zero_or_pos len with h0 | h0
    · exact .inl h0
    · have hlm : len ≤ m := by rw [hmm]; split <;> omega
      have hspot : x.spot = none := by
        obtain ⟨cs', hc, _⟩ := hi 0 (by omega)
        obtain ⟨_, hcl, hat⟩ := World.cells?_some hc
        have h1 := hat 0 hpos
        rw [List.getElem?_eq_getElem (by omega)] at h1
        have hx : (x.add (0 * P.cellsOf e)).add 0 = x := by simp [Addr.add]
        rw [hx] at h1
        obtain ⟨_, _, _, _, h4⟩ := World.shape?_of_cell? h1
        exact h4
      obtain ⟨b, off, sp⟩ := x
      dsimp only at hspot
      subst hspot
      have each : ∀ i, i < len → ∃ (cs : List Value) (n : Nat) (y : DataW H × List MemPlace), cs.length = P.cellsOf e ∧ (∀ j, j < P.cellsOf e → w.cell? ⟨b, off + (i * P.cellsOf e + j), none⟩ = cs[j]?) ∧ DataW.trod enc P w base spare held n e cs = some y := by
        intro i hlt
        obtain ⟨cs', hc, hy⟩ := hi i (by omega)
        obtain ⟨_, hcl, hat⟩ := World.cells?_some hc
        refine ⟨cs', n, _, hcl, fun j hj => ?_, hy⟩
        have h1 := hat j hj
        rw [plain_add, plain_add, Nat.add_assoc] at h1
        exact h1
      refine .inr ⟨b, off, rfl, ?_, h0, hl, hm, each⟩
      obtain ⟨cs, _, _, hcl, hat, _⟩ := each 0 h0
      have h1 := hat 0 hpos
      rw [List.getElem?_eq_getElem (by omega)] at h1
      exact cell_lt h1

/-- A slice of bools. -/
theorem open_bools {t e : TypeId} {a : Option Addr} {len cap : Nat} {d : DataW H} {ps : List MemPlace} (ht : P.underlying t = some (.slice e)) (he : P.underlying e = some .bool) (hc : P.cellsOf e = 1)
    (h : DataW.Trod enc P w base spare held t (.slice a len cap) d ps) :
    len = 0 ∨ ∃ b off, a = some ⟨b, off, none⟩ ∧ b < w.heap.size ∧ 0 < len ∧ len ≤ cap ∧ cap ≤ maxLen ∧ ∀ i, i < len → ∃ x : Bool, w.cell? ⟨b, off + i, none⟩ = some (.bool x) := by
  rcases open_plain ht (by omega) h with h0 | ⟨b, off, h1, h2, h3, h4, h5, hi⟩
  · exact .inl h0
  · refine .inr ⟨b, off, h1, h2, h3, h4, h5, fun i hlt => ?_⟩
    obtain ⟨cs, n, y, hl, hat, hy⟩ := hi i hlt
    obtain ⟨x, rfl, _⟩ := DataW.trod_bool he hy
    have := hat 0 (by omega)
    rw [hc] at this
    exact ⟨x, by simpa using this⟩
end
end Go.Proofs.Ytcogfajmocbogaa
