/-
  Part of what may be left out, in plain lists.
-/
import Derived.Test.YtapjgobkpehgfaaGreatDoorUBM
namespace Go.Proofs.YtapjgobkpehgfaaGreatDoor
set_option linter.unusedSimpArgs false
set_option linter.unusedVariables false
open Go.RowKit

def mixF (b f : PFact) : PFact := ⟨b.st && f.st, b.ra && f.ra, b.pl && f.pl⟩
def mixL (best keep : List PFact) (k : Nat) : List PFact := (List.range best.length).map fun j => if j < k ∧ j < keep.length then mixF (best.getD j noFact) (keep.getD j noFact) else best.getD j noFact
section
variable {best keep part : List PFact} {k j : Nat}
theorem mixL_len : (mixL best keep k).length = best.length := by unfold mixL; simp
theorem mixL_get (h : j < best.length) : (mixL best keep k)[j]? = some (if j < k ∧ j < keep.length then mixF (best.getD j noFact) (keep.getD j noFact) else best.getD j noFact) := by
  unfold mixL
  rw [List.getElem?_map, List.getElem?_range h]; rfl
theorem getD_of {l : List PFact} {f : PFact} (h : l[k]? = some f) : l.getD k noFact = f := by rw [List.getD_eq_getElem?_getD, h]; rfl
theorem mixL_0 : mixL best keep 0 = best := by
  refine List.ext_getElem? fun j => ?_
  rcases Nat.lt_or_ge j best.length with h | h
  · rw [mixL_get h, if_neg (by omega), List.getD_eq_getElem?_getD, List.getElem?_eq_getElem h]; rfl
  · rw [List.getElem?_eq_none (by rw [mixL_len]; exact h), List.getElem?_eq_none h]
theorem mixL_skip (h : keep.length ≤ k) : mixL best keep (k + 1) = mixL best keep k := by
  refine List.ext_getElem? fun j => ?_
  rcases Nat.lt_or_ge j best.length with hj | hj
  · rw [mixL_get hj, mixL_get hj]
    by_cases h1 : j < k ∧ j < keep.length
    · rw [if_pos h1, if_pos ⟨by omega, h1.2⟩]
    · rw [if_neg h1, if_neg (by omega)]
  · rw [List.getElem?_eq_none (by rw [mixL_len]; exact hj), List.getElem?_eq_none (by rw [mixL_len]; exact hj)]
theorem mixL_here {f : PFact} (h : best[k]? = some f) : (mixL best keep k)[k]? = some f := by
  rw [mixL_get (List.getElem?_eq_some_iff.1 h).1, if_neg (by omega), getD_of h]
theorem mixL_next {b f : PFact} (hb : best[k]? = some b) (hf : keep[k]? = some f) : (mixL best keep k).set k (mixF b f) = mixL best keep (k + 1) := by
  have hkb := (List.getElem?_eq_some_iff.1 hb).1
  have hkf := (List.getElem?_eq_some_iff.1 hf).1
  refine List.ext_getElem? fun j => ?_
  rcases Nat.lt_or_ge j best.length with hj | hj
  · by_cases e : k = j
    · subst e
      rw [List.getElem?_set_self (by rw [mixL_len]; exact hj), mixL_get hj, if_pos ⟨by omega, hkf⟩, getD_of hb, getD_of hf]
    · rw [List.getElem?_set_ne e, mixL_get hj, mixL_get hj]
      by_cases h1 : j < k ∧ j < keep.length
      · rw [if_pos h1, if_pos ⟨by omega, h1.2⟩]
      · rw [if_neg h1, if_neg (by omega)]
  · rw [List.getElem?_eq_none (by rw [List.length_set, mixL_len]; exact hj), List.getElem?_eq_none (by rw [mixL_len]; exact hj)]
theorem leFact_mix (b f : PFact) : leFact (mixF b f) b = true := by unfold leFact mixF; rcases b with ⟨_ | _, _ | _, _ | _⟩ <;> rcases f with ⟨_ | _, _ | _, _ | _⟩ <;> rfl
theorem mixL_le (hj : j < best.length) : leFact ((mixL best keep k).getD j noFact) (best.getD j noFact) = true := by
  rw [getD_of (mixL_get hj)]
  split
  · exact leFact_mix _ _
  · exact leFact_refl _
theorem mixL_fits : fitsL (mixL best keep k) best = true := fits_iff.2 ⟨mixL_len, fun j hj => mixL_le (by rw [mixL_len] at hj; exact hj)⟩
def bitF (f : PFact) (t : Nat) : Bool := match t with
  | 0 => f.st
  | 1 => f.ra
  | _ => f.pl
theorem le_put {x b : PFact} (h : leFact x b = true) (t : Nat) : leFact (putF x t true) b = bitF b t := by
  revert h
  rcases t with _ | _ | t <;> (unfold leFact putF bitF; rcases b with ⟨_ | _, _ | _, _ | _⟩ <;> rcases x with ⟨_ | _, _ | _, _ | _⟩ <;> simp)
/-- One truth more. -/
theorem fits_more {f b : PFact} (hl : part.length = best.length) (hle : ∀ j, j < best.length → leFact (part.getD j noFact) (best.getD j noFact) = true) (hp : part[k]? = some f) (hb : best[k]? = some b) (t : Nat) : fitsL (part.set k (putF f t true)) best = bitF b t := by
  have hkb := (List.getElem?_eq_some_iff.1 hb).1
  have h0 := hle k hkb
  rw [getD_of hp, getD_of hb] at h0
  have h1 := le_put h0 t
  rcases hx : bitF b t with _ | _
  · rw [hx] at h1
    rcases hy : fitsL (part.set k (putF f t true)) best with _ | _
    · rfl
    · have h2 := (fits_iff.1 hy).2 k (by rw [List.length_set]; omega)
      rw [getD_of (List.getElem?_set_self (by omega)), getD_of hb, h1] at h2
      cases h2
  · rw [hx] at h1
    refine fits_iff.2 ⟨by rw [List.length_set]; exact hl, fun j hj => ?_⟩
    rw [List.length_set] at hj
    by_cases e : k = j
    · subst e
      rw [getD_of (List.getElem?_set_self hj), getD_of hb]; exact h1
    · rw [List.getD_eq_getElem?_getD, List.getElem?_set_ne e, ← List.getD_eq_getElem?_getD]
      exact hle j (by omega)
end
end Go.Proofs.YtapjgobkpehgfaaGreatDoor
