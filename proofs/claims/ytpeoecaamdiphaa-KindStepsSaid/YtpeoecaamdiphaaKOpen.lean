/-
  Types that came in, opened; two numbers that came in.
-/
import Derived.Test.YtpeoecaamdiphaaKRow
import Derived.OpenShut
import Derived.ProofKit
import Derived.ShutString
import Derived.Deep.Strs
namespace Go.Proofs.Ytpeoecaamdiphaa
open Go.RowKit

section
variable {H : Type} {enc : TypeId × Value → H} {w : World} {base : Nat} {spare : Nat → Bool} {held : Bool}
theorem plain_add {b off i : Nat} : (⟨b, off, none⟩ : Addr).add i = ⟨b, off + i, none⟩ := by
  unfold Addr.add
  by_cases h : i = 0 <;> simp [h]
theorem open_types {a : Option Addr} {len cap : Nat} {d : DataW H} {ps : List MemPlace} (h : DataW.Trod enc Try.prog w base spare held 22 (.slice a len cap) d ps) : ∃ ts, TsAt w (.slice a len cap) ts := by
  obtain ⟨fuel, hf⟩ := h
  rcases Go.Deep.open_strs Try.underlying22 Try.underlying9 (by kernel_rfl) hf with ⟨hcs, _⟩ | ⟨x, l, c, m, Sx, hcs, _, hl, hm, hmm, _, hx⟩
  · simp [Value.cells] at hcs
    obtain ⟨rfl, rfl, rfl⟩ := hcs
    exact ⟨[], ⟨none, 0, rfl, Nat.le_refl _, Nat.zero_le _, .inl rfl⟩, fun s hs => by simp at hs⟩
  · simp [Value.cells] at hcs
    obtain ⟨rfl, rfl, rfl⟩ := hcs
    rcases Nat.eq_zero_or_pos len with h0 | h0
    · subst h0
      exact ⟨[], ⟨some x, cap, rfl, Nat.zero_le _, hm, .inl rfl⟩, fun s hs => by simp at hs⟩
    · have hlm : len ≤ m := by rw [hmm]; split <;> omega
      have h1 := (hx 0 (by omega)).1
      have hspot : x.spot = none := by
        rw [show x.add 0 = x by simp [Addr.add]] at h1
        obtain ⟨_, _, _, _, h4⟩ := World.shape?_of_cell? h1
        exact h4
      obtain ⟨b, off, sp⟩ := x
      dsimp only at hspot
      subst hspot
      rw [plain_add] at h1
      have hlen : (((List.range len).map Sx).map Value.string).length = len := by simp
      refine ⟨(List.range len).map Sx, ⟨some ⟨b, off, none⟩, cap, by rw [hlen], by rw [hlen]; exact hl, hm, .inr ⟨b, off, rfl, World.block_lt_of_cell? _ _ h1, fun j u hu => ?_⟩⟩, fun s hs => ?_⟩
      · have hj : j < len := by
          have := (List.getElem?_eq_some_iff.1 hu).1
          rw [hlen] at this; exact this
        have h2 := (hx j (by omega)).1
        rw [plain_add] at h2
        rw [h2]
        simp [hj] at hu
        rw [hu]
      · obtain ⟨j, hj, rfl⟩ := List.mem_map.1 hs
        have := (hx j (by have := List.mem_range.1 hj; omega)).2
        unfold maxLen at this
        omega
theorem cellsI : Try.prog.cellsOf 3 = 1 := by kernel_rfl
theorem cells2 : Try.prog.cellsOf 23 = 2 := by kernel_rfl
theorem open_two {r : Reach} {v : Value} {d : DataW H} {ps : List MemPlace} (hv : Value.okWide Try.prog w r base 23 v) (h : DataW.Trod enc Try.prog w 0 spare held 23 v d ps) : ∃ x y : Int, v = .agg #[.int .i64 x, .int .i64 y] := by
  unfold Value.okWide at hv
  rw [Try.underlying23] at hv
  obtain ⟨cs, rfl, hsz, _⟩ := hv
  rw [cells2] at hsz
  obtain ⟨l⟩ := cs
  match l, hsz with
  | [c0, c1], _ =>
    obtain ⟨fuel, hf⟩ := h
    obtain ⟨xs, m, _, _, _, hlen, hi⟩ := DataW.trod_array Try.underlying23 hf
    have i0 := hi 0 (by omega)
    have i1 := hi 1 (by omega)
    rw [cellsI] at i0 i1
    rw [List.getElem?_eq_getElem (by omega)] at i0 i1
    obtain ⟨x0, e0, _, _⟩ := DataW.trod_int Try.underlying3 i0
    obtain ⟨x1, e1, _, _⟩ := DataW.trod_int Try.underlying3 i1
    simp [Value.cells] at e0 e1
    exact ⟨x0, x1, by rw [e0, e1]⟩
end
end Go.Proofs.Ytpeoecaamdiphaa
