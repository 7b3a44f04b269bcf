/-
  KindSteps: the closure; what is known of the types that one comes to.
-/
import Derived.Test.YtpeoecaamdiphaaKLaw1
namespace Go.Proofs.Ytpeoecaamdiphaa
open Go.RowKit

set_option maxHeartbeats 1000000 in
theorem clos_t (p g c : Nat) (xs : List Nat) (x : Nat) (w : World) (hp : w.cell? ⟨p, 0, none⟩ = some (.slice (some ⟨g, 0, none⟩) xs.length c)) (hl : xs.length ≤ 8) (h1 : xs.length ≤ c) (h2 : c ≤ 9223372036854775807)
    (hc : Hid (∀ j y : Nat, xs[j]? = some y → w.cell? ⟨g, j, none⟩ = some (.int .i64 (y : Int)))) (hm : Hid (x ∈ xs)) :
    Calls Try.prog 25 #[.int .i64 (x : Int), .pointer (some ⟨p, 0, none⟩)] w fun e w' => e = .returned (.bool true) ∧ w = w' := by
  go_enter Try.func25, Try.ntmps25
  go_wp2
  go_loop [8] (fun i => ∃ k : Nat, k ≤ xs.length ∧ i = .int .i64 k ∧ Hid (∀ j : Nat, j < k → xs[j]? ≠ some x)) (fun i => xs.length - (intOf i).toNat)
  case atStart => exact ⟨0, Nat.zero_le _, rfl, Lib.hid (fun j hj => absurd hj (Nat.not_lt_zero j))⟩
  case round =>
    obtain ⟨k, hk, rfl, hN⟩ := hrel
    by_cases hlt : k < xs.length
    · have hx : xs[k]? = some xs[k] := List.getElem?_eq_getElem hlt
      have hck := hc.out k _ hx
      generalize hy : xs[k] = y at hx hck
      have HX := Lib.hid hx
      clear hy hx
      by_cases hxy : y = x
      · have e1 : (((y : Nat) : Int) == ((x : Nat) : Int)) = true := by rw [hxy]; simp
        clear hxy
        go_wp2
        go_ret
        exact ⟨rfl, rfl⟩
      · have e1 : (((y : Nat) : Int) == ((x : Nat) : Int)) = false := by simp; omega
        have HXY := Lib.hid hxy
        clear hxy
        go_wp2
        go_round
        case rel => exact ⟨k + 1, by omega, by go_num, Lib.hid (all_next hN.out (by rw [HX.out]; intro h; exact HXY.out (Option.some.inj h)))⟩
        case measure => (simp [intOf] <;> omega)
    · exfalso
      obtain ⟨j, hj⟩ := List.getElem?_of_mem hm.out
      exact hN.out j (by have := (List.getElem?_eq_some_iff.1 hj).1; omega) hj

/-- What is known of the types that one comes to. -/
structure Steps (ts : List ByteArray) (t : Nat) (L : List Nat) : Prop where
  len : L.length ≤ 8
  pos : 0 < L.length
  first : L[0]? = some t
  lt : ∀ n ∈ L, n < ts.length
  rise : ∀ (i x y : Nat), 1 ≤ i → L[i]? = some x → L[i + 1]? = some y → x < y
  edge : ∀ n ∈ L, ∀ m, Edge ts n m → m ∈ L
  all : ∀ n ∈ L, ∀ m ∈ reachL ts n, m ∈ L
theorem steps_of {ts : List ByteArray} (hr : rightB ts = true) {t : Nat} (ht : t < ts.length) : Steps ts t (reachL ts t) := by
  have hm := fun n => mem_reach hr ht (n := n)
  have hlt : ∀ n ∈ reachL ts t, n < ts.length := fun n hn => ((hm n).1 hn).lt hr ht
  refine ⟨?_, by unfold reachL; simp, by unfold reachL; rfl, hlt, ?_, ?_, ?_⟩
  · have h1 : (reachL ts t).Nodup := by
      have h2 := reach_tail_rising ts t
      have e : reachL ts t = t :: (reachL ts t).tail := by unfold reachL; rfl
      rw [e, List.nodup_cons]
      refine ⟨?_, h2.imp (fun h => by omega)⟩
      unfold reachL
      intro hmem
      have := (List.mem_filter.1 hmem).2
      simp at this
    exact Nat.le_trans (nodup_len h1 hlt) (right_len hr).2
  · intro i x y hi hx hy
    have h2 := reach_tail_rising ts t
    obtain ⟨j, rfl⟩ : ∃ j, i = j + 1 := ⟨i - 1, by omega⟩
    have hx' : (reachL ts t).tail[j]? = some x := by rw [List.getElem?_tail]; exact hx
    have hy' : (reachL ts t).tail[j + 1]? = some y := by rw [List.getElem?_tail]; exact hy
    obtain ⟨h3, rfl⟩ := List.getElem?_eq_some_iff.1 hx'
    obtain ⟨h4, rfl⟩ := List.getElem?_eq_some_iff.1 hy'
    exact List.pairwise_iff_getElem.1 h2 j (j + 1) h3 h4 (by omega)
  · intro n hn m hE
    exact (hm m).2 (((hm n).1 hn).more hE)
  · intro n hn m hmm
    exact (hm m).2 (((hm n).1 hn).trans ((mem_reach hr (hlt n hn)).1 hmm))
end Go.Proofs.Ytpeoecaamdiphaa
