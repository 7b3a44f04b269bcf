/-
  Contracts: Need; the document's fixed answers.
-/
import Derived.Test.YtclkccbihnccgaaDoorHChk
namespace Go.Proofs.YtclkccbihnccgaaDoor
open Go.RowKit

theorem needTo_le6 (ts : List Bs) : ∀ k, 0 ≤ needTo ts k ∧ needTo ts k ≤ 6
  | 0 => ⟨Int.le_refl _, by show (0 : Int) ≤ 6; decide⟩
  | k + 1 => by
    have h1 := needTo_le6 ts k
    have h2 : 0 ≤ sizeP ts k ∧ sizeP ts k ≤ 6 := sizeI_le
    show 0 ≤ max (needTo ts k) (sizeP ts k) ∧ max (needTo ts k) (sizeP ts k) ≤ 6
    omega
set_option maxRecDepth 100000 in
set_option maxHeartbeats 1000000 in
theorem need_n (v : Value) (p : PProg) (z : Int) (w : World) (h : ProgAt w v p) (hs : OkP p) (hz : needI p.types = z) : Calls Tryd.prog 13 #[v] w (AggPost w (.int .i64 z)) := by
  obtain ⟨vt, vc, rfl, ht, hc⟩ := id h
  have hwb : Below w.heap.size w (w.alloc (.cells (progC vt p vc) 25)) := (Below.refl _ _).alloc (Nat.le_refl _) _
  have HK := Lib.hid (keep_new h)
  have HW := Lib.hid hwb
  have HT := Lib.hid ((keep_new h).ts hs)
  obtain ⟨x, c, rfl, g1, g2, -⟩ := id ht.elems
  obtain ⟨x', c', rfl, -, -, -⟩ := id hc
  have HZ : Hid (needTo p.types p.types.length = z) := Lib.hid hz
  unfold maxLen at g2
  clear h ht hc hs hwb hz
  go_enter Tryd.func13, Tryd.ntmps13
  go_wp2
  go_loop [3, 8] (fun u v => ∃ m : Nat, m ≤ p.types.length ∧ v = .int .i64 m ∧ u = .int .i64 (needTo p.types m)) (fun _ v => p.types.length - (intOf v).toNat)
  case atStart => exact ⟨0, Nat.zero_le _, rfl, rfl⟩
  case round =>
    obtain ⟨m, hm, rfl, rfl⟩ := hrel
    by_cases hlt : m < p.types.length
    · have hn := needTo_le6 p.types m
      have hs := sizeI_le (ts := tsP p.types) (t := (m : Int))
      have hx : needTo p.types (m + 1) = max (needTo p.types m) (sizeI (tsP p.types) m) := rfl
      have HX := Lib.hid hx
      generalize needTo p.types m = y at *
      generalize hz1 : sizeI (tsP p.types) m = z1 at *
      have HZ1 := Lib.hid hz1
      clear hx hz1
      by_cases hc : y < z1
      all_goals
        go_wp2_with (go_at_call 17; refine (ksize_n _ (tsP p.types) m z1 _ HT.out HZ1).mono ?_; rintro e w' ⟨rfl, rfl⟩)
        go_round
        case rel => exact ⟨m + 1, by omega, by go_num, by rw [HX.out]; congr 1; try omega⟩
        case measure => simp [intOf]; omega
    · obtain rfl : m = p.types.length := by omega
      go_wp2
      go_ret
      exact ⟨ret_int HZ.out, HW.out⟩
end Go.Proofs.YtclkccbihnccgaaDoor
