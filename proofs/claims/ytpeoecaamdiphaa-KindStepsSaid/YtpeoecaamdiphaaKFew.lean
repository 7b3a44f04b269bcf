/-
  The contract of few.
-/
import Derived.Test.YtpeoecaamdiphaaKOne
namespace Go.Proofs.Ytpeoecaamdiphaa
open Go.RowKit

def fewB (ts : List ByteArray) : Bool := decide (ts.length ≤ 20 ∧ ∀ t, t < ts.length → (ty ts t).size ≤ 50)
theorem few_no {ts : List ByteArray} {t : Nat} (ht : t < ts.length) (h : 50 < (ty ts t).size) : fewB ts = false := by
  unfold fewB
  rw [decide_eq_false_iff_not]
  intro h'
  have := h'.2 t ht
  omega
set_option maxHeartbeats 1000000 in
theorem few_any (v : Value) (ts : List ByteArray) (w : World) (h : TsAt w v ts) : Calls Try.prog 11 #[v] w fun e w' => e = .returned (.bool (fewB ts)) ∧ w = w' := by
  obtain ⟨a, c, rfl, h1, h2, h3⟩ := h.cases
  clear h
  rcases h3 with rfl | ⟨b, o, rfl, hb, hc⟩
  · go_enter Try.func11, Try.ntmps11
    go_wp2
    go_loop [7] (fun i => i = .int .i64 0) (fun _ => 0)
    case atStart => rfl
    case round =>
      subst hrel
      go_wp2
      go_ret
      exact ⟨rfl, rfl⟩
  have HC := Lib.hid hc
  clear hc
  go_enter Try.func11, Try.ntmps11
  go_wp2
  go_loop [7] (fun i => ∃ k : Nat, k ≤ ts.length ∧ i = .int .i64 k ∧ Hid (∀ j, j < k → (ty ts j).size ≤ 50)) (fun i => ts.length - (intOf i).toNat)
  case atStart => exact ⟨0, Nat.zero_le _, rfl, Lib.hid none_yet⟩
  case round =>
    obtain ⟨k, hk, rfl, hok⟩ := hrel
    by_cases hlt : k < ts.length
    · obtain ⟨hx, hsx⟩ := HC.out k hlt
      generalize hs : ty ts k = s at hx hsx
      have HS := Lib.hid hs
      clear hs
      by_cases hg : 50 < s.size
      · go_wp2
        go_ret
        exact ⟨ret_bool (few_no hlt (by rw [HS.out]; exact hg)).symm, rfl⟩
      · go_wp2
        go_round
        case rel => exact ⟨k + 1, by omega, by go_num, Lib.hid (all_next hok.out (by rw [HS.out]; omega))⟩
        case measure => simp [intOf]; omega
    · go_wp2
      go_ret
      refine ⟨ret_bool ?_, rfl⟩
      unfold fewB
      rw [decide_eq_decide]
      constructor
      · intro h; exact ⟨by omega, fun t ht => hok.out t (by omega)⟩
      · intro h; omega
theorem few_t (v : Value) (ts : List ByteArray) (w : World) (h : TsAt w v ts) (hf : Hid (fewB ts = true)) : Calls Try.prog 11 #[v] w fun e w' => e = .returned (.bool true) ∧ w = w' :=
  (few_any v ts w h).mono fun e w' ⟨h1, h2⟩ => ⟨by rw [h1, hf.out], h2⟩
theorem few_f (v : Value) (ts : List ByteArray) (w : World) (h : TsAt w v ts) (hf : Hid (fewB ts = false)) : Calls Try.prog 11 #[v] w fun e w' => e = .returned (.bool false) ∧ w = w' :=
  (few_any v ts w h).mono fun e w' ⟨h1, h2⟩ => ⟨by rw [h1, hf.out], h2⟩
theorem few_iff {ts : List ByteArray} : fewB ts = true ↔ ts.length ≤ 20 ∧ ∀ t, t < ts.length → (ty ts t).size ≤ 50 := by simp [fewB]
end Go.Proofs.Ytpeoecaamdiphaa
