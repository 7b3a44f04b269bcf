/-
  Contracts: letters and digits; whether types may be (the program's and the document's).
-/
import Derived.Test.YtcenjphpdgadmaaDoorBRow
namespace Go.Proofs.YtcenjphpdgadmaaDoor
set_option linter.unusedSimpArgs false
set_option linter.unusedVariables false
open Go.RowKit

/-- The document's digit: the type that a letter names; -1: it names none. -/
theorem rdig_t (c n : Nat) (w : World) (hc : c < 256) (hn : n ≤ 9223372036854775807) (h : Hid (digB n c = true)) : Calls Tryd.prog 40 #[.int .u8 c, .int .i64 n] w fun e w' => e = .returned (.int .i64 ((c : Int) - 48)) ∧ w = w' := by
  have h1 := (dig_iff.1 h.out).1
  have h2 := (dig_iff.1 h.out).2
  clear h
  have h3 : ¬ c < 48 := by omega
  have h4 : ¬ (n : Int) ≤ (c : Int) - 48 := by omega
  go_enter Tryd.func40, Tryd.ntmps40
  go_wp2
  go_ret
  exact ⟨rfl, rfl⟩
theorem rdig_f (c n : Nat) (w : World) (hc : c < 256) (hn : n ≤ 9223372036854775807) (h : Hid (digB n c = false)) : Calls Tryd.prog 40 #[.int .u8 c, .int .i64 n] w fun e w' => e = .returned (.int .i64 (-1)) ∧ w = w' := by
  have h1 := dig_no.1 h.out
  clear h
  by_cases h0 : 48 ≤ c
  · have h3 : ¬ c < 48 := by omega
    have h4 : (n : Int) ≤ (c : Int) - 48 := by omega
    clear h1
    go_enter Tryd.func40, Tryd.ntmps40
    go_wp2
    go_ret
    exact ⟨rfl, rfl⟩
  · have h3 : c < 48 := by omega
    clear h1
    go_enter Tryd.func40, Tryd.ntmps40
    go_wp2
    go_ret
    exact ⟨rfl, rfl⟩

theorem all_next {P : Nat → Prop} {k : Nat} (h : ∀ j, j < k → P j) (hk : P k) : ∀ j, j < k + 1 → P j := by
  intro j hj
  rcases Nat.lt_or_ge j k with h1 | h1
  · exact h j h1
  · obtain rfl : j = k := by omega
    exact hk
theorem none_yet {P : Nat → Prop} : ∀ j, j < 0 → P j := fun j hj => absurd hj (by omega)

end Go.Proofs.YtcenjphpdgadmaaDoor
