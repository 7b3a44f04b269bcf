/-
  LazyCounts: a count answers every call, in every order, as the document says.
-/
import Derived.Test.YtcogfajmocbogaaAlive
import Derived.Test.YtcogfajmocbogaaRows2
import Derived.Deep.QuietTactic
import Derived.BigQuiet
namespace Go.Proofs.Ytcogfajmocbogaa
open Go.RowKit

theorem below_draws {B : Nat} {a w : World} (h : Below B a w) (n : Nat) : Below B a (w.drewN n) := ⟨h.os, h.tape, h.output, h.size, h.block⟩

/-! ### a count in a block of its own -/
theorem cadd_b (C : Nat) (n d : Int) (w : World) (h : w.heap[C]? = some (.cells #[.int .i64 n] 30 (0, 0))) :
    Calls Try.prog 14 #[.pointer (some ⟨C, 0, none⟩), .int .i64 d] w fun e w' => e = .returned (.int .i64 (wrap64 (n + d))) ∧ Only C w w' ∧ w'.heap[C]? = some (.cells #[.int .i64 (wrap64 (n + d))] 30 (0, 0)) :=
  (cadd ⟨C, 0, none⟩ n d w (blk_cell h rfl) (blk_free h)).mono fun _ _ ⟨he, hw⟩ => ⟨he, by rw [hw]; exact (Only.refl _ _).setCell 0 _, by rw [hw]; exact blk_set (i := 0) _ h⟩
theorem cswap_b (C : Nat) (n d : Int) (w : World) (h : w.heap[C]? = some (.cells #[.int .i64 n] 30 (0, 0))) :
    Calls Try.prog 15 #[.pointer (some ⟨C, 0, none⟩), .int .i64 d] w fun e w' => e = .returned (.int .i64 n) ∧ Only C w w' ∧ w'.heap[C]? = some (.cells #[.int .i64 d] 30 (0, 0)) :=
  (cswap ⟨C, 0, none⟩ n d w (blk_cell h rfl) (blk_free h)).mono fun _ _ ⟨he, hw⟩ => ⟨he, by rw [hw]; exact (Only.refl _ _).setCell 0 _, by rw [hw]; exact blk_set (i := 0) _ h⟩
theorem ctry_hit_b (C : Nat) (n d : Int) (w : World) (h : w.heap[C]? = some (.cells #[.int .i64 n] 30 (0, 0))) :
    Calls Try.prog 16 #[.pointer (some ⟨C, 0, none⟩), .int .i64 n, .int .i64 d] w fun e w' => e = .returned (.bool true) ∧ Only C w w' ∧ w'.heap[C]? = some (.cells #[.int .i64 d] 30 (0, 0)) :=
  (ctry_hit ⟨C, 0, none⟩ n d w (blk_cell h rfl) (blk_free h)).mono fun _ _ ⟨he, hw⟩ => ⟨he, by rw [hw]; exact (Only.refl _ _).setCell 0 _, by rw [hw]; exact blk_set (i := 0) _ h⟩
theorem cmax_turn_b (C : Nat) (n d : Int) (w : World) (h : w.heap[C]? = some (.cells #[.int .i64 n] 30 (0, 0))) (hle : ¬ d ≤ n) :
    Calls Try.prog 17 #[.pointer (some ⟨C, 0, none⟩), .int .i64 d] w fun e w' => e = .returned (.int .i64 d) ∧ Only C w w' ∧ w'.heap[C]? = some (.cells #[.int .i64 d] 30 (0, 0)) :=
  (cmax_turn ⟨C, 0, none⟩ n d w (blk_cell h rfl) (blk_free h) hle).mono fun _ _ ⟨he, hw⟩ => ⟨he, by rw [hw]; exact (Only.refl _ _).setCell 0 _, by rw [hw]; exact blk_set (i := 0) _ h⟩
theorem cget_b (C : Nat) (n : Int) (w : World) (h : w.heap[C]? = some (.cells #[.int .i64 n] 30 (0, 0))) :
    Calls Try.prog 18 #[.pointer (some ⟨C, 0, none⟩)] w fun e w' => e = .returned (.int .i64 n) ∧ w = w' := cget ⟨C, 0, none⟩ n w (blk_cell h rfl)

/-! ### the document's own answer, by the kind of the call -/
set_option maxRecDepth 100000 in
theorem ref0 (n a b : Int) (w : World) : Calls Try.prog 13 #[.int .i64 n, .agg #[.int .i64 0, .int .i64 a, .int .i64 b]] w fun e w' => e = .returned (.tuple #[.int .i64 (wrap64 (n + a)), .int .i64 (wrap64 (n + a)), .bool false]) ∧ Below w.heap.size w w' := by
  go_enter Try.func13, Try.ntmps13
  go_wp2
  go_quiet (fail)
  go_wp2
  go_ret3
  exact ⟨rfl, below_draws ((Below.refl _ _).alloc (Nat.le_refl _) _) _⟩
set_option maxRecDepth 100000 in
theorem ref1 (n a b : Int) (w : World) : Calls Try.prog 13 #[.int .i64 n, .agg #[.int .i64 1, .int .i64 a, .int .i64 b]] w fun e w' => e = .returned (.tuple #[.int .i64 a, .int .i64 n, .bool false]) ∧ Below w.heap.size w w' := by
  go_enter Try.func13, Try.ntmps13
  go_wp2
  go_ret3
  exact ⟨rfl, (Below.refl _ _).alloc (Nat.le_refl _) _⟩
set_option maxRecDepth 100000 in
theorem ref2 (n b : Int) (w : World) : Calls Try.prog 13 #[.int .i64 n, .agg #[.int .i64 2, .int .i64 n, .int .i64 b]] w fun e w' => e = .returned (.tuple #[.int .i64 b, .int .i64 0, .bool true]) ∧ Below w.heap.size w w' := by
  go_enter Try.func13, Try.ntmps13
  go_wp2
  go_ret3
  exact ⟨rfl, (Below.refl _ _).alloc (Nat.le_refl _) _⟩
set_option maxRecDepth 100000 in
theorem ref2n (n a b : Int) (h : (n == a) = false) (w : World) : Calls Try.prog 13 #[.int .i64 n, .agg #[.int .i64 2, .int .i64 a, .int .i64 b]] w fun e w' => e = .returned (.tuple #[.int .i64 n, .int .i64 0, .bool false]) ∧ Below w.heap.size w w' := by
  go_enter Try.func13, Try.ntmps13
  go_wp2
  go_ret3
  exact ⟨rfl, (Below.refl _ _).alloc (Nat.le_refl _) _⟩
set_option maxRecDepth 100000 in
theorem ref3 (n a b : Int) (h : a ≤ n) (w : World) : Calls Try.prog 13 #[.int .i64 n, .agg #[.int .i64 3, .int .i64 a, .int .i64 b]] w fun e w' => e = .returned (.tuple #[.int .i64 n, .int .i64 n, .bool false]) ∧ Below w.heap.size w w' := by
  go_enter Try.func13, Try.ntmps13
  go_wp2
  go_ret3
  exact ⟨rfl, (Below.refl _ _).alloc (Nat.le_refl _) _⟩
set_option maxRecDepth 100000 in
theorem ref3n (n a b : Int) (h : ¬ a ≤ n) (w : World) : Calls Try.prog 13 #[.int .i64 n, .agg #[.int .i64 3, .int .i64 a, .int .i64 b]] w fun e w' => e = .returned (.tuple #[.int .i64 a, .int .i64 a, .bool false]) ∧ Below w.heap.size w w' := by
  go_enter Try.func13, Try.ntmps13
  go_wp2
  go_ret3
  exact ⟨rfl, (Below.refl _ _).alloc (Nat.le_refl _) _⟩
set_option maxRecDepth 100000 in
theorem ref4 (n a b : Int) (w : World) : Calls Try.prog 13 #[.int .i64 n, .agg #[.int .i64 4, .int .i64 a, .int .i64 b]] w fun e w' => e = .returned (.tuple #[.int .i64 n, .int .i64 n, .bool false]) ∧ Below w.heap.size w w' := by
  go_enter Try.func13, Try.ntmps13
  go_wp2
  go_ret3
  exact ⟨rfl, (Below.refl _ _).alloc (Nat.le_refl _) _⟩
end Go.Proofs.Ytcogfajmocbogaa
