/-
  LazyMost: the greatest of what a count is told, and of 0, is what it is in the end, whatever the numbers.
-/
import Derived.Test.YtcogfajmocbogaaAlive
import Derived.Test.YtcogfajmocbogaaRows2
namespace Go.Proofs.Ytcogfajmocbogaa
open Go.RowKit

theorem cmax_turn_new (n d : Int) (hle : ¬ d ≤ n) (w : World) :
    Calls Try.prog 17 #[.pointer (some ⟨w.heap.size, 0, none⟩), .int .i64 d] (w.alloc (.cells #[.int .i64 n] 30)) fun e w' => e = .returned (.int .i64 d) ∧ w' = w.alloc (.cells #[.int .i64 d] 30) :=
  (cmax_turn _ n d _ (cell_new _ _ _) (free_new _ _ _) hle).mono fun _ _ ⟨he, hw⟩ => ⟨he, by rw [hw, set_new]⟩

set_option maxRecDepth 100000 in
set_option maxHeartbeats 1600000 in
theorem most_none (a0 : Option Addr) (cap : Nat) (w : World) :
    Calls Try.prog 7 #[.slice a0 0 cap] w fun e w' => e = .returned (.bool true) ∧ Below w.heap.size w w' := by
  have hnot : ∀ (x : Bool) (w : World), (Op.unary .not (.bool x)).run Try.prog w = .ok (.bool (!x)) w := fun _ _ => rfl
  go_enter Try.func7, Try.ntmps7
  go_wp2_with (go_at_call 12; refine (alive_true w).mono ?_; rintro e w1 ⟨rfl, hbel⟩; have HBEL := Lib.hid hbel; clear hbel)
  refine wp_loop_rounds 1 ?_
  rw [rounds_succ]
  go_wp2
  go_ret
  exact ⟨rfl, HBEL.out.alloc HBEL.out.size _⟩

set_option maxRecDepth 100000 in
set_option maxHeartbeats 1600000 in
theorem most_some (b off len cap : Nat) (zs : List Int) (w : World) (hb : b < w.heap.size) (hlen : 0 < len) (hle : len ≤ cap) (hmax : cap ≤ maxLen)
    (hc : ∀ i, i < len → w.cell? ⟨b, off + i, none⟩ = some (.int .i64 (zs.getD i 0))) :
    Calls Try.prog 7 #[.slice (some ⟨b, off, none⟩) len cap] w fun e w' => e = .returned (.bool true) ∧ Below w.heap.size w w' := by
  unfold maxLen at hmax
  have hnot : ∀ (x : Bool) (w : World), (Op.unary .not (.bool x)).run Try.prog w = .ok (.bool (!x)) w := fun _ _ => rfl
  have HC := Lib.hid hc
  clear hc
  by_cases h100 : 100 < len
  · go_enter Try.func7, Try.ntmps7
    go_wp2_with (go_at_call 12; refine (alive_true w).mono ?_; rintro e w1 ⟨rfl, hbel⟩; have HBEL := Lib.hid hbel; clear hbel)
    go_ret
    exact ⟨rfl, HBEL.out.alloc HBEL.out.size _⟩
  · go_enter Try.func7, Try.ntmps7
    go_wp2_with (go_at_call 12; refine (alive_true w).mono ?_; rintro e w1 ⟨rfl, hbel⟩; have HBEL := Lib.hid hbel; clear hbel)
    have hb1 : b < w1.heap.size := Nat.lt_of_lt_of_le hb HBEL.out.size
    go_loopw [4, 14] (fun m i wr => ∃ (k : Nat) (x : Int), k ≤ len ∧ i = .int .i64 k ∧ m = .int .i64 x ∧ wr = w1.alloc (.cells #[.int .i64 x] 30)) (fun _ i _ => len - (intOf i).toNat)
    case atStart => exact ⟨0, 0, Nat.zero_le _, rfl, rfl, rfl⟩
    case round =>
      obtain ⟨k, x, hk, rfl, rfl, rfl⟩ := hrel
      by_cases hlt : k < len
      · have hcell : (w1.alloc (.cells #[.int .i64 x] 30)).cell? ⟨b, off + k, none⟩ = some (.int .i64 (zs.getD k 0)) := by
          rw [World.cell?_alloc_past _ _ _ hb1, HBEL.out.cell hb]; exact HC.out k hlt
        obtain ⟨z, hz⟩ : ∃ z, z = zs.getD k 0 := ⟨_, rfl⟩
        rw [← hz] at hcell
        clear hz
        by_cases hle2 : z ≤ x
        · go_wp2_with (first
            | (go_at_call 17; refine (cmax_stay_new x z hle2 w1).mono ?_; rintro e w' ⟨rfl, rfl⟩)
            | (go_at_call 18; refine (cget_new x w1).mono ?_; rintro e w' ⟨rfl, rfl⟩))
          go_roundw
          case rel => exact ⟨k + 1, x, by omega, by go_num, rfl, rfl⟩
          case measure => simp [intOf]; omega
        · go_wp2_with (first
            | (go_at_call 17; refine (cmax_turn_new x z hle2 w1).mono ?_; rintro e w' ⟨rfl, rfl⟩)
            | (go_at_call 18; refine (cget_new z w1).mono ?_; rintro e w' ⟨rfl, rfl⟩))
          go_roundw
          case rel => exact ⟨k + 1, z, by omega, by go_num, rfl, rfl⟩
          case measure => simp [intOf]; omega
      · go_wp2
        go_ret
        exact ⟨rfl, HBEL.out.alloc HBEL.out.size _⟩

theorem most_walk (a : Option Addr) (len cap : Nat) (zs : List Int) (w : World) (h : Ints .i64 w a len cap zs) :
    Calls Try.prog 7 #[.slice a len cap] w fun e w' => e = .returned (.bool true) ∧ Below w.heap.size w w' := by
  rcases h.cases with rfl | ⟨b, off, rfl, hb, h0, h1, h2, h3, _⟩
  · exact most_none a cap w
  · exact most_some b off len cap zs w hb h0 h1 h2 h3
end Go.Proofs.Ytcogfajmocbogaa
