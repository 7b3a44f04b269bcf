/-
  LazyTries: of many who try to be the first one just the first is, till somebody gives it back.
-/
import Derived.Test.YtcogfajmocbogaaAlive
import Derived.Test.YtcogfajmocbogaaRows2
namespace Go.Proofs.Ytcogfajmocbogaa
open Go.RowKit

set_option maxRecDepth 100000 in
set_option maxHeartbeats 1600000 in
/-- The numbers are one, or there are too many who try: nothing is asked. -/
theorem tries_same (o : Int) (a : Option Addr) (len cap : Nat) (w : World) :
    Calls Try.prog 9 #[.int .i64 o, .int .i64 o, .slice a len cap] w fun e w' => e = .returned (.bool true) ∧ Below w.heap.size w w' := by
  have hnot : ∀ (x : Bool) (w : World), (Op.unary .not (.bool x)).run Try.prog w = .ok (.bool (!x)) w := fun _ _ => rfl
  go_enter Try.func9, Try.ntmps9
  go_wp2_with (go_at_call 12; refine (alive_true w).mono ?_; rintro e w1 ⟨rfl, hbel⟩; have HBEL := Lib.hid hbel; clear hbel)
  go_ret
  exact ⟨rfl, HBEL.out.alloc HBEL.out.size _⟩

set_option maxRecDepth 100000 in
set_option maxHeartbeats 1600000 in
theorem tries_long (o n : Int) (a : Option Addr) (len cap : Nat) (w : World) (hne : (o == n) = false) (hlen : 100 < len) :
    Calls Try.prog 9 #[.int .i64 o, .int .i64 n, .slice a len cap] w fun e w' => e = .returned (.bool true) ∧ Below w.heap.size w w' := by
  have hnot : ∀ (x : Bool) (w : World), (Op.unary .not (.bool x)).run Try.prog w = .ok (.bool (!x)) w := fun _ _ => rfl
  go_enter Try.func9, Try.ntmps9
  go_wp2_with (go_at_call 12; refine (alive_true w).mono ?_; rintro e w1 ⟨rfl, hbel⟩; have HBEL := Lib.hid hbel; clear hbel)
  go_ret
  exact ⟨rfl, HBEL.out.alloc HBEL.out.size _⟩

/-- It is free and old, or it is taken and new. -/
def TriesRel (o n : Int) (len k : Nat) (f i : Value) (w1 wr : World) : Prop :=
  k ≤ len ∧ i = .int .i64 k ∧ ((f = .bool true ∧ wr = w1.alloc (.cells #[.int .i64 o] 30)) ∨ (f = .bool false ∧ wr = w1.alloc (.cells #[.int .i64 n] 30)))

set_option maxRecDepth 100000 in
set_option maxHeartbeats 1600000 in
theorem tries_short (o n : Int) (a : Option Addr) (len cap : Nat) (w : World) (hne : ¬ o = n) (hlen : ¬ 100 < len)
    (hc : len = 0 ∨ ∃ b off, a = some ⟨b, off, none⟩ ∧ b < w.heap.size ∧ 0 < len ∧ len ≤ cap ∧ cap ≤ maxLen ∧ ∀ i, i < len → ∃ x : Bool, w.cell? ⟨b, off + i, none⟩ = some (.bool x)) :
    Calls Try.prog 9 #[.int .i64 o, .int .i64 n, .slice a len cap] w fun e w' => e = .returned (.bool true) ∧ Below w.heap.size w w' := by
  have h1 : (o == n) = false := by simp [hne]
  have h2 : (n == o) = false := by simp; exact fun h => hne h.symm
  have hne' : ¬ n = o := fun h => hne h.symm
  have hnot : ∀ (x : Bool) (w : World), (Op.unary .not (.bool x)).run Try.prog w = .ok (.bool (!x)) w := fun _ _ => rfl
  have HC := Lib.hid hc
  clear hc
  go_enter Try.func9, Try.ntmps9
  go_wp2_with (first
    | (go_at_call 12; refine (alive_true w).mono ?_; rintro e w1 ⟨rfl, hbel⟩; have HBEL := Lib.hid hbel; clear hbel)
    | (go_at_call 15; refine (cswap_new 0 o w1).mono ?_; rintro e w' ⟨rfl, rfl⟩))
  go_loopw [8, 25] (fun f i wr => ∃ k : Nat, TriesRel o n len k f i w1 wr) (fun _ i _ => len - (intOf i).toNat)
  case atStart => exact ⟨0, Nat.zero_le _, rfl, .inl ⟨rfl, rfl⟩⟩
  case round =>
    obtain ⟨k, hk, rfl, hst⟩ := hrel
    by_cases hlt : k < len
    · rcases HC.out with h0 | ⟨b, off, rfl, hb, _, hle, hmax, hcell⟩
      · omega
      unfold maxLen at hmax
      obtain ⟨x, hx⟩ := hcell k hlt
      have hb1 : b < w1.heap.size := Nat.lt_of_lt_of_le hb HBEL.out.size
      have hx1 : w1.cell? ⟨b, off + k, none⟩ = some (.bool x) := by rw [HBEL.out.cell hb]; exact hx
      clear hx hcell HC
      rcases hst with ⟨rfl, rfl⟩ | ⟨rfl, rfl⟩ <;> cases x
      · have hx2 : (w1.alloc (.cells #[.int .i64 o] 30)).cell? ⟨b, off + k, none⟩ = some (.bool false) := by rw [World.cell?_alloc_past _ _ _ hb1]; exact hx1
        clear hx1
        go_wp2_with (go_at_call 16; refine (ctry_hit_new o n w1).mono ?_; rintro e w' ⟨rfl, rfl⟩)
        go_roundw
        case rel => exact ⟨k + 1, by omega, by go_num, .inr ⟨rfl, rfl⟩⟩
        case measure => simp [intOf]; omega
      · have hx2 : (w1.alloc (.cells #[.int .i64 o] 30)).cell? ⟨b, off + k, none⟩ = some (.bool true) := by rw [World.cell?_alloc_past _ _ _ hb1]; exact hx1
        clear hx1
        go_wp2_with (go_at_call 16; refine (ctry_miss_new o n o hne w1).mono ?_; rintro e w' ⟨rfl, rfl⟩)
        go_roundw
        case rel => exact ⟨k + 1, by omega, by go_num, .inl ⟨rfl, rfl⟩⟩
        case measure => simp [intOf]; omega
      · have hx2 : (w1.alloc (.cells #[.int .i64 n] 30)).cell? ⟨b, off + k, none⟩ = some (.bool false) := by rw [World.cell?_alloc_past _ _ _ hb1]; exact hx1
        clear hx1
        go_wp2_with (go_at_call 16; refine (ctry_miss_new n o n hne' w1).mono ?_; rintro e w' ⟨rfl, rfl⟩)
        go_roundw
        case rel => exact ⟨k + 1, by omega, by go_num, .inr ⟨rfl, rfl⟩⟩
        case measure => simp [intOf]; omega
      · have hx2 : (w1.alloc (.cells #[.int .i64 n] 30)).cell? ⟨b, off + k, none⟩ = some (.bool true) := by rw [World.cell?_alloc_past _ _ _ hb1]; exact hx1
        clear hx1
        go_wp2_with (go_at_call 16; refine (ctry_hit_new n o w1).mono ?_; rintro e w' ⟨rfl, rfl⟩)
        go_roundw
        case rel => exact ⟨k + 1, by omega, by go_num, .inl ⟨rfl, rfl⟩⟩
        case measure => simp [intOf]; omega
    · clear HC
      rcases hst with ⟨rfl, rfl⟩ | ⟨rfl, rfl⟩
      · go_wp2_with (go_at_call 18; refine (cget_new o w1).mono ?_; rintro e w' ⟨rfl, rfl⟩)
        go_ret
        exact ⟨rfl, HBEL.out.alloc HBEL.out.size _⟩
      · go_wp2_with (go_at_call 18; refine (cget_new n w1).mono ?_; rintro e w' ⟨rfl, rfl⟩)
        go_ret
        exact ⟨rfl, HBEL.out.alloc HBEL.out.size _⟩

theorem tries_walk (o n : Int) (a : Option Addr) (len cap : Nat) (w : World)
    (hc : len = 0 ∨ ∃ b off, a = some ⟨b, off, none⟩ ∧ b < w.heap.size ∧ 0 < len ∧ len ≤ cap ∧ cap ≤ maxLen ∧ ∀ i, i < len → ∃ x : Bool, w.cell? ⟨b, off + i, none⟩ = some (.bool x)) :
    Calls Try.prog 9 #[.int .i64 o, .int .i64 n, .slice a len cap] w fun e w' => e = .returned (.bool true) ∧ Below w.heap.size w w' := by
  by_cases hne : o = n
  · subst hne; exact tries_same o a len cap w
  · by_cases hlen : 100 < len
    · exact tries_long o n a len cap w (by simp [hne]) hlen
    · exact tries_short o n a len cap w hne hlen hc
end Go.Proofs.Ytcogfajmocbogaa
