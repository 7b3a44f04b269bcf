/-
  LazyAdds: whatever is added to counts, in whatever order, to each comes just what was added to it.
-/
import Derived.Test.YtcogfajmocbogaaCounts
import Derived.Deep.RegionWith
namespace Go.Proofs.Ytcogfajmocbogaa
open Go.RowKit

/-! ### a count in an array of them -/
theorem cadd_at (C i : Nat) (cs : Array Value) (t : TypeId) (n d : Int) (w : World) (h : w.heap[C]? = some (.cells cs t (0, 0))) (hi : cs[i]? = some (.int .i64 n)) :
    Calls Try.prog 14 #[.pointer (some ⟨C, i, none⟩), .int .i64 d] w fun e w' => e = .returned (.int .i64 (wrap64 (n + d))) ∧ Only C w w' ∧ w'.heap[C]? = some (.cells (cs.setIfInBounds i (.int .i64 (wrap64 (n + d)))) t (0, 0)) :=
  (cadd ⟨C, i, none⟩ n d w (blk_cell h hi) (blk_free h)).mono fun _ _ ⟨he, hw⟩ => ⟨he, by rw [hw]; exact (Only.refl _ _).setCell i _, by rw [hw]; exact blk_set _ h⟩
theorem cswap_at (C i : Nat) (cs : Array Value) (t : TypeId) (n d : Int) (w : World) (h : w.heap[C]? = some (.cells cs t (0, 0))) (hi : cs[i]? = some (.int .i64 n)) :
    Calls Try.prog 15 #[.pointer (some ⟨C, i, none⟩), .int .i64 d] w fun e w' => e = .returned (.int .i64 n) ∧ Only C w w' ∧ w'.heap[C]? = some (.cells (cs.setIfInBounds i (.int .i64 d)) t (0, 0)) :=
  (cswap ⟨C, i, none⟩ n d w (blk_cell h hi) (blk_free h)).mono fun _ _ ⟨he, hw⟩ => ⟨he, by rw [hw]; exact (Only.refl _ _).setCell i _, by rw [hw]; exact blk_set _ h⟩
theorem cget_at (C i : Nat) (n : Int) (w : World) (h : w.cell? ⟨C, i, none⟩ = some (.int .i64 n)) :
    Calls Try.prog 18 #[.pointer (some ⟨C, i, none⟩)] w fun e w' => e = .returned (.int .i64 n) ∧ w' = w := (cget ⟨C, i, none⟩ n w h).mono fun _ _ ⟨he, hw⟩ => ⟨he, hw.symm⟩

/-- The three counts hold what the three sums are; nothing that was there when the call began has turned. -/
structure AddsAt (C : Nat) (x y z : Int) (w wr : World) : Prop where
  hC : wr.heap[C]? = some (.cells #[.int .i64 x, .int .i64 y, .int .i64 z] 55 (0, 0))
  hS : wr.heap[C + 1]? = some (.cells #[.int .i64 x, .int .i64 y, .int .i64 z] 56 (0, 0))
  hb : Below w.heap.size w wr

set_option maxRecDepth 100000 in
set_option maxHeartbeats 1600000 in
theorem adds_long (f : Int) (a1 : Option Addr) (len1 cap1 : Nat) (a2 : Option Addr) (len2 cap2 : Nat) (w : World) (hlen : 100 < len1) :
    Calls Try.prog 6 #[.int .i64 f, .slice a1 len1 cap1, .slice a2 len2 cap2] w fun e w' => e = .returned (.bool true) ∧ Below w.heap.size w w' := by
  have hnot : ∀ (x : Bool) (w : World), (Op.unary .not (.bool x)).run Try.prog w = .ok (.bool (!x)) w := fun _ _ => rfl
  go_enter Try.func6, Try.ntmps6
  go_wp2_with (go_at_call 12; refine (alive_true w).mono ?_; rintro e w1 ⟨rfl, hbel⟩; have HBEL := Lib.hid hbel; clear hbel)
  go_ret
  exact ⟨rfl, HBEL.out.alloc HBEL.out.size _⟩

set_option maxRecDepth 100000 in
set_option maxHeartbeats 4000000 in
theorem adds_short (f : Int) (a1 : Option Addr) (len1 cap1 : Nat) (z1 : List Int) (a2 : Option Addr) (len2 cap2 : Nat) (z2 : List Int) (w : World) (hlen : ¬ 100 < len1) (h1 : Ints .i64 w a1 len1 cap1 z1) (h2 : Ints .u8 w a2 len2 cap2 z2) :
    Calls Try.prog 6 #[.int .i64 f, .slice a1 len1 cap1, .slice a2 len2 cap2] w fun e w' => e = .returned (.bool true) ∧ Below w.heap.size w w' := by
  have hnot : ∀ (x : Bool) (w : World), (Op.unary .not (.bool x)).run Try.prog w = .ok (.bool (!x)) w := fun _ _ => rfl
  have H1 := Lib.hid h1.cases
  have H2 := Lib.hid h2.cases
  clear h1 h2
  go_enter Try.func6, Try.ntmps6
  go_wp2_with (go_at_call 12; refine (alive_true w).mono ?_; rintro e w1 ⟨rfl, hbel⟩; have HBEL := Lib.hid hbel; clear hbel)
  have hw1 : w.heap.size ≤ w1.heap.size := HBEL.out.size
  have hC0 : ((w1.alloc (.cells #[.int .i64 0, .int .i64 0, .int .i64 0] 55)).alloc (.cells #[.int .i64 f, .int .i64 f, .int .i64 f] 56)).heap[w1.heap.size]? = some (.cells #[.int .i64 0, .int .i64 0, .int .i64 0] 55 (0, 0)) := blk_old (blk_new _ _) _
  have hS0 : ((w1.alloc (.cells #[.int .i64 0, .int .i64 0, .int .i64 0] 55)).alloc (.cells #[.int .i64 f, .int .i64 f, .int .i64 f] 56)).heap[w1.heap.size + 1]? = some (.cells #[.int .i64 f, .int .i64 f, .int .i64 f] 56 (0, 0)) := by
    have := blk_new (w1.alloc (.cells #[.int .i64 0, .int .i64 0, .int .i64 0] 55)) (.cells #[.int .i64 f, .int .i64 f, .int .i64 f] 56 (0, 0))
    simpa using this
  have hb0 : Below w.heap.size w ((w1.alloc (.cells #[.int .i64 0, .int .i64 0, .int .i64 0] 55)).alloc (.cells #[.int .i64 f, .int .i64 f, .int .i64 f] 56)) := (HBEL.out.alloc HBEL.out.size _).alloc (by simp; omega) _
  generalize ((w1.alloc (.cells #[.int .i64 0, .int .i64 0, .int .i64 0] 55)).alloc (.cells #[.int .i64 f, .int .i64 f, .int .i64 f] 56)) = u0 at hC0 hS0 hb0 ⊢
  have HC0 := Lib.hid hC0
  have HS0 := Lib.hid hS0
  have HB0 := Lib.hid hb0
  clear hC0 hS0 hb0 HBEL
  refine wp_loop_rounds 4 ?_
  rw [rounds_succ]
  go_wp2_with fail
  refine (cswap_at w1.heap.size 0 _ _ 0 f _ HC0.out rfl).mono ?_
  rintro e u1 ⟨rfl, ho1, hC1⟩
  have HC1 : Hid (u1.heap[w1.heap.size]? = some (.cells #[.int .i64 f, .int .i64 0, .int .i64 0] 55 (0, 0))) := hC1
  have HO1 := Lib.hid ho1
  clear hC1 ho1
  go_wp2_with fail
  rw [rounds_succ]
  go_wp2_with fail
  refine (cswap_at w1.heap.size 1 _ _ 0 f _ HC1.out rfl).mono ?_
  rintro e u2 ⟨rfl, ho2, hC2⟩
  have HC2 : Hid (u2.heap[w1.heap.size]? = some (.cells #[.int .i64 f, .int .i64 f, .int .i64 0] 55 (0, 0))) := hC2
  have HO2 := Lib.hid ho2
  clear hC2 ho2
  go_wp2_with fail
  rw [rounds_succ]
  go_wp2_with fail
  refine (cswap_at w1.heap.size 2 _ _ 0 f _ HC2.out rfl).mono ?_
  rintro e u3 ⟨rfl, ho3, hC3⟩
  have HS : Hid (AddsAt w1.heap.size f f f w u3) := ⟨hC3, blk_only (blk_only (blk_only HS0.out HO1.out (by omega)) HO2.out (by omega)) ho3 (by omega), ((HB0.out.trans (HO1.out.below hw1)).trans (HO2.out.below hw1)).trans (ho3.below hw1)⟩
  clear hC3 ho3 HC0 HC1 HC2 HS0 HB0 HO1 HO2
  go_wp2_with fail
  rw [rounds_succ]
  go_wp2_with fail
  go_loopw [32] (fun i wr => ∃ (k : Nat) (x y z : Int), k ≤ len1 ∧ i = .int .i64 k ∧ AddsAt w1.heap.size x y z w wr) (fun i _ => len1 - (intOf i).toNat)
  case atStart => exact ⟨0, f, f, f, Nat.zero_le _, rfl, HS.out⟩
  case round =>
    obtain ⟨k, x, y, z, hk, rfl, hst⟩ := hrel
    clear HS
    have c0 : wr.cell? ⟨w1.heap.size, 0, none⟩ = some (.int .i64 x) := blk_cell hst.hC rfl
    have c1 : wr.cell? ⟨w1.heap.size, 1, none⟩ = some (.int .i64 y) := blk_cell hst.hC rfl
    have c2 : wr.cell? ⟨w1.heap.size, 2, none⟩ = some (.int .i64 z) := blk_cell hst.hC rfl
    have s0 : wr.cell? ⟨w1.heap.size + 1, 0, none⟩ = some (.int .i64 x) := blk_cell hst.hS rfl
    have s1 : wr.cell? ⟨w1.heap.size + 1, 1, none⟩ = some (.int .i64 y) := blk_cell hst.hS rfl
    have s2 : wr.cell? ⟨w1.heap.size + 1, 2, none⟩ = some (.int .i64 z) := blk_cell hst.hS rfl
    have fz : ∀ i, wr.frozen? ⟨w1.heap.size + 1, i, none⟩ = false := fun i => blk_free hst.hS
    have HST := Lib.hid hst
    clear hst
    by_cases hlt : k < len1
    · rcases H1.out with h0 | ⟨b, off, rfl, hb, _, hle, hmax, hcell, _⟩
      · omega
      unfold maxLen at hmax
      have cn : wr.cell? ⟨b, off + k, none⟩ = some (.int .i64 (z1.getD k 0)) := by rw [HST.out.hb.cell hb]; exact hcell k hlt
      obtain ⟨n, hn⟩ : ∃ n, n = z1.getD k 0 := ⟨_, rfl⟩
      rw [← hn] at cn
      clear hn hcell H1
      by_cases hlt2 : k < len2
      · rcases H2.out with h0 | ⟨b2, off2, rfl, hb2, _, hle2, hmax2, hcell2, hwf⟩
        · omega
        unfold maxLen at hmax2
        have ct : wr.cell? ⟨b2, off2 + k, none⟩ = some (.int .u8 (z2.getD k 0)) := by rw [HST.out.hb.cell hb2]; exact hcell2 k hlt2
        have hbd := bounds_u8 (hwf k hlt2)
        obtain ⟨t, ht⟩ : ∃ t, t = z2.getD k 0 := ⟨_, rfl⟩
        rw [← ht] at ct hbd
        obtain ⟨hb0, hb255⟩ := hbd
        clear ht hcell2 H2 hwf
        have hm : t % 3 = 0 ∨ t % 3 = 1 ∨ t % 3 = 2 := by omega
        rcases hm with hm | hm | hm
        · go_wp2_with fail
          have hS1 : (wr.setCell ⟨w1.heap.size + 1, 0, none⟩ (.int .i64 (wrap64 (x + n)))).heap[w1.heap.size + 1]? = some (.cells #[.int .i64 (wrap64 (x + n)), .int .i64 y, .int .i64 z] 56 (0, 0)) := blk_set (i := 0) _ HST.out.hS
          have hC1 : (wr.setCell ⟨w1.heap.size + 1, 0, none⟩ (.int .i64 (wrap64 (x + n)))).heap[w1.heap.size]? = some (.cells #[.int .i64 x, .int .i64 y, .int .i64 z] 55 (0, 0)) := blk_other HST.out.hC (by dsimp only; omega) _
          have hB1 : Below w.heap.size w (wr.setCell ⟨w1.heap.size + 1, 0, none⟩ (.int .i64 (wrap64 (x + n)))) := HST.out.hb.setCell (by dsimp only; omega) _
          generalize (wr.setCell ⟨w1.heap.size + 1, 0, none⟩ (.int .i64 (wrap64 (x + n)))) = v1 at hS1 hC1 hB1 ⊢
          have t1 : v1.cell? ⟨w1.heap.size + 1, 0, none⟩ = some (.int .i64 (wrap64 (x + n))) := blk_cell hS1 rfl
          have HS1 := Lib.hid hS1
          have HC1 := Lib.hid hC1
          have HB1 := Lib.hid hB1
          clear hS1 hC1 hB1 c0 c1 c2 s0 s1 s2 fz cn
          go_region_with (go_at_call 14; refine (cadd_at w1.heap.size 0 _ _ x n _ (blk_drew HC1.out) rfl).mono ?_; rintro e v2 ⟨rfl, ho, hC2⟩; have t2 : v2.cell? ⟨w1.heap.size + 1, 0, none⟩ = some (.int .i64 (wrap64 (x + n))) := (ho.cell (by dsimp only; omega)).trans t1; have HA : Hid (AddsAt w1.heap.size (wrap64 (x + n)) y z w v2) := ⟨hC2, blk_only (blk_drew HS1.out) ho (by omega), HB1.out.drew.trans (ho.below hw1)⟩; clear ho hC2)
          all_goals
            go_wp2
            go_roundw
            case rel => exact ⟨k + 1, (wrap64 (x + n)), y, z, by omega, by go_num, HA.out⟩
            case measure => simp [intOf]; omega
        · go_wp2_with fail
          have hS1 : (wr.setCell ⟨w1.heap.size + 1, 1, none⟩ (.int .i64 (wrap64 (y + n)))).heap[w1.heap.size + 1]? = some (.cells #[.int .i64 x, .int .i64 (wrap64 (y + n)), .int .i64 z] 56 (0, 0)) := blk_set (i := 1) _ HST.out.hS
          have hC1 : (wr.setCell ⟨w1.heap.size + 1, 1, none⟩ (.int .i64 (wrap64 (y + n)))).heap[w1.heap.size]? = some (.cells #[.int .i64 x, .int .i64 y, .int .i64 z] 55 (0, 0)) := blk_other HST.out.hC (by dsimp only; omega) _
          have hB1 : Below w.heap.size w (wr.setCell ⟨w1.heap.size + 1, 1, none⟩ (.int .i64 (wrap64 (y + n)))) := HST.out.hb.setCell (by dsimp only; omega) _
          generalize (wr.setCell ⟨w1.heap.size + 1, 1, none⟩ (.int .i64 (wrap64 (y + n)))) = v1 at hS1 hC1 hB1 ⊢
          have t1 : v1.cell? ⟨w1.heap.size + 1, 1, none⟩ = some (.int .i64 (wrap64 (y + n))) := blk_cell hS1 rfl
          have HS1 := Lib.hid hS1
          have HC1 := Lib.hid hC1
          have HB1 := Lib.hid hB1
          clear hS1 hC1 hB1 c0 c1 c2 s0 s1 s2 fz cn
          go_region_with (go_at_call 14; refine (cadd_at w1.heap.size 1 _ _ y n _ (blk_drew HC1.out) rfl).mono ?_; rintro e v2 ⟨rfl, ho, hC2⟩; have t2 : v2.cell? ⟨w1.heap.size + 1, 1, none⟩ = some (.int .i64 (wrap64 (y + n))) := (ho.cell (by dsimp only; omega)).trans t1; have HA : Hid (AddsAt w1.heap.size x (wrap64 (y + n)) z w v2) := ⟨hC2, blk_only (blk_drew HS1.out) ho (by omega), HB1.out.drew.trans (ho.below hw1)⟩; clear ho hC2)
          all_goals
            go_wp2
            go_roundw
            case rel => exact ⟨k + 1, x, (wrap64 (y + n)), z, by omega, by go_num, HA.out⟩
            case measure => simp [intOf]; omega
        · go_wp2_with fail
          have hS1 : (wr.setCell ⟨w1.heap.size + 1, 2, none⟩ (.int .i64 (wrap64 (z + n)))).heap[w1.heap.size + 1]? = some (.cells #[.int .i64 x, .int .i64 y, .int .i64 (wrap64 (z + n))] 56 (0, 0)) := blk_set (i := 2) _ HST.out.hS
          have hC1 : (wr.setCell ⟨w1.heap.size + 1, 2, none⟩ (.int .i64 (wrap64 (z + n)))).heap[w1.heap.size]? = some (.cells #[.int .i64 x, .int .i64 y, .int .i64 z] 55 (0, 0)) := blk_other HST.out.hC (by dsimp only; omega) _
          have hB1 : Below w.heap.size w (wr.setCell ⟨w1.heap.size + 1, 2, none⟩ (.int .i64 (wrap64 (z + n)))) := HST.out.hb.setCell (by dsimp only; omega) _
          generalize (wr.setCell ⟨w1.heap.size + 1, 2, none⟩ (.int .i64 (wrap64 (z + n)))) = v1 at hS1 hC1 hB1 ⊢
          have t1 : v1.cell? ⟨w1.heap.size + 1, 2, none⟩ = some (.int .i64 (wrap64 (z + n))) := blk_cell hS1 rfl
          have HS1 := Lib.hid hS1
          have HC1 := Lib.hid hC1
          have HB1 := Lib.hid hB1
          clear hS1 hC1 hB1 c0 c1 c2 s0 s1 s2 fz cn
          go_region_with (go_at_call 14; refine (cadd_at w1.heap.size 2 _ _ z n _ (blk_drew HC1.out) rfl).mono ?_; rintro e v2 ⟨rfl, ho, hC2⟩; have t2 : v2.cell? ⟨w1.heap.size + 1, 2, none⟩ = some (.int .i64 (wrap64 (z + n))) := (ho.cell (by dsimp only; omega)).trans t1; have HA : Hid (AddsAt w1.heap.size x y (wrap64 (z + n)) w v2) := ⟨hC2, blk_only (blk_drew HS1.out) ho (by omega), HB1.out.drew.trans (ho.below hw1)⟩; clear ho hC2)
          all_goals
            go_wp2
            go_roundw
            case rel => exact ⟨k + 1, x, y, (wrap64 (z + n)), by omega, by go_num, HA.out⟩
            case measure => simp [intOf]; omega
      · clear H2
        go_wp2_with fail
        have hS1 : (wr.setCell ⟨w1.heap.size + 1, 0, none⟩ (.int .i64 (wrap64 (x + n)))).heap[w1.heap.size + 1]? = some (.cells #[.int .i64 (wrap64 (x + n)), .int .i64 y, .int .i64 z] 56 (0, 0)) := blk_set (i := 0) _ HST.out.hS
        have hC1 : (wr.setCell ⟨w1.heap.size + 1, 0, none⟩ (.int .i64 (wrap64 (x + n)))).heap[w1.heap.size]? = some (.cells #[.int .i64 x, .int .i64 y, .int .i64 z] 55 (0, 0)) := blk_other HST.out.hC (by dsimp only; omega) _
        have hB1 : Below w.heap.size w (wr.setCell ⟨w1.heap.size + 1, 0, none⟩ (.int .i64 (wrap64 (x + n)))) := HST.out.hb.setCell (by dsimp only; omega) _
        generalize (wr.setCell ⟨w1.heap.size + 1, 0, none⟩ (.int .i64 (wrap64 (x + n)))) = v1 at hS1 hC1 hB1 ⊢
        have t1 : v1.cell? ⟨w1.heap.size + 1, 0, none⟩ = some (.int .i64 (wrap64 (x + n))) := blk_cell hS1 rfl
        have HS1 := Lib.hid hS1
        have HC1 := Lib.hid hC1
        have HB1 := Lib.hid hB1
        clear hS1 hC1 hB1 c0 c1 c2 s0 s1 s2 fz cn
        go_region_with (go_at_call 14; refine (cadd_at w1.heap.size 0 _ _ x n _ (blk_drew HC1.out) rfl).mono ?_; rintro e v2 ⟨rfl, ho, hC2⟩; have t2 : v2.cell? ⟨w1.heap.size + 1, 0, none⟩ = some (.int .i64 (wrap64 (x + n))) := (ho.cell (by dsimp only; omega)).trans t1; have HA : Hid (AddsAt w1.heap.size (wrap64 (x + n)) y z w v2) := ⟨hC2, blk_only (blk_drew HS1.out) ho (by omega), HB1.out.drew.trans (ho.below hw1)⟩; clear ho hC2)
        all_goals
          go_wp2
          go_roundw
          case rel => exact ⟨k + 1, (wrap64 (x + n)), y, z, by omega, by go_num, HA.out⟩
          case measure => simp [intOf]; omega
    · clear H1 H2
      go_wp2_with fail
      go_quiet ((go_at_call 18; first | exact Calls.quiet_of_same (cget_at w1.heap.size 0 x _ c0) | exact Calls.quiet_of_same (cget_at w1.heap.size 1 y _ c1) | exact Calls.quiet_of_same (cget_at w1.heap.size 2 z _ c2)))
      go_wp2
      go_ret
      exact ⟨rfl, below_draws HST.out.hb _⟩

theorem adds_walk (f : Int) (a1 : Option Addr) (len1 cap1 : Nat) (z1 : List Int) (a2 : Option Addr) (len2 cap2 : Nat) (z2 : List Int) (w : World) (h1 : Ints .i64 w a1 len1 cap1 z1) (h2 : Ints .u8 w a2 len2 cap2 z2) :
    Calls Try.prog 6 #[.int .i64 f, .slice a1 len1 cap1, .slice a2 len2 cap2] w fun e w' => e = .returned (.bool true) ∧ Below w.heap.size w w' := by
  by_cases hlen : 100 < len1
  · exact adds_long f a1 len1 cap1 a2 len2 cap2 w hlen
  · exact adds_short f a1 len1 cap1 z1 a2 len2 cap2 z2 w hlen h1 h2
end Go.Proofs.Ytcogfajmocbogaa
