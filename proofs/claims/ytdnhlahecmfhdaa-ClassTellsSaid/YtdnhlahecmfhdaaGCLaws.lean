/-
  ClassTells, ClassFits, ClassNext: the walks.
-/
import Derived.Test.YtdnhlahecmfhdaaGCAlive
import Derived.Test.YtdnhlahecmfhdaaGCRef
namespace Go.Proofs.Ytdnhlahecmfhdaa
open Go.RowKit

set_option maxRecDepth 100000 in
set_option maxHeartbeats 4000000 in
theorem gctells_n (n c s p : Int) (w : World) (n0 : -9223372036854775808 ≤ n) (n1 : n ≤ 9223372036854775807) (c0 : -9223372036854775808 ≤ c) (c1 : c ≤ 9223372036854775807) (s0 : -9223372036854775808 ≤ s) (s1 : s ≤ 9223372036854775807) (p0 : -9223372036854775808 ≤ p) (p1 : p ≤ 9223372036854775807) :
    Calls Try.prog 3 #[.int .i64 n, .int .i64 c, .agg #[.int .i64 s, .int .i64 p]] w (AggPost w (.bool true)) := by
  have HAL := Lib.hid fun w1 => gcalive_n w1
  have H1 := Lib.hid fun w1 => clof_n n w1 n0 n1
  have H2 := Lib.hid fun w1 => rof13_n n w1
  have H3 := Lib.hid fun w1 => clwords_n c w1 c0 c1
  have H4 := Lib.hid fun w1 => rwords13_n c w1
  have H5 := Lib.hid fun w1 => clblocks_n s c w1 s0 s1 c0 c1
  have H6 := Lib.hid fun w1 => rblocks13_n s c w1
  have H7 := Lib.hid fun w1 => clin_n p w1 p0 p1
  have H8 := Lib.hid fun w1 => rin13_n p w1 p1
  have H9 := Lib.hid fun w1 => clbegins_n p c w1 p0 p1 c0 c1
  have H10 := Lib.hid fun w1 => rbegins13_n p c w1 p1
  generalize ofZ n = z1 at H1 H2
  generalize wordsZ c = z2 at H3 H4
  generalize blocksZ s c = L at H5 H6
  generalize inZ p = z3 at H7 H8
  generalize beginsZ p c = z4 at H9 H10
  have HB := Lib.hid ((Below.refl w.heap.size w).alloc (Nat.le_refl _) (.cells #[.int .i64 s, .int .i64 p] 22))
  have HK : Hid (blk (w.alloc (.cells #[.int .i64 s, .int .i64 p] 22)) w.heap.size #[.int .i64 s, .int .i64 p] 22) := Lib.hid (blk_new _ _ _)
  clear n0 n1 c0 c1 s0 s1 p0 p1
  go_enter Try.func3, Try.ntmps3
  go_upto_region 1 with (fail)
  generalize w.alloc (.cells #[.int .i64 s, .int .i64 p] 22) = W0 at HB HK ⊢
  go_upto_region 3 with (go_at_call 8; ((with_reducible refine (HAL.out _).mono ?_); rintro e w1 ⟨rfl, hb⟩; have HK := Lib.hid (blk_below HK.out hb); have HB := Lib.hid (HB.out.trans (hb.mono HB.out.size)); clear hb))
  have k0 : w1.cell? ⟨w.heap.size, 0, none⟩ = some (.int .i64 s) := blk_cell HK.out 0 _ rfl
  have k1 : w1.cell? ⟨w.heap.size, 1, none⟩ = some (.int .i64 p) := blk_cell HK.out 1 _ rfl
  clear HAL HK
  go_upto_region 3 with (fail)
  go_quiet (fail)
  have HB := Lib.hid (HB.out.trans ((belowDrewN w1 nq).mono HB.out.size))
  go_wp2_with (first
    | (go_at_call 9; ((with_reducible refine (H1.out _).mono ?_); rintro e w1 ⟨rfl, hb⟩; have HB := Lib.hid (HB.out.trans (hb.mono HB.out.size)); clear hb))
    | (go_at_call 10; ((with_reducible refine (H2.out _).mono ?_); rintro e w2 ⟨rfl, hb⟩; have HB := Lib.hid (HB.out.trans (hb.mono HB.out.size)); clear hb))
    | (go_at_call 11; ((with_reducible refine (H3.out _).mono ?_); rintro e w3 ⟨rfl, hb⟩; have HB := Lib.hid (HB.out.trans (hb.mono HB.out.size)); clear hb))
    | (go_at_call 12; ((with_reducible refine (H4.out _).mono ?_); rintro e w4 ⟨rfl, hb⟩; have HB := Lib.hid (HB.out.trans (hb.mono HB.out.size)); clear hb))
    | (go_at_call 14; ((with_reducible refine (H5.out _).mono ?_); rintro e w5 ⟨v5, rfl, hr, hb⟩; have HB := Lib.hid (HB.out.trans (hb.mono HB.out.size)); have HR := Lib.hid hr; clear hr hb))
    | (go_at_call 15; ((with_reducible refine (H6.out _).mono ?_); rintro e w6 ⟨v6, rfl, hr, hb⟩; have HB := Lib.hid (HB.out.trans (hb.mono HB.out.size)); have HR := Lib.hid (HR.out.below hb); have HS := Lib.hid (RowAt.of_own hr); clear hr hb))
    | (go_at_call 13; ((with_reducible refine (same13_n _ _ _ _ true _ HR.out HS.out (decide_eq_true rfl)).mono ?_); rintro e w7 ⟨rfl, hb⟩; have HB := Lib.hid (HB.out.trans (hb.mono HB.out.size)); clear hb HR HS))
    | (go_at_call 16; ((with_reducible refine (H7.out _).mono ?_); rintro e w8 ⟨rfl, hb⟩; have HB := Lib.hid (HB.out.trans (hb.mono HB.out.size)); clear hb))
    | (go_at_call 17; ((with_reducible refine (H8.out _).mono ?_); rintro e w9 ⟨rfl, hb⟩; have HB := Lib.hid (HB.out.trans (hb.mono HB.out.size)); clear hb))
    | (go_at_call 18; ((with_reducible refine (H9.out _).mono ?_); rintro e w10 ⟨rfl, hb⟩; have HB := Lib.hid (HB.out.trans (hb.mono HB.out.size)); clear hb))
    | (go_at_call 19; ((with_reducible refine (H10.out _).mono ?_); rintro e w11 ⟨rfl, hb⟩; have HB := Lib.hid (HB.out.trans (hb.mono HB.out.size)); clear hb)))
  go_ret
  exact ⟨rfl, HB.out⟩
/-- The class of a size that there may be. -/
theorem of_cases {a : Int} (h0 : 1 ≤ a) (h8 : a ≤ 8) : (a = 1 ∧ ofZ a = 0) ∨ (a = 2 ∧ ofZ a = 1) ∨ (3 ≤ a ∧ a ≤ 4 ∧ ofZ a = 2) ∨ (5 ≤ a ∧ a ≤ 8 ∧ ofZ a = 3) := by
  unfold ofZ
  rw [if_neg (by omega)]
  by_cases h1 : a ≤ 1
  · exact .inl ⟨by omega, by rw [if_pos h1]⟩
  rw [if_neg h1]
  by_cases h2 : a ≤ 2
  · exact .inr (.inl ⟨by omega, by rw [if_pos h2]⟩)
  rw [if_neg h2]
  by_cases h4 : a ≤ 4
  · exact .inr (.inr (.inl ⟨by omega, h4, by rw [if_pos h4]⟩))
  rw [if_neg h4]
  exact .inr (.inr (.inr ⟨by omega, h8, by rw [if_pos h8]⟩))
set_option maxRecDepth 100000 in
set_option maxHeartbeats 4000000 in
theorem gcfits_n (n m : Int) (w : World) (n0 : 0 ≤ n) (n1 : n ≤ 255) (m0 : 0 ≤ m) (m1 : m ≤ 255) : Calls Try.prog 5 #[.int .u8 n, .int .u8 m] w (AggPost w (.bool true)) := by
  have HAL := Lib.hid fun w1 => gcalive_n w1
  have hm := of_cases (a := m % 8 + 1) (by omega) (by omega)
  have hn := of_cases (a := n % 8 + 1) (by omega) (by omega)
  have ha : 1 ≤ n % 8 + 1 ∧ n % 8 + 1 ≤ 8 := by omega
  have hb' : 1 ≤ m % 8 + 1 ∧ m % 8 + 1 ≤ 8 := by omega
  have H1 := Lib.hid fun w1 => clof_n (n % 8 + 1) w1 (by omega) (by omega)
  have H2 := Lib.hid fun w1 => clof_n (m % 8 + 1) w1 (by omega) (by omega)
  have W0 := Lib.hid fun w1 => clwords_n 0 w1 (by decide) (by decide)
  have W1 := Lib.hid fun w1 => clwords_n 1 w1 (by decide) (by decide)
  have W2 := Lib.hid fun w1 => clwords_n 2 w1 (by decide) (by decide)
  have W3 := Lib.hid fun w1 => clwords_n 3 w1 (by decide) (by decide)
  rw [show wordsZ 0 = 1 by decide] at W0
  rw [show wordsZ 1 = 2 by decide] at W1
  rw [show wordsZ 2 = 4 by decide] at W2
  rw [show wordsZ 3 = 8 by decide] at W3
  have HB := Lib.hid (Below.refl w.heap.size w)
  go_enter Try.func5, Try.ntmps5
  go_upto_region 4 with (go_at_call 8; ((with_reducible refine (HAL.out _).mono ?_); rintro e w1 ⟨rfl, hb⟩; have HB := Lib.hid (HB.out.trans (hb.mono HB.out.size)); clear hb))
  generalize n % 8 + 1 = a at hn ha H1 ⊢
  generalize m % 8 + 1 = b at hm hb' H2 ⊢
  have hmono : a ≤ b → ofZ a ≤ ofZ b := by omega
  clear hm HAL
  generalize ofZ b = d at H2 hmono
  have hab : (b < a ∧ True) ∨ (a ≤ b ∧ ofZ a ≤ d) := by
    rcases Int.lt_or_le b a with h | h
    · exact .inl ⟨h, trivial⟩
    · exact .inr ⟨h, hmono h⟩
  clear hmono
  obtain ⟨a1, a8⟩ := ha
  obtain ⟨b1, b8⟩ := hb'
  rcases hn with ⟨rfl, hz⟩ | ⟨rfl, hz⟩ | ⟨ha1, ha2, hz⟩ | ⟨ha1, ha2, hz⟩
  all_goals
    rw [hz] at H1 hab
    clear hz
    first | (have e9 : (8 : Int) < 2 * a := by omega) | (have e9 : (4 : Int) < 2 * a := by omega) | skip
    rcases hab with ⟨h1, -⟩ | ⟨h1, h2⟩
    all_goals
      go_wp2_with (first
        | (go_at_call 9; ((with_reducible refine (H1.out _).mono ?_); rintro e w2 ⟨rfl, hb⟩; have HB := Lib.hid (HB.out.trans (hb.mono HB.out.size)); clear hb))
        | (go_at_call 9; ((with_reducible refine (H2.out _).mono ?_); rintro e w3 ⟨rfl, hb⟩; have HB := Lib.hid (HB.out.trans (hb.mono HB.out.size)); clear hb))
        | (go_at_call 11; ((with_reducible refine (W0.out _).mono ?_); rintro e w4 ⟨rfl, hb⟩; have HB := Lib.hid (HB.out.trans (hb.mono HB.out.size)); clear hb))
        | (go_at_call 11; ((with_reducible refine (W1.out _).mono ?_); rintro e w5 ⟨rfl, hb⟩; have HB := Lib.hid (HB.out.trans (hb.mono HB.out.size)); clear hb))
        | (go_at_call 11; ((with_reducible refine (W2.out _).mono ?_); rintro e w6 ⟨rfl, hb⟩; have HB := Lib.hid (HB.out.trans (hb.mono HB.out.size)); clear hb))
        | (go_at_call 11; ((with_reducible refine (W3.out _).mono ?_); rintro e w7 ⟨rfl, hb⟩; have HB := Lib.hid (HB.out.trans (hb.mono HB.out.size)); clear hb)))
      go_ret
      exact ⟨rfl, HB.out⟩
set_option maxRecDepth 100000 in
set_option maxHeartbeats 4000000 in
theorem gcnext_n (n : Int) (w : World) (n0 : 0 ≤ n) (n1 : n ≤ 65535) : Calls Try.prog 7 #[.int .u16 n] w (AggPost w (.bool true)) := by
  have HAL := Lib.hid fun w1 => gcalive_n w1
  have H1 := Lib.hid fun w1 => clin_n n w1 (by omega) (by omega)
  have H2 := Lib.hid fun w1 => clin_n (n + 1) w1 (by omega) (by omega)
  have H3 := Lib.hid fun w1 => clbegins_n (n + 1) 3 w1 (by omega) (by omega) (by decide) (by decide)
  have HB := Lib.hid (Below.refl w.heap.size w)
  have hi2 : inZ (n + 1) = n / 8 := by unfold inZ; rw [if_neg (by omega), show n + 1 - 1 = n by omega]
  have hb3 : beginsZ (n + 1) 3 = decide (n % 8 = 0) := by unfold beginsZ; rw [show wordsZ 3 = 8 by decide, decide_eq_true (show 1 ≤ n + 1 by omega), show n + 1 - 1 = n by omega, show n % 8 % 8 = n % 8 by omega]; rfl
  by_cases hz : n = 0
  · subst hz
    rw [show inZ 0 = -1 by decide] at H1
    rw [hi2] at H2
    clear hi2 hb3 H3
    go_enter Try.func7, Try.ntmps7
    go_wp2_with (first
      | (go_at_call 8; ((with_reducible refine (HAL.out _).mono ?_); rintro e w1 ⟨rfl, hb⟩; have HB := Lib.hid (HB.out.trans (hb.mono HB.out.size)); clear hb))
      | (go_at_call 16; ((with_reducible refine (H1.out _).mono ?_); rintro e w2 ⟨rfl, hb⟩; have HB := Lib.hid (HB.out.trans (hb.mono HB.out.size)); clear hb))
      | (go_at_call 16; ((refine (H2.out _).mono ?_); rintro e w3 ⟨rfl, hb⟩; have HB := Lib.hid (HB.out.trans (hb.mono HB.out.size)); clear hb)))
    go_ret
    exact ⟨rfl, HB.out⟩
  · have hi1 : inZ n = (n - 1) / 8 := by unfold inZ; rw [if_neg (by omega)]
    rw [hi1] at H1
    rw [hi2] at H2
    rw [hb3] at H3
    have hnz : (n == 0) = false := by simpa using hz
    have hor : (n % 8 = 0 ∧ n / 8 = (n - 1) / 8 + 1) ∨ (n % 8 ≠ 0 ∧ n / 8 = (n - 1) / 8) := by omega
    clear hi1 hi2 hb3
    have hrng : -1 ≤ (n - 1) / 8 ∧ (n - 1) / 8 ≤ 8192 := by omega
    generalize (n - 1) / 8 = q at H1 hor hrng
    obtain ⟨q0, q1⟩ := hrng
    rcases hor with ⟨h8, hq⟩ | ⟨h8, hq⟩
    · rw [hq] at H2
      rw [decide_eq_true h8] at H3
      have e1 : (n % 8 == 0) = true := by simpa using h8
      have e2 : (q + 1 == q) = false := by simp; omega
      clear hq hz
      go_enter Try.func7, Try.ntmps7
      go_wp2_with (first
        | (go_at_call 8; ((with_reducible refine (HAL.out _).mono ?_); rintro e w1 ⟨rfl, hb⟩; have HB := Lib.hid (HB.out.trans (hb.mono HB.out.size)); clear hb))
        | (go_at_call 16; ((with_reducible refine (H1.out _).mono ?_); rintro e w2 ⟨rfl, hb⟩; have HB := Lib.hid (HB.out.trans (hb.mono HB.out.size)); clear hb))
        | (go_at_call 16; ((with_reducible refine (H2.out _).mono ?_); rintro e w3 ⟨rfl, hb⟩; have HB := Lib.hid (HB.out.trans (hb.mono HB.out.size)); clear hb))
        | (go_at_call 18; ((with_reducible refine (H3.out _).mono ?_); rintro e w4 ⟨rfl, hb⟩; have HB := Lib.hid (HB.out.trans (hb.mono HB.out.size)); clear hb)))
      go_ret
      exact ⟨rfl, HB.out⟩
    · rw [hq] at H2
      rw [decide_eq_false h8] at H3
      have e1 : (n % 8 == 0) = false := by simpa using h8
      have e2 : (q == q + 1) = false := by simp; omega
      clear hq hz
      go_enter Try.func7, Try.ntmps7
      go_wp2_with (first
        | (go_at_call 8; ((with_reducible refine (HAL.out _).mono ?_); rintro e w1 ⟨rfl, hb⟩; have HB := Lib.hid (HB.out.trans (hb.mono HB.out.size)); clear hb))
        | (go_at_call 16; ((with_reducible refine (H1.out _).mono ?_); rintro e w2 ⟨rfl, hb⟩; have HB := Lib.hid (HB.out.trans (hb.mono HB.out.size)); clear hb))
        | (go_at_call 16; ((with_reducible refine (H2.out _).mono ?_); rintro e w3 ⟨rfl, hb⟩; have HB := Lib.hid (HB.out.trans (hb.mono HB.out.size)); clear hb))
        | (go_at_call 18; ((with_reducible refine (H3.out _).mono ?_); rintro e w4 ⟨rfl, hb⟩; have HB := Lib.hid (HB.out.trans (hb.mono HB.out.size)); clear hb)))
      go_ret
      exact ⟨rfl, HB.out⟩
end Go.Proofs.Ytdnhlahecmfhdaa
