/-
  The program's classes: sizes of blocks, and how spans are cut.
-/
import Derived.Test.YtdnhlahecmfhdaaGCBase
import Derived.Test.YtdnhlahecmfhdaaCBlk
import Derived.Test.YtdnhlahecmfhdaaBFew
namespace Go.Proofs.Ytdnhlahecmfhdaa
open Go.RowKit

set_option maxHeartbeats 2000000 in
theorem clwords_n (c : Int) (w : World) (h0 : -9223372036854775808 ≤ c) (h1 : c ≤ 9223372036854775807) : Calls Try.prog 11 #[.int .i64 c] w (AggPost w (.int .i64 (wordsZ c))) := by
  have hor : (c = 0 ∧ wordsZ c = 1) ∨ (c = 1 ∧ wordsZ c = 2) ∨ (c = 2 ∧ wordsZ c = 4) ∨ (c = 3 ∧ wordsZ c = 8) ∨ (c < 0 ∧ wordsZ c = 0) ∨ (0 ≤ c ∧ 4 ≤ c ∧ wordsZ c = 0) := by
    rcases words_or c with h | h | h | h | ⟨d0, d1, d2, d3, h⟩
    · exact .inl h
    · exact .inr (.inl h)
    · exact .inr (.inr (.inl h))
    · exact .inr (.inr (.inr (.inl h)))
    · by_cases hc : c < 0
      · exact .inr (.inr (.inr (.inr (.inl ⟨hc, h⟩))))
      · exact .inr (.inr (.inr (.inr (.inr ⟨by omega, by omega, h⟩))))
  rcases hor with ⟨rfl, h⟩ | ⟨rfl, h⟩ | ⟨rfl, h⟩ | ⟨rfl, h⟩ | ⟨d0, h⟩ | ⟨d0, d1, h⟩
  all_goals
    rw [h]
    clear h
    go_enter Try.func11, Try.ntmps11
    go_wp2
    go_ret
    exact ⟨by first | rfl | go_num, Below.refl _ _⟩
theorem clwords_h {c z : Int} (h0 : -9223372036854775808 ≤ c) (h1 : c ≤ 9223372036854775807) (h : Hid (wordsZ c = z)) (w : World) : Calls Try.prog 11 #[.int .i64 c] w (AggPost w (.int .i64 z)) := by rw [← h.out]; exact clwords_n c w h0 h1
set_option maxHeartbeats 4000000 in
theorem clof_n (n : Int) (w : World) (h0 : -9223372036854775808 ≤ n) (h1 : n ≤ 9223372036854775807) : Calls Try.prog 9 #[.int .i64 n] w (AggPost w (.int .i64 (ofZ n))) := by
  have H0 := Lib.hid (fun w => clwords_h (c := 0) (z := 1) (by decide) (by decide) (Lib.hid rfl) w)
  have H1 := Lib.hid (fun w => clwords_h (c := 1) (z := 2) (by decide) (by decide) (Lib.hid rfl) w)
  have H2 := Lib.hid (fun w => clwords_h (c := 2) (z := 4) (by decide) (by decide) (Lib.hid rfl) w)
  have H3 := Lib.hid (fun w => clwords_h (c := 3) (z := 8) (by decide) (by decide) (Lib.hid rfl) w)
  obtain ⟨R, hR⟩ : ∃ R, R = ofZ n := ⟨_, rfl⟩
  rw [← hR]
  have HR := Lib.hid hR
  clear hR
  have HB := Lib.hid (Below.refl w.heap.size w)
  by_cases hn : n < 1
  · have HRm : Hid (R = -1) := Lib.hid (by rw [HR.out]; unfold ofZ; rw [if_pos hn])
    go_enter Try.func9, Try.ntmps9
    go_wp2_with (fail)
    go_ret
    exact ⟨congrArg (fun z : Int => Ending.returned (.int .i64 z)) HRm.out.symm, HB.out⟩
  by_cases hn8 : 8 < n
  · have HRm : Hid (R = -1) := Lib.hid (by rw [HR.out]; unfold ofZ; rw [if_neg hn, if_neg (by omega), if_neg (by omega), if_neg (by omega), if_neg (by omega)])
    go_enter Try.func9, Try.ntmps9
    go_wp2_with (fail)
    go_ret
    exact ⟨congrArg (fun z : Int => Ending.returned (.int .i64 z)) HRm.out.symm, HB.out⟩
  · have hn1 : 1 ≤ n := by omega
    go_enter Try.func9, Try.ntmps9
    go_wp2_with (fail)
    go_loopw [3] (fun v wr => ∃ k : Int, ((k = 0 ∧ 0 < n) ∨ (k = 1 ∧ 1 < n) ∨ (k = 2 ∧ 2 < n) ∨ (k = 3 ∧ 4 < n)) ∧ v = .int .i64 k ∧ Hid (Below w.heap.size w wr)) (fun v _ => 4 - (intOf v).toNat)
    case atStart => exact ⟨0, .inl ⟨rfl, by omega⟩, rfl, HB⟩
    case round =>
      clear HB
      obtain ⟨k, hk, rfl, HB⟩ := hrel
      rcases hk with ⟨rfl, hk⟩ | ⟨rfl, hk⟩ | ⟨rfl, hk⟩ | ⟨rfl, hk⟩
      · by_cases hw : n ≤ 1
        · have HX : Hid ((0 : Int) = R) := Lib.hid (by rw [HR.out]; unfold ofZ; rw [if_neg (by omega), if_pos hw])
          go_wp2_with (go_at_call 11; ((with_reducible refine (H0.out _).mono ?_); rintro e w2 ⟨rfl, hb⟩; have HB := Lib.hid (HB.out.trans (hb.mono HB.out.size)); clear hb))
          go_ret
          exact ⟨congrArg (fun z : Int => Ending.returned (.int .i64 z)) HX.out, HB.out⟩
        · go_wp2_with (go_at_call 11; ((with_reducible refine (H0.out _).mono ?_); rintro e w2 ⟨rfl, hb⟩; have HB := Lib.hid (HB.out.trans (hb.mono HB.out.size)); clear hb))
          go_roundw
          case rel => exact ⟨1, .inr (.inl ⟨rfl, by omega⟩), by go_num, HB⟩
          case measure => simp [intOf]
      · by_cases hw : n ≤ 2
        · have HX : Hid ((1 : Int) = R) := Lib.hid (by rw [HR.out]; unfold ofZ; rw [if_neg (by omega), if_neg (by omega), if_pos hw])
          go_wp2_with (go_at_call 11; ((with_reducible refine (H1.out _).mono ?_); rintro e w2 ⟨rfl, hb⟩; have HB := Lib.hid (HB.out.trans (hb.mono HB.out.size)); clear hb))
          go_ret
          exact ⟨congrArg (fun z : Int => Ending.returned (.int .i64 z)) HX.out, HB.out⟩
        · go_wp2_with (go_at_call 11; ((with_reducible refine (H1.out _).mono ?_); rintro e w2 ⟨rfl, hb⟩; have HB := Lib.hid (HB.out.trans (hb.mono HB.out.size)); clear hb))
          go_roundw
          case rel => exact ⟨2, .inr (.inr (.inl ⟨rfl, by omega⟩)), by go_num, HB⟩
          case measure => simp [intOf]
      · by_cases hw : n ≤ 4
        · have HX : Hid ((2 : Int) = R) := Lib.hid (by rw [HR.out]; unfold ofZ; rw [if_neg (by omega), if_neg (by omega), if_neg (by omega), if_pos hw])
          go_wp2_with (go_at_call 11; ((with_reducible refine (H2.out _).mono ?_); rintro e w2 ⟨rfl, hb⟩; have HB := Lib.hid (HB.out.trans (hb.mono HB.out.size)); clear hb))
          go_ret
          exact ⟨congrArg (fun z : Int => Ending.returned (.int .i64 z)) HX.out, HB.out⟩
        · go_wp2_with (go_at_call 11; ((with_reducible refine (H2.out _).mono ?_); rintro e w2 ⟨rfl, hb⟩; have HB := Lib.hid (HB.out.trans (hb.mono HB.out.size)); clear hb))
          go_roundw
          case rel => exact ⟨3, .inr (.inr (.inr ⟨rfl, by omega⟩)), by go_num, HB⟩
          case measure => simp [intOf]
      · have hw : n ≤ 8 := by omega
        have HX : Hid ((3 : Int) = R) := Lib.hid (by rw [HR.out]; unfold ofZ; rw [if_neg (by omega), if_neg (by omega), if_neg (by omega), if_neg (by omega), if_pos hw])
        go_wp2_with (go_at_call 11; ((with_reducible refine (H3.out _).mono ?_); rintro e w2 ⟨rfl, hb⟩; have HB := Lib.hid (HB.out.trans (hb.mono HB.out.size)); clear hb))
        go_ret
        exact ⟨congrArg (fun z : Int => Ending.returned (.int .i64 z)) HX.out, HB.out⟩
set_option maxHeartbeats 2000000 in
theorem clin_n (p : Int) (w : World) (h0 : -9223372036854775808 ≤ p) (h1 : p ≤ 9223372036854775807) : Calls Try.prog 16 #[.int .i64 p] w (AggPost w (.int .i64 (inZ p))) := by
  by_cases hp : p < 1
  · rw [show inZ p = -1 by unfold inZ; rw [if_pos hp]]
    go_enter Try.func16, Try.ntmps16
    go_wp2
    go_ret
    exact ⟨rfl, Below.refl _ _⟩
  · rw [show inZ p = (p - 1) / 8 by unfold inZ; rw [if_neg hp]]
    have hp1 : 1 ≤ p := by omega
    have h0 : 0 ≤ p - 1 := by omega
    go_enter Try.func16, Try.ntmps16
    go_wp2
    go_ret
    exact ⟨by go_num, Below.refl _ _⟩
set_option maxHeartbeats 4000000 in
theorem clbegins_n (p c : Int) (w : World) (h0 : -9223372036854775808 ≤ p) (h1 : p ≤ 9223372036854775807) (h2 : -9223372036854775808 ≤ c) (h3 : c ≤ 9223372036854775807) : Calls Try.prog 18 #[.int .i64 p, .int .i64 c] w (AggPost w (.bool (beginsZ p c))) := by
  have HB := Lib.hid (Below.refl w.heap.size w)
  obtain ⟨z, hz⟩ : ∃ z, z = wordsZ c := ⟨_, rfl⟩
  have HW := Lib.hid (fun w => clwords_h (c := c) (z := z) h2 h3 (Lib.hid hz.symm) w)
  obtain ⟨R, hR⟩ : ∃ R, R = beginsZ p c := ⟨_, rfl⟩
  rw [← hR]
  have hor := words_or c
  rw [← hz] at hor
  have hz5 : z = 1 ∨ z = 2 ∨ z = 4 ∨ z = 8 ∨ z = 0 := by omega
  have e : beginsZ p c = (decide (1 ≤ p) && decide (0 < z) && decide ((p - 1) % 8 % z = 0)) := by unfold beginsZ; rw [← hz]
  rw [e] at hR
  clear e hz hor
  by_cases hp : p < 1
  · have hp1 : ¬ (1 ≤ p) := by omega
    rw [decide_eq_false hp1] at hR
    rcases hz5 with rfl | rfl | rfl | rfl | rfl
    all_goals
      have HR := Lib.hid hR
      clear hR
      go_enter Try.func18, Try.ntmps18
      go_wp2_with (go_at_call 11; ((with_reducible refine (HW.out _).mono ?_); rintro e w2 ⟨rfl, hb⟩; have HB := Lib.hid (HB.out.trans (hb.mono HB.out.size)); clear hb))
      go_ret
      refine ⟨?_, HB.out⟩
      rw [HR.out]
      rfl
  · have hp1 : 1 ≤ p := by omega
    have h0 : 0 ≤ p - 1 := by omega
    rw [decide_eq_true hp1] at hR
    rcases hz5 with rfl | rfl | rfl | rfl | rfl
    all_goals
      have HR := Lib.hid hR
      clear hR
      go_enter Try.func18, Try.ntmps18
      go_wp2_with (go_at_call 11; ((with_reducible refine (HW.out _).mono ?_); rintro e w2 ⟨rfl, hb⟩; have HB := Lib.hid (HB.out.trans (hb.mono HB.out.size)); clear hb))
      go_ret
      refine ⟨?_, HB.out⟩
      rw [HR.out]
      first
        | rfl
        | (refine congrArg (fun z => Ending.returned (.bool z)) ?_; rw [show (p - 1) % 8 % 1 = 0 by omega]; rfl)
        | (refine congrArg (fun z => Ending.returned (.bool z)) ?_; rw [show (p - 1) % 8 % 2 = (p - 1) % 2 by omega]; rfl)
        | (refine congrArg (fun z => Ending.returned (.bool z)) ?_; rw [show (p - 1) % 8 % 4 = (p - 1) % 4 by omega]; rfl)
        | (refine congrArg (fun z => Ending.returned (.bool z)) ?_; rw [show (p - 1) % 8 % 8 = (p - 1) % 8 by omega]; rfl)
/-- The first j of a list's numbers, and nought behind them, m in all. -/
def partA (l : List Int) (m j : Nat) : Array Value := (i64s (l.take j ++ List.replicate (m - j) 0)).toArray
theorem partA_zero (l : List Int) (m : Nat) : madeCells #[.int .i64 0] m = partA l m 0 := by
  unfold partA
  apply Array.ext
  · simp [madeCells]
  · intro i h1 h2
    have h3 : i < m := by simpa [madeCells] using h1
    simp [madeCells, i64s, Nat.mod_one]
theorem partA_set {l : List Int} {m j : Nat} {x : Int} (hl : l.length = m) (hx : l[j]? = some x) : (partA l m j).setIfInBounds j (.int .i64 x) = partA l m (j + 1) := by
  have hj : j < l.length := (List.getElem?_eq_some_iff.1 hx).1
  unfold partA i64s
  rw [List.setIfInBounds_toArray]
  congr 1
  rw [show Value.int .i64 x = (fun z : Int => Value.int .i64 z) x from rfl, ← List.map_set]
  congr 1
  rw [List.take_add_one, hx]
  have e1 : (l.take j).length = j := by rw [List.length_take]; omega
  rw [List.set_append_right _ _ (by omega), e1, Nat.sub_self, show m - j = (m - (j + 1)) + 1 by omega, List.replicate_succ]
  simp
theorem partA_all {l : List Int} {m : Nat} (hl : l.length = m) : (partA l m m).toList = i64s l := by
  unfold partA
  rw [List.take_of_length_le (by omega), Nat.sub_self]
  simp
theorem partA_size {l : List Int} {m j : Nat} (hl : l.length = m) (hj : j ≤ m) : (partA l m j).size = m := by
  unfold partA
  simp
  omega
set_option maxHeartbeats 4000000 in
theorem clblocks_go (s z : Int) (c : Int) (w : World) (m : Nat) (M : Int) (hs0 : 0 ≤ s) (hs1 : s ≤ 1048576) (hz : (z = 1 ∧ m = 8 ∧ M = 8) ∨ (z = 2 ∧ m = 4 ∧ M = 4) ∨ (z = 4 ∧ m = 2 ∧ M = 2) ∨ (z = 8 ∧ m = 1 ∧ M = 1)) (HW : Hid (∀ w, Calls Try.prog 11 #[.int .i64 c] w (AggPost w (.int .i64 z)))) :
    Calls Try.prog 14 #[.int .i64 s, .int .i64 c] w (RowAPost w (cutsZ s z)) := by
  have HB := Lib.hid (Below.refl w.heap.size w)
  have HLEN : Hid ((cutsZ s z).length = m) := Lib.hid (by unfold cutsZ; rw [List.length_map, List.length_range]; rcases hz with ⟨rfl, rfl, rfl⟩ | ⟨rfl, rfl, rfl⟩ | ⟨rfl, rfl, rfl⟩ | ⟨rfl, rfl, rfl⟩ <;> rfl)
  have HGET : Hid (∀ j : Nat, j < m → (cutsZ s z)[j]? = some (8 * s + 1 + (j : Int) * z)) := Lib.hid fun j hj => by
    have hl := HLEN.out
    unfold cutsZ at hl ⊢
    rw [List.length_map, List.length_range] at hl
    rw [List.getElem?_map, List.getElem?_range (by omega)]; rfl
  have hz1 : 1 ≤ z ∧ z ≤ 8 := by omega
  have hm8 : m ≤ 8 := by omega
  obtain ⟨hza, hzb⟩ := hz1
  have hzn : (z == 0) = false := by simp; omega
  have HLE : Hid (∀ j : Nat, j < m → (j : Int) * z ≤ 8 ∧ 0 ≤ (j : Int) * z) := Lib.hid fun j hj => by
    rcases hz with ⟨rfl, rfl, rfl⟩ | ⟨rfl, rfl, rfl⟩ | ⟨rfl, rfl, rfl⟩ | ⟨rfl, rfl, rfl⟩ <;> omega
  obtain ⟨n, hn⟩ : ∃ n : Nat, n = m := ⟨_, rfl⟩
  obtain ⟨C, hC⟩ : ∃ C : Nat → Array Value, C = fun j => partA (cutsZ s z) m j := ⟨_, rfl⟩
  obtain ⟨L, hL⟩ : ∃ L : List Int, L = cutsZ s z := ⟨_, rfl⟩
  have HSET : Hid (∀ (j : Nat) (x : Int), L[j]? = some x → (C j).setIfInBounds j (.int .i64 x) = C (j + 1)) := Lib.hid fun j x hx => by rw [hC]; exact partA_set HLEN.out (by rw [← hL]; exact hx)
  have HY : Hid (∀ (j : Nat) (y : Int), j < m → y = 8 * s + 1 + (j : Int) * z → (C j).setIfInBounds j (.int .i64 y) = C (j + 1)) := Lib.hid fun j y h1 h2 => HSET.out j y (by rw [hL, h2]; exact HGET.out j h1)
  have HSZ : Hid (∀ j : Nat, j ≤ m → (C j).size = m) := Lib.hid fun j hj => by rw [hC]; exact partA_size HLEN.out hj
  have HALL : Hid ((C n).toList = i64s L ∧ (C n).size = n) := Lib.hid ⟨by rw [hC, hL, hn]; exact partA_all HLEN.out, by rw [hC, hn]; exact partA_size HLEN.out (Nat.le_refl _)⟩
  rw [← hL] at HLEN HGET ⊢
  have hmk : ∀ w, (Instr.makeSlice 26 (.int .i64 M) (.int .i64 M)).run Try.prog w = .ok (.slice (some ⟨w.heap.size, 0, none⟩) m m) (w.alloc (.cells (C 0) 3)) := fun w => by
    rw [show M = (m : Int) by omega, hC]
    show _ = Result.ok _ (w.alloc (.cells (partA (cutsZ s z) m 0) 3))
    rw [← partA_zero]
    exact run_make_row' _ _ _ _ Try.underlying26 infoZ rfl _ _ m (by omega) (by omega) w
  clear hC hL
  go_enter Try.func14, Try.ntmps14
  go_upto_region 4 with (go_at_call 11; ((with_reducible refine (HW.out _).mono ?_); rintro e w2 ⟨rfl, hb⟩; have HB := Lib.hid (HB.out.trans (hb.mono HB.out.size)); clear hb))
  rcases hz with ⟨rfl, rfl, rfl⟩ | ⟨rfl, rfl, rfl⟩ | ⟨rfl, rfl, rfl⟩ | ⟨rfl, rfl, rfl⟩
  all_goals
    go_upto_region 5 with (fail)
    have HK : Hid (blk (w2.alloc (.cells (C 0) 3)) w2.heap.size (C 0) 3 ∧ w.heap.size ≤ w2.heap.size ∧ Below w.heap.size w (w2.alloc (.cells (C 0) 3))) := Lib.hid ⟨blk_new _ _ _, HB.out.size, HB.out.trans (((Below.refl _ _).alloc (Nat.le_refl _) _).mono HB.out.size)⟩
    obtain ⟨H, hH⟩ : ∃ H, H = w2.heap.size := ⟨_, rfl⟩
    obtain ⟨wb, hwb⟩ : ∃ wb, wb = w2.alloc (.cells (C 0) 3) := ⟨_, rfl⟩
    rw [← hwb] at HK ⊢
    rw [← hH] at HK ⊢
    clear hwb hH hmk HB
    go_wp2_with (fail)
    go_loopw [25] (fun v wr => ∃ j : Nat, j ≤ n ∧ v = .int .i64 j ∧ Hid (blk wr H (C j) 3 ∧ w.heap.size ≤ H ∧ Below w.heap.size w wr)) (fun v _ => n - (intOf v).toNat)
    case atStart => exact ⟨0, Nat.zero_le _, rfl, HK⟩
    case round =>
      clear HK
      obtain ⟨j, hj, rfl, HK⟩ := hrel
      by_cases hjm : j < n
      · have h0 : (0 : Int) ≤ (j : Int) := by omega
        have hx := HGET.out j (by omega)
        have fh := blk_frozen HK.out.1 j
        obtain ⟨u, hu⟩ : ∃ u, (C j)[j]? = some u := ⟨_, Array.getElem?_eq_getElem (by rw [HSZ.out j (by omega)]; omega)⟩
        have ch := blk_cell HK.out.1 j _ hu
        have HN := Lib.hid hn
        have hj8 := hjm
        rw [hn] at hj8
        clear hn
        go_wp2_with (fail)
        rw [setCell_putB HK.out.1]
        go_roundw
        case rel => exact ⟨j + 1, by omega, by go_num, Lib.hid ⟨by
          rw [HY.out j]
          · exact putB_at HK.out.1 _ _
          · omega
          · omega, HK.out.2.1, HK.out.2.2.trans (putB_below _ HK.out.2.1 _ _)⟩⟩
        case measure => simp [intOf]; omega
      · obtain rfl : j = n := by omega
        have hX : Hid (RowAt wr (.slice (some ⟨H, 0, none⟩) (C j).size (C j).size) (C j).toList) := Lib.hid (row_blk HK.out.1 (by rw [HALL.out.2]; unfold maxLen; omega))
        rw [HALL.out.1, HALL.out.2] at hX
        clear hj hjm
        subst hn
        go_wp2_with (fail)
        go_ret
        exact ⟨_, rfl, hX.out, HK.out.2.2⟩
set_option maxHeartbeats 4000000 in
theorem clblocks_n (s c : Int) (w : World) (h0 : -9223372036854775808 ≤ s) (h1 : s ≤ 9223372036854775807) (h2 : -9223372036854775808 ≤ c) (h3 : c ≤ 9223372036854775807) : Calls Try.prog 14 #[.int .i64 s, .int .i64 c] w (RowAPost w (blocksZ s c)) := by
  have HW := Lib.hid (fun w => clwords_n c w h2 h3)
  have hor := words_or c
  by_cases h : s < 0 ∨ 1048576 < s ∨ wordsZ c = 0
  · rw [show blocksZ s c = [] by unfold blocksZ; rw [if_pos h]]
    have HB := Lib.hid (Below.refl w.heap.size w)
    generalize wordsZ c = z at h HW hor
    have hz5 : z = 1 ∨ z = 2 ∨ z = 4 ∨ z = 8 ∨ z = 0 := by omega
    have hc3 : (z = 0) ∨ (z ≠ 0 ∧ s < 0) ∨ (z ≠ 0 ∧ ¬ s < 0 ∧ 1048576 < s) := by omega
    rcases hc3 with rfl | ⟨hz, h0⟩ | ⟨hz, h0, h1⟩
    · clear h hor hz5
      go_enter Try.func14, Try.ntmps14
      go_wp2_with (go_at_call 11; ((with_reducible refine (HW.out _).mono ?_); rintro e w2 ⟨rfl, hb⟩; have HB := Lib.hid (HB.out.trans (hb.mono HB.out.size)); clear hb))
      go_ret
      exact ⟨_, rfl, RowAt.of_own (World.ownsRow_nil _ 0 3 1), HB.out⟩
    · have hzn : (z == 0) = false := by simp; omega
      clear h hor hz5 hz
      go_enter Try.func14, Try.ntmps14
      go_wp2_with (go_at_call 11; ((with_reducible refine (HW.out _).mono ?_); rintro e w2 ⟨rfl, hb⟩; have HB := Lib.hid (HB.out.trans (hb.mono HB.out.size)); clear hb))
      go_ret
      exact ⟨_, rfl, RowAt.of_own (World.ownsRow_nil _ 0 3 1), HB.out⟩
    · have hzn : (z == 0) = false := by simp; omega
      clear h hor hz5 hz
      go_enter Try.func14, Try.ntmps14
      go_wp2_with (go_at_call 11; ((with_reducible refine (HW.out _).mono ?_); rintro e w2 ⟨rfl, hb⟩; have HB := Lib.hid (HB.out.trans (hb.mono HB.out.size)); clear hb))
      go_ret
      exact ⟨_, rfl, RowAt.of_own (World.ownsRow_nil _ 0 3 1), HB.out⟩
  · rw [show blocksZ s c = cutsZ s (wordsZ c) by unfold blocksZ; rw [if_neg h]]
    rcases hor with ⟨_, hz⟩ | ⟨_, hz⟩ | ⟨_, hz⟩ | ⟨_, hz⟩ | ⟨_, _, _, _, hz⟩
    · rw [hz] at HW ⊢; exact clblocks_go s 1 c w 8 8 (by omega) (by omega) (by omega) HW
    · rw [hz] at HW ⊢; exact clblocks_go s 2 c w 4 4 (by omega) (by omega) (by omega) HW
    · rw [hz] at HW ⊢; exact clblocks_go s 4 c w 2 2 (by omega) (by omega) (by omega) HW
    · rw [hz] at HW ⊢; exact clblocks_go s 8 c w 1 1 (by omega) (by omega) (by omega) HW
    · omega
end Go.Proofs.Ytdnhlahecmfhdaa
