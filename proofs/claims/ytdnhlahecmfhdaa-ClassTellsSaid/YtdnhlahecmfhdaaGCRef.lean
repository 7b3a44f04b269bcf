/-
  The document's own answers for classes.
-/
import Derived.Test.YtdnhlahecmfhdaaGCBase
namespace Go.Proofs.Ytdnhlahecmfhdaa
open Go.RowKit

set_option maxHeartbeats 2000000 in
theorem rwords13_n (c : Int) (w : World) : Calls Try.prog 12 #[.int .i64 c] w (AggPost w (.int .i64 (wordsZ c))) := by
  rcases words_or c with ⟨rfl, h⟩ | ⟨rfl, h⟩ | ⟨rfl, h⟩ | ⟨rfl, h⟩ | ⟨h0, h1, h2, h3, h⟩
  case' inr.inr.inr.inr =>
    have e0 : (c == 0) = false := by simpa using h0
    have e1 : (c == 1) = false := by simpa using h1
    have e2 : (c == 2) = false := by simpa using h2
    have e3 : (c == 3) = false := by simpa using h3
  all_goals
    rw [h]
    clear h
    go_enter Try.func12, Try.ntmps12
    go_wp2
    go_ret
    exact ⟨rfl, Below.refl _ _⟩
theorem rwords13_h {c z : Int} (h : Hid (wordsZ c = z)) (w : World) : Calls Try.prog 12 #[.int .i64 c] w (AggPost w (.int .i64 z)) := by rw [← h.out]; exact rwords13_n c w
set_option maxHeartbeats 4000000 in
theorem rof13_n (n : Int) (w : World) : Calls Try.prog 10 #[.int .i64 n] w (AggPost w (.int .i64 (ofZ n))) := by
  have H0 := Lib.hid (fun w => rwords13_h (c := 0) (z := 1) (Lib.hid rfl) w)
  have H1 := Lib.hid (fun w => rwords13_h (c := 1) (z := 2) (Lib.hid rfl) w)
  have H2 := Lib.hid (fun w => rwords13_h (c := 2) (z := 4) (Lib.hid rfl) w)
  have H3 := Lib.hid (fun w => rwords13_h (c := 3) (z := 8) (Lib.hid rfl) w)
  obtain ⟨R, hR⟩ : ∃ R, R = ofZ n := ⟨_, rfl⟩
  rw [← hR]
  have HR := Lib.hid hR
  clear hR
  have HB := Lib.hid (Below.refl w.heap.size w)
  by_cases hn : n < 1
  · have hn1 : ¬ (1 ≤ n) := by omega
    have HRm : Hid (R = -1) := Lib.hid (by rw [HR.out]; unfold ofZ; rw [if_pos hn])
    clear hn
    go_enter Try.func10, Try.ntmps10
    go_wp2_with (fail)
    go_loopw [3] (fun v wr => ∃ k : Nat, k ≤ 4 ∧ v = .int .i64 k ∧ wr = w) (fun v _ => 4 - (intOf v).toNat)
    case atStart => exact ⟨0, by omega, rfl, rfl⟩
    case round =>
      obtain ⟨k, hk, rfl, hwr⟩ := hrel
      subst hwr
      by_cases hk4 : k < 4
      · have hki : (k : Int) < 4 := by omega
        go_wp2_with (fail)
        go_roundw
        case rel => exact ⟨k + 1, by omega, by go_num, trivial⟩
        case measure => simp [intOf]; omega
      · have hki : ¬ ((k : Int) < 4) := by omega
        go_wp2_with (fail)
        go_ret
        exact ⟨congrArg (fun z : Int => Ending.returned (.int .i64 z)) HRm.out.symm, HB.out⟩
  · have hn1 : 1 ≤ n := by omega
    go_enter Try.func10, Try.ntmps10
    go_wp2_with (fail)
    go_loopw [3] (fun v wr => ∃ k : Int, ((k = 0 ∧ 0 < n) ∨ (k = 1 ∧ 1 < n) ∨ (k = 2 ∧ 2 < n) ∨ (k = 3 ∧ 4 < n) ∨ (k = 4 ∧ 8 < n)) ∧ v = .int .i64 k ∧ Hid (Below w.heap.size w wr)) (fun v _ => 4 - (intOf v).toNat)
    case atStart => exact ⟨0, .inl ⟨rfl, by omega⟩, rfl, HB⟩
    case round =>
      clear HB
      obtain ⟨k, hk, rfl, HB⟩ := hrel
      rcases hk with ⟨rfl, hk⟩ | ⟨rfl, hk⟩ | ⟨rfl, hk⟩ | ⟨rfl, hk⟩ | ⟨rfl, hk⟩
      · by_cases hw : n ≤ 1
        · have HX : Hid ((0 : Int) = R) := Lib.hid (by rw [HR.out]; unfold ofZ; rw [if_neg (by omega), if_pos hw])
          go_wp2_with (go_at_call 12; ((with_reducible refine (H0.out _).mono ?_); rintro e w2 ⟨rfl, hb⟩; have HB := Lib.hid (HB.out.trans (hb.mono HB.out.size)); clear hb))
          go_ret
          exact ⟨congrArg (fun z : Int => Ending.returned (.int .i64 z)) HX.out, HB.out⟩
        · go_wp2_with (go_at_call 12; ((with_reducible refine (H0.out _).mono ?_); rintro e w2 ⟨rfl, hb⟩; have HB := Lib.hid (HB.out.trans (hb.mono HB.out.size)); clear hb))
          go_roundw
          case rel => exact ⟨1, .inr (.inl ⟨rfl, by omega⟩), by go_num, HB⟩
          case measure => simp [intOf]
      · by_cases hw : n ≤ 2
        · have HX : Hid ((1 : Int) = R) := Lib.hid (by rw [HR.out]; unfold ofZ; rw [if_neg (by omega), if_neg (by omega), if_pos hw])
          go_wp2_with (go_at_call 12; ((with_reducible refine (H1.out _).mono ?_); rintro e w2 ⟨rfl, hb⟩; have HB := Lib.hid (HB.out.trans (hb.mono HB.out.size)); clear hb))
          go_ret
          exact ⟨congrArg (fun z : Int => Ending.returned (.int .i64 z)) HX.out, HB.out⟩
        · go_wp2_with (go_at_call 12; ((with_reducible refine (H1.out _).mono ?_); rintro e w2 ⟨rfl, hb⟩; have HB := Lib.hid (HB.out.trans (hb.mono HB.out.size)); clear hb))
          go_roundw
          case rel => exact ⟨2, .inr (.inr (.inl ⟨rfl, by omega⟩)), by go_num, HB⟩
          case measure => simp [intOf]
      · by_cases hw : n ≤ 4
        · have HX : Hid ((2 : Int) = R) := Lib.hid (by rw [HR.out]; unfold ofZ; rw [if_neg (by omega), if_neg (by omega), if_neg (by omega), if_pos hw])
          go_wp2_with (go_at_call 12; ((with_reducible refine (H2.out _).mono ?_); rintro e w2 ⟨rfl, hb⟩; have HB := Lib.hid (HB.out.trans (hb.mono HB.out.size)); clear hb))
          go_ret
          exact ⟨congrArg (fun z : Int => Ending.returned (.int .i64 z)) HX.out, HB.out⟩
        · go_wp2_with (go_at_call 12; ((with_reducible refine (H2.out _).mono ?_); rintro e w2 ⟨rfl, hb⟩; have HB := Lib.hid (HB.out.trans (hb.mono HB.out.size)); clear hb))
          go_roundw
          case rel => exact ⟨3, .inr (.inr (.inr (.inl ⟨rfl, by omega⟩))), by go_num, HB⟩
          case measure => simp [intOf]
      · by_cases hw : n ≤ 8
        · have HX : Hid ((3 : Int) = R) := Lib.hid (by rw [HR.out]; unfold ofZ; rw [if_neg (by omega), if_neg (by omega), if_neg (by omega), if_neg (by omega), if_pos hw])
          go_wp2_with (go_at_call 12; ((with_reducible refine (H3.out _).mono ?_); rintro e w2 ⟨rfl, hb⟩; have HB := Lib.hid (HB.out.trans (hb.mono HB.out.size)); clear hb))
          go_ret
          exact ⟨congrArg (fun z : Int => Ending.returned (.int .i64 z)) HX.out, HB.out⟩
        · go_wp2_with (go_at_call 12; ((with_reducible refine (H3.out _).mono ?_); rintro e w2 ⟨rfl, hb⟩; have HB := Lib.hid (HB.out.trans (hb.mono HB.out.size)); clear hb))
          go_roundw
          case rel => exact ⟨4, .inr (.inr (.inr (.inr ⟨rfl, by omega⟩))), by go_num, HB⟩
          case measure => simp [intOf]
      · have HX : Hid ((-1 : Int) = R) := Lib.hid (by rw [HR.out]; unfold ofZ; rw [if_neg (by omega), if_neg (by omega), if_neg (by omega), if_neg (by omega), if_neg (by omega)])
        go_wp2_with (fail)
        go_ret
        exact ⟨congrArg (fun z : Int => Ending.returned (.int .i64 z)) HX.out, HB.out⟩
set_option maxHeartbeats 2000000 in
theorem rin13_n (p : Int) (w : World) (h1 : p ≤ 9223372036854775807) : Calls Try.prog 17 #[.int .i64 p] w (AggPost w (.int .i64 (inZ p))) := by
  by_cases hp : p < 1
  · rw [show inZ p = -1 by unfold inZ; rw [if_pos hp]]
    go_enter Try.func17, Try.ntmps17
    go_wp2
    go_ret
    exact ⟨rfl, Below.refl _ _⟩
  · rw [show inZ p = (p - 1) / 8 by unfold inZ; rw [if_neg hp]]
    have hp1 : 1 ≤ p := by omega
    have h0 : 0 ≤ p - 1 := by omega
    go_enter Try.func17, Try.ntmps17
    go_wp2
    go_ret
    exact ⟨by go_num, Below.refl _ _⟩
set_option maxHeartbeats 4000000 in
theorem rbegins13_n (p c : Int) (w : World) (h1 : p ≤ 9223372036854775807) : Calls Try.prog 19 #[.int .i64 p, .int .i64 c] w (AggPost w (.bool (beginsZ p c))) := by
  have HB := Lib.hid (Below.refl w.heap.size w)
  obtain ⟨z, hz⟩ : ∃ z, z = wordsZ c := ⟨_, rfl⟩
  have HW := Lib.hid (fun w => rwords13_h (c := c) (z := z) (Lib.hid hz.symm) w)
  by_cases hp : p < 1
  · rw [show beginsZ p c = false by unfold beginsZ; rw [decide_eq_false (by omega)]; rfl]
    have hp1 : ¬ (1 ≤ p) := by omega
    go_enter Try.func19, Try.ntmps19
    go_wp2
    go_ret
    exact ⟨rfl, Below.refl _ _⟩
  · have hp1 : 1 ≤ p := by omega
    have h0 : 0 ≤ p - 1 := by omega
    have e : beginsZ p c = (decide (0 < z) && decide ((p - 1) % 8 % z = 0)) := by unfold beginsZ; rw [decide_eq_true hp1, ← hz]; rfl
    obtain ⟨R, hR⟩ : ∃ R, R = beginsZ p c := ⟨_, rfl⟩
    rw [← hR]
    rw [e] at hR
    have hor := words_or c
    rw [← hz] at hor
    have hz5 : z = 1 ∨ z = 2 ∨ z = 4 ∨ z = 8 ∨ z = 0 := by omega
    clear e hz hor hp
    rcases hz5 with rfl | rfl | rfl | rfl | rfl
    all_goals
      have HR := Lib.hid hR
      clear hR
      go_enter Try.func19, Try.ntmps19
      go_wp2_with (go_at_call 12; ((with_reducible refine (HW.out _).mono ?_); rintro e w2 ⟨rfl, hb⟩; have HB := Lib.hid (HB.out.trans (hb.mono HB.out.size)); clear hb))
      go_ret
      refine ⟨?_, HB.out⟩
      rw [HR.out]
      first
        | rfl
        | (refine congrArg (fun z => Ending.returned (.bool z)) ?_; rw [show (p - 1) % 8 % 1 = 0 by omega]; rfl)
        | (refine congrArg (fun z => Ending.returned (.bool z)) ?_; rw [show (p - 1) % 8 % 2 = (p - 1) % 2 by omega]; rfl)
        | (refine congrArg (fun z => Ending.returned (.bool z)) ?_; rw [show (p - 1) % 8 % 4 = (p - 1) % 4 by omega]; rfl)
        | (refine congrArg (fun z => Ending.returned (.bool z)) ?_; rw [show (p - 1) % 8 % 8 = (p - 1) % 8 by omega]; rfl)
set_option maxHeartbeats 4000000 in
theorem rblocks13_go (s z : Int) (c : Int) (w : World) (m : Nat) (hs0 : 0 ≤ s) (hs1 : s ≤ 1048576) (hz : (z = 1 ∧ m = 8) ∨ (z = 2 ∧ m = 4) ∨ (z = 4 ∧ m = 2) ∨ (z = 8 ∧ m = 1)) (HW : Hid (∀ w, Calls Try.prog 12 #[.int .i64 c] w (AggPost w (.int .i64 z)))) :
    Calls Try.prog 15 #[.int .i64 s, .int .i64 c] w (RowPost w (cutsZ s z)) := by
  have HB := Lib.hid (Below.refl w.heap.size w)
  have HLEN : Hid ((cutsZ s z).length = m) := Lib.hid (by unfold cutsZ; rw [List.length_map, List.length_range]; rcases hz with ⟨rfl, rfl⟩ | ⟨rfl, rfl⟩ | ⟨rfl, rfl⟩ | ⟨rfl, rfl⟩ <;> rfl)
  have HGET : Hid (∀ j : Nat, j < m → (cutsZ s z)[j]? = some (8 * s + 1 + (j : Int) * z)) := Lib.hid fun j hj => by
    have hl := HLEN.out
    unfold cutsZ at hl ⊢
    rw [List.length_map, List.length_range] at hl
    rw [List.getElem?_map, List.getElem?_range (by omega)]; rfl
  have hz1 : 1 ≤ z ∧ z ≤ 8 := by omega
  have hm8 : m ≤ 8 := by omega
  have HMZ : Hid ((m : Int) * z = 8) := Lib.hid (by rcases hz with ⟨rfl, rfl⟩ | ⟨rfl, rfl⟩ | ⟨rfl, rfl⟩ | ⟨rfl, rfl⟩ <;> rfl)
  obtain ⟨hza, hzb⟩ := hz1
  have hzn : (z == 0) = false := by simp; omega
  have HLE : Hid (∀ j : Nat, j ≤ m → (j : Int) * z ≤ 8 ∧ 0 ≤ (j : Int) * z ∧ ((j : Int) * z + z ≤ 8 ↔ j < m) ∧ ((j + 1 : Nat) : Int) * z = (j : Int) * z + z) := Lib.hid fun j hj => by
    rcases hz with ⟨rfl, rfl⟩ | ⟨rfl, rfl⟩ | ⟨rfl, rfl⟩ | ⟨rfl, rfl⟩ <;> omega
  clear hz
  go_enter Try.func15, Try.ntmps15
  go_wp2_with (go_at_call 12; ((with_reducible refine (HW.out _).mono ?_); rintro e w2 ⟨rfl, hb⟩; have HB := Lib.hid (HB.out.trans (hb.mono HB.out.size)); clear hb))
  go_loopw [6, 7] (fun v6 v7 wr => ∃ (j : Nat) (vr : Value), j ≤ m ∧ vr = v6 ∧ v7 = .int .i64 ((j : Int) * z) ∧ Hid (wr.ownsRow w.heap.size 3 1 vr ((cutsZ s z).take j).length (i64s ((cutsZ s z).take j))) ∧ Hid (Below w.heap.size w wr)) (fun _ v7 _ => 8 - (intOf v7).toNat)
  case atStart => exact ⟨0, _, Nat.zero_le _, rfl, by simp, Lib.hid (World.ownsRow_nil _ _ _ _), HB⟩
  case round =>
    clear HB
    obtain ⟨j, vr, hj, rfl, rfl, HO, HB⟩ := hrel
    obtain ⟨hle, hge, hiff, hnx⟩ := HLE.out j hj
    have HNX := Lib.hid hnx
    clear hnx
    by_cases hjm : j < m
    · have h8 := hiff.2 hjm
      have HT : Hid ((cutsZ s z).take (j + 1) = (cutsZ s z).take j ++ [8 * s + 1 + (j : Int) * z]) := Lib.hid (by rw [List.take_add_one, HGET.out j hjm]; rfl)
      have hlt : ((cutsZ s z).take j).length ≤ 1000000 := by rw [List.length_take]; omega
      clear hiff
      generalize (j : Int) * z = q at hle hge h8 HT HNX
      go_wp2_with (at_builtin; refine wpList_append_int rfl _ _ rfl w.heap.size vr ((cutsZ s z).take j) (8 * s + 1 + q) rfl rfl HO.out HB.out.size hlt ?_; intro v' w' hown hbl; have HO2 := Lib.hid hown; have HB2 := Lib.hid (HB.out.trans hbl); clear hown hbl)
      rw [← HT.out] at HO2
      go_roundw
      case rel => exact ⟨j + 1, v', by omega, rfl, by rw [HNX.out], HO2, HB2⟩
      case measure => simp [intOf]; omega
    · have h8 : ¬ ((j : Int) * z + z ≤ 8) := fun h => hjm (hiff.1 h)
      have HE : Hid ((cutsZ s z).take j = cutsZ s z) := Lib.hid (List.take_of_length_le (by rw [HLEN.out]; omega))
      clear hiff
      go_wp2_with (fail)
      go_ret
      have h9 := HO.out
      rw [HE.out] at h9
      exact ⟨_, rfl, h9, HB.out⟩
theorem rblocks13_n (s c : Int) (w : World) : Calls Try.prog 15 #[.int .i64 s, .int .i64 c] w (RowPost w (blocksZ s c)) := by
  have HW := Lib.hid (fun w => rwords13_n c w)
  have hor := words_or c
  by_cases h : s < 0 ∨ 1048576 < s ∨ wordsZ c = 0
  · rw [show blocksZ s c = [] by unfold blocksZ; rw [if_pos h]]
    have HB := Lib.hid (Below.refl w.heap.size w)
    generalize wordsZ c = z at h HW hor
    by_cases h0 : s < 0
    · clear h hor
      go_enter Try.func15, Try.ntmps15
      go_wp2_with (go_at_call 12; ((with_reducible refine (HW.out _).mono ?_); rintro e w2 ⟨rfl, hb⟩; have HB := Lib.hid (HB.out.trans (hb.mono HB.out.size)); clear hb))
      go_ret
      exact ⟨_, rfl, World.ownsRow_nil _ _ _ _, HB.out⟩
    · by_cases h1 : 1048576 < s
      · clear h hor
        go_enter Try.func15, Try.ntmps15
        go_wp2_with (go_at_call 12; ((with_reducible refine (HW.out _).mono ?_); rintro e w2 ⟨rfl, hb⟩; have HB := Lib.hid (HB.out.trans (hb.mono HB.out.size)); clear hb))
        go_ret
        exact ⟨_, rfl, World.ownsRow_nil _ _ _ _, HB.out⟩
      · obtain rfl : z = 0 := by omega
        clear h hor
        go_enter Try.func15, Try.ntmps15
        go_wp2_with (go_at_call 12; ((with_reducible refine (HW.out _).mono ?_); rintro e w2 ⟨rfl, hb⟩; have HB := Lib.hid (HB.out.trans (hb.mono HB.out.size)); clear hb))
        go_ret
        exact ⟨_, rfl, World.ownsRow_nil _ _ _ _, HB.out⟩
  · rw [show blocksZ s c = cutsZ s (wordsZ c) by unfold blocksZ; rw [if_neg h]]
    rcases hor with ⟨_, hz⟩ | ⟨_, hz⟩ | ⟨_, hz⟩ | ⟨_, hz⟩ | ⟨_, _, _, _, hz⟩
    · rw [hz] at HW ⊢; exact rblocks13_go s 1 c w 8 (by omega) (by omega) (by omega) HW
    · rw [hz] at HW ⊢; exact rblocks13_go s 2 c w 4 (by omega) (by omega) (by omega) HW
    · rw [hz] at HW ⊢; exact rblocks13_go s 4 c w 2 (by omega) (by omega) (by omega) HW
    · rw [hz] at HW ⊢; exact rblocks13_go s 8 c w 1 (by omega) (by omega) (by omega) HW
    · omega
end Go.Proofs.Ytdnhlahecmfhdaa
