/-
  FlowAhead: the walk.
-/
import Derived.Test.YtcenjphpdgadmaaDoorFAlive
import Derived.Deep.LoopGhost
namespace Go.Proofs.YtcenjphpdgadmaaDoor
set_option linter.unusedSimpArgs false
set_option linter.unusedVariables false
open Go.RowKit

set_option maxRecDepth 100000 in
set_option maxHeartbeats 4000000 in
theorem ahead_at (w W0 : World) (p : PProg) (a : Nat) (x x' : Option Addr) (kx kx' : Nat)
    (hW0 : W0 = w.alloc (.cells (progC (.slice x p.types.length kx) p (.slice x' p.code.length kx')) 25)) (KP : Hid (Keep W0 w.heap.size (.slice x p.types.length kx) (.slice x' p.code.length kx') p)) (HB : Hid (Below w.heap.size w W0))
    (HAL : Hid (∀ w1, Calls Tryd.prog 9 #[] w1 (AggPost w1 (.bool true))))
    (HSO : Hid (∀ w1, ProgAt w1 (.agg (progC (.slice x p.types.length kx) p (.slice x' p.code.length kx'))) p → Below w.heap.size w w1 → Calls Tryd.prog 10 #[.agg (progC (.slice x p.types.length kx) p (.slice x' p.code.length kx'))] w1 (AggPost w1 (.bool (soundB p)))))
    (HNX : Hid (soundB p = true → ∀ w1 k, ProgAt w1 (.agg (progC (.slice x p.types.length kx) p (.slice x' p.code.length kx'))) p → Calls Tryd.prog 14 #[.agg (progC (.slice x p.types.length kx) p (.slice x' p.code.length kx')), .int .i64 k] w1 (RowAPost w1 (nextV p k))))
    (HSF : Hid (soundB p = true → ∀ w1 k r, ProgAt w1 (.agg (progC (.slice x p.types.length kx) p (.slice x' p.code.length kx'))) p → safeV p k = r → Calls Tryd.prog 16 #[.agg (progC (.slice x p.types.length kx) p (.slice x' p.code.length kx')), .int .i64 k] w1 (AggPost w1 (.bool r))))
    (HRC : Hid (soundB p = true → ∀ w1 k, ProgAt w1 (.agg (progC (.slice x p.types.length kx) p (.slice x' p.code.length kx'))) p → Calls Tryd.prog 11 #[.agg (progC (.slice x p.types.length kx) p (.slice x' p.code.length kx')), .int .i64 k] w1 (BoolsAPost w1 (wayV p k))))
    (HLO : Hid (soundB p = true → ∀ w1 k r, ProgAt w1 (.agg (progC (.slice x p.types.length kx) p (.slice x' p.code.length kx'))) p → loopV p k = r → Calls Tryd.prog 18 #[.agg (progC (.slice x p.types.length kx) p (.slice x' p.code.length kx')), .int .i64 k] w1 (AggPost w1 (.bool r))))
    (ha : a ≤ 255) (g2 : kx' ≤ 9223372036854775807) (g1 : p.code.length ≤ kx'):
    Calls Tryd.prog 6 #[.agg (progC (.slice x p.types.length kx) p (.slice x' p.code.length kx')), .int .u8 a] w (AggPost w (.bool true)) := by
  go_enter Tryd.func6, Tryd.ntmps6
  go_upto_region 1 with (fail)
  rw [← hW0]
  clear hW0
  rcases hsd : soundB p with _ | _
  · rw [hsd] at HSO
    go_wp2_with (first
      | (refine wpList_loadB rfl 25 _ rfl w.heap.size (progC (.slice x p.types.length kx) p (.slice x' p.code.length kx')) rfl 25 KP.out.blk _ Tryd.underlying25 rfl prog_info ?_)
      | (go_at_call 9; ((with_reducible refine (HAL.out _).mono ?_); rintro e w1 ⟨rfl, hb⟩; have KP := Lib.hid (KP.out.below hb); have HB := Lib.hid (HB.out.trans (hb.mono HB.out.size)); clear hb))
      | (go_at_call 10; ((with_reducible refine (HSO.out _ KP.out.at' HB.out).mono ?_); rintro e w2 ⟨rfl, hb⟩; have KP := Lib.hid (KP.out.below hb); have HB := Lib.hid (HB.out.trans (hb.mono HB.out.size)); clear hb)))
    go_ret
    exact ⟨rfl, HB.out⟩
  obtain ⟨-, hl60, hck, hin0, hl1⟩ := sound_parts hsd
  have HIN := Lib.hid hin0
  have HNX := Lib.hid (HNX.out hsd)
  have HSF := Lib.hid (HSF.out hsd)
  rw [hsd] at HSO
  clear hin0 hck hsd HRC HLO
  go_upto_region 5 with (first
    | (refine wpList_loadB rfl 25 _ rfl w.heap.size (progC (.slice x p.types.length kx) p (.slice x' p.code.length kx')) rfl 25 KP.out.blk _ Tryd.underlying25 rfl prog_info ?_)
    | (go_at_call 9; ((with_reducible refine (HAL.out _).mono ?_); rintro e w1 ⟨rfl, hb⟩; have KP := Lib.hid (KP.out.below hb); have HB := Lib.hid (HB.out.trans (hb.mono HB.out.size)); clear hb))
    | (go_at_call 10; ((with_reducible refine (HSO.out _ KP.out.at' HB.out).mono ?_); rintro e w2 ⟨rfl, hb⟩; have KP := Lib.hid (KP.out.below hb); have HB := Lib.hid (HB.out.trans (hb.mono HB.out.size)); clear hb)))
  have p3 := KP.out.cells.2.2.2
  have hz : ((p.code.length : Int) + 1 == 0) = false := by simp; omega
  go_upto_region 6 with (fail)
  obtain ⟨m, hm, hmm⟩ : ∃ m : Nat, m ≤ p.code.length ∧ (a : Int) % ((p.code.length : Int) + 1) = m := ⟨a % (p.code.length + 1), by have := Nat.mod_lt a (show 0 < p.code.length + 1 by omega); omega, by rw [show ((p.code.length : Int) + 1) = ((p.code.length + 1 : Nat) : Int) by simp]; rfl⟩
  rw [hmm]
  clear hmm hz p3
  go_upto_region 8 with (first
    | (refine wpList_loadB rfl 25 _ rfl w.heap.size (progC (.slice x p.types.length kx) p (.slice x' p.code.length kx')) rfl 25 KP.out.blk _ Tryd.underlying25 rfl prog_info ?_)
    | (go_at_call 14; ((with_reducible refine (HNX.out _ m KP.out.at').mono ?_); rintro e w3 ⟨v3, rfl, hr, hb⟩; obtain ⟨ad, cap, hv3, hc1, hc2, hcell⟩ := rowA_form hr; subst hv3; have KP := Lib.hid (KP.out.below hb); have HB := Lib.hid (HB.out.trans (hb.mono HB.out.size)); clear hb; clear hr)))
  have HCE := Lib.hid hcell
  clear hcell HNX HSO
  have hll : (nextV p m).length = (nextL p m).length := by rw [nextL_cast]; simp
  have hl2 := (next_sorted (q := p) m).1
  rw [← hll] at hl2
  have HL2 := Lib.hid hl2
  have HLL := Lib.hid hll
  have HX : Hid (∀ (j : Nat), j < (nextV p m).length → ∃ n : Nat, (nextV p m)[j]? = some (n : Int) ∧ n ≤ p.code.length ∧ (n ≤ m → safeV p m = true)) := Lib.hid fun j hj => by
    obtain ⟨n, hn⟩ : ∃ n, (nextL p m)[j]? = some n := ⟨_, List.getElem?_eq_getElem (by rw [← HLL.out]; exact hj)⟩
    refine ⟨n, by rw [nextL_cast]; simp [hn], (next_le HIN.out (List.mem_of_getElem? hn)).1, fun hle => ?_⟩
    rcases hsv : safeV p m with _ | _
    · unfold safeV at hsv
      rw [Int.toNat_natCast] at hsv
      have := next_ahead (List.mem_of_getElem? hn) (by simpa using hsv)
      omega
    · rfl
  have HS2 : Hid (∀ x y : Int, (nextV p m)[0]? = some x → (nextV p m)[1]? = some y → x < y) := Lib.hid fun x y h1 h2 => by
    rw [nextL_cast, List.getElem?_map] at h1 h2
    rcases h3 : (nextL p m)[0]? with _ | u
    · rw [h3] at h1; simp at h1
    · rcases h4 : (nextL p m)[1]? with _ | u'
      · rw [h4] at h2; simp at h2
      · rw [h3] at h1; rw [h4] at h2
        simp at h1 h2
        have := (next_sorted (q := p) m).2 u u' h3 h4 HIN.out
        omega
  have HB3 := Lib.hid (Below.refl w3.heap.size w3)
  clear hl2 hll
  go_wp2_with (fail)
  go_loopw [26] (fun v26 wr => ∃ j : Nat, j ≤ (nextV p m).length ∧ v26 = .int .i64 j ∧ Hid (Keep wr w.heap.size (.slice x p.types.length kx) (.slice x' p.code.length kx') p) ∧ Hid (Below w.heap.size w wr) ∧ Hid (Below w3.heap.size w3 wr)) (fun v26 _ => (nextV p m).length - (intOf v26).toNat)
  case atStart => exact ⟨0, Nat.zero_le _, rfl, KP, HB, HB3⟩
  case round =>
    obtain ⟨j, hj, rfl, KR, HBR, HB3R⟩ := hrel
    clear KP HB HB3
    obtain ⟨p0, p1, p2, p3⟩ := KR.out.cells
    by_cases hjl : j < (nextV p m).length
    · have hji : (j : Int) < ((nextV p m).length : Int) := by omega
      obtain ⟨n, hn, hnl, hns⟩ := HX.out j hjl
      obtain ⟨b, o, rfl, hbl, hq⟩ := HCE.out j _ hn
      have qj : wr.cell? ⟨b, o + j, none⟩ = some (.int .i64 (n : Int)) := by rw [HB3R.out.cell (p := ⟨b, o + j, none⟩) hbl]; exact hq
      have x0 : ¬ ((n : Int) < 0) := by omega
      have x1 : ¬ ((p.code.length : Int) < (n : Int)) := by omega
      have hj2 : j = 0 ∨ j = 1 := by have := HL2.out; omega
      have HN := Lib.hid hn
      have HNS := Lib.hid hns
      clear hq hn hns
      rcases hj2 with rfl | rfl
      · rw [Nat.add_zero] at qj
        by_cases hle : n ≤ m
        · have hsf := HNS.out hle
          have x3 : (n : Int) ≤ (m : Int) := by omega
          have HSV := Lib.hid hsf
          clear hsf hle
          go_wp2_with (go_at_call 16; ((with_reducible refine (HSF.out _ m true KR.out.at' HSV.out).mono ?_); rintro e w4 ⟨rfl, hb⟩; have KR := Lib.hid (KR.out.below hb); have HBR := Lib.hid (HBR.out.trans (hb.mono HBR.out.size)); have HB3R := Lib.hid (HB3R.out.trans (hb.mono HB3R.out.size)); clear hb p0 p1 p2 p3 qj))
          go_roundw
          case rel => exact ⟨1, by omega, by go_num, KR, HBR, HB3R⟩
          case measure => simp [intOf]; omega
        · have x3 : ¬ ((n : Int) ≤ (m : Int)) := by omega
          clear hle
          go_wp2
          go_roundw
          case rel => exact ⟨1, by omega, by go_num, KR, HBR, HB3R⟩
          case measure => simp [intOf]; omega
      · obtain ⟨n0, hn0, -, -⟩ := HX.out 0 (by omega)
        obtain ⟨b', o', hbb, hbl', hq'⟩ := HCE.out 0 _ hn0
        simp only [Option.some.injEq, Addr.mk.injEq, and_true] at hbb
        obtain ⟨rfl, rfl⟩ := hbb
        have q0 : wr.cell? ⟨b, o, none⟩ = some (.int .i64 (n0 : Int)) := by have := HB3R.out.cell (p := ⟨b, o, none⟩) hbl; rw [this]; exact hq'
        have hlt := HS2.out _ _ hn0 HN.out
        have x2 : ¬ ((n : Int) ≤ (n0 : Int)) := by omega
        clear hq' hn0 hlt
        by_cases hle : n ≤ m
        · have hsf := HNS.out hle
          have x3 : (n : Int) ≤ (m : Int) := by omega
          have HSV := Lib.hid hsf
          clear hsf hle
          go_wp2_with (go_at_call 16; ((with_reducible refine (HSF.out _ m true KR.out.at' HSV.out).mono ?_); rintro e w4 ⟨rfl, hb⟩; have KR := Lib.hid (KR.out.below hb); have HBR := Lib.hid (HBR.out.trans (hb.mono HBR.out.size)); have HB3R := Lib.hid (HB3R.out.trans (hb.mono HB3R.out.size)); clear hb p0 p1 p2 p3 qj q0))
          go_roundw
          case rel => exact ⟨2, by omega, by go_num, KR, HBR, HB3R⟩
          case measure => simp [intOf]; omega
        · have x3 : ¬ ((n : Int) ≤ (m : Int)) := by omega
          clear hle
          go_wp2
          go_roundw
          case rel => exact ⟨2, by omega, by go_num, KR, HBR, HB3R⟩
          case measure => simp [intOf]; omega
    · have hje : j = (nextV p m).length := by omega
      have hjn : ¬ ((j : Int) < ((nextV p m).length : Int)) := by omega
      have l2 : ((nextV p m).length : Int) ≤ 2 := by have := HL2.out; omega
      have hnil := next_nil (q := p) hm
      by_cases hme : m = p.code.length
      · have h0 : ((nextV p m).length : Int) = 0 := by rw [HLL.out, hnil.2 hme]; rfl
        have e1 : (((nextV p m).length : Int) == 0) = true := by rw [h0]; rfl
        have e2 : ((m : Int) == (p.code.length : Int)) = true := by simp; omega
        clear hnil hme hje h0
        go_wp2
        go_ret
        exact ⟨rfl, HBR.out⟩
      · have h0 : (nextV p m).length ≠ 0 := by
          rw [HLL.out]; intro h; exact hme (hnil.1 (List.length_eq_zero_iff.1 h))
        have e1 : (((nextV p m).length : Int) == 0) = false := beq_eq_false_iff_ne.2 (by omega)
        have e2 : ((m : Int) == (p.code.length : Int)) = false := by simp; omega
        clear hnil hme hje h0
        go_wp2
        go_ret
        exact ⟨rfl, HBR.out⟩
theorem ahead_walk (v : Value) (p : PProg) (a : Int) (w : World) (h : ProgAt w v p) (hs : OkP p) (ha0 : 0 ≤ a) (ha : a ≤ 255) (ht' : HasT w) : Calls Tryd.prog 6 #[v, .int .u8 a] w fun e w' => e = .returned (.bool true) ∧ Below w.heap.size w w' := by
  obtain ⟨vt, vc, rfl, ht, hc⟩ := id h
  have hwb : Below w.heap.size w (w.alloc (.cells (progC vt p vc) 25)) := (Below.refl _ _).alloc (Nat.le_refl _) _
  have HK := keep_new h
  obtain ⟨x, c, rfl, -, -, -⟩ := id ht.elems
  obtain ⟨x', c', rfl, q1, q2, -⟩ := id hc
  obtain ⟨ka, rfl⟩ : ∃ ka : Nat, a = ka := ⟨a.toNat, by omega⟩
  unfold maxLen at q2
  exact ahead_at w _ p ka x x' c c' rfl (Lib.hid HK) (Lib.hid hwb) (Lib.hid fun w1 => falive_n w1) (Lib.hid fun w1 h1 hb1 => sound_n _ p w1 _ h1 hs (ht'.below hb1) rfl)
    (Lib.hid fun hsd w1 k h1 => fnext_n _ p w1 k h1 hs (sound_parts hsd).2.2.2.1 (by have := (sound_parts hsd).2.1; omega)) (Lib.hid fun hsd w1 k r h1 hr => fsafe_n _ p w1 k r h1 hs (sound_parts hsd).2.2.2.1 (by have := (sound_parts hsd).2.1; omega) hr)
    (Lib.hid fun hsd w1 k h1 => freach_n _ p w1 k h1 hs (sound_parts hsd).2.2.2.1 (by have := (sound_parts hsd).2.1; omega)) (Lib.hid fun hsd w1 k r h1 hr => floops_n _ p w1 k r h1 hs (sound_parts hsd).2.2.2.1 (by have := (sound_parts hsd).2.1; omega) hr)
    (by omega) (by omega) q1
end Go.Proofs.YtcenjphpdgadmaaDoor
