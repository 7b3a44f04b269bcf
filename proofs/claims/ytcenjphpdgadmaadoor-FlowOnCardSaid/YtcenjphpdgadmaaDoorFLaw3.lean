/-
  FlowOn: the walk.
-/
import Derived.Test.YtcenjphpdgadmaaDoorFAlive
import Derived.Deep.LoopGhost
namespace Go.Proofs.YtcenjphpdgadmaaDoor
set_option linter.unusedSimpArgs false
set_option linter.unusedVariables false
open Go.RowKit

set_option maxRecDepth 100000 in
set_option maxHeartbeats 4000000 in
theorem on_at (w W0 : World) (p : PProg) (a : Nat) (x x' : Option Addr) (kx kx' : Nat)
    (hW0 : W0 = w.alloc (.cells (progC (.slice x p.types.length kx) p (.slice x' p.code.length kx')) 25)) (KP : Hid (Keep W0 w.heap.size (.slice x p.types.length kx) (.slice x' p.code.length kx') p)) (HB : Hid (Below w.heap.size w W0))
    (HAL : Hid (∀ w1, Calls Tryd.prog 9 #[] w1 (AggPost w1 (.bool true))))
    (HSO : Hid (∀ w1, ProgAt w1 (.agg (progC (.slice x p.types.length kx) p (.slice x' p.code.length kx'))) p → Below w.heap.size w w1 → Calls Tryd.prog 10 #[.agg (progC (.slice x p.types.length kx) p (.slice x' p.code.length kx'))] w1 (AggPost w1 (.bool (soundB p)))))
    (HNX : Hid (soundB p = true → ∀ w1 k, ProgAt w1 (.agg (progC (.slice x p.types.length kx) p (.slice x' p.code.length kx'))) p → Calls Tryd.prog 14 #[.agg (progC (.slice x p.types.length kx) p (.slice x' p.code.length kx')), .int .i64 k] w1 (RowAPost w1 (nextV p k))))
    (HSF : Hid (soundB p = true → ∀ w1 k r, ProgAt w1 (.agg (progC (.slice x p.types.length kx) p (.slice x' p.code.length kx'))) p → safeV p k = r → Calls Tryd.prog 16 #[.agg (progC (.slice x p.types.length kx) p (.slice x' p.code.length kx')), .int .i64 k] w1 (AggPost w1 (.bool r))))
    (HRC : Hid (soundB p = true → ∀ w1 k, ProgAt w1 (.agg (progC (.slice x p.types.length kx) p (.slice x' p.code.length kx'))) p → Calls Tryd.prog 11 #[.agg (progC (.slice x p.types.length kx) p (.slice x' p.code.length kx')), .int .i64 k] w1 (BoolsAPost w1 (wayV p k))))
    (HLO : Hid (soundB p = true → ∀ w1 k r, ProgAt w1 (.agg (progC (.slice x p.types.length kx) p (.slice x' p.code.length kx'))) p → loopV p k = r → Calls Tryd.prog 18 #[.agg (progC (.slice x p.types.length kx) p (.slice x' p.code.length kx')), .int .i64 k] w1 (AggPost w1 (.bool r))))
    (ha : a ≤ 255) (g2 : kx' ≤ 9223372036854775807) (g1 : p.code.length ≤ kx'):
    Calls Tryd.prog 5 #[.agg (progC (.slice x p.types.length kx) p (.slice x' p.code.length kx')), .int .u8 a] w (AggPost w (.bool true)) := by
  go_enter Tryd.func5, Tryd.ntmps5
  go_upto_region 1 with (fail)
  rw [← hW0]
  clear hW0
  rcases hsd : soundB p with _ | _
  · rw [hsd] at HSO
    go_wp2_with (first
      | (refine wpList_loadB rfl 25 _ rfl w.heap.size (progC (.slice x p.types.length kx) p (.slice x' p.code.length kx')) rfl 25 KP.out.blk _ Tryd.underlying25 rfl prog_info ?_)
      | (go_at_call 9; ((with_reducible refine (HAL.out _).mono ?_); rintro e w1 ⟨rfl, hb⟩; have KP := Lib.hid (KP.out.below hb); have HB := Lib.hid (HB.out.trans (hb.mono HB.out.size)); clear hb))
      | (go_at_call 10; ((with_reducible refine (HSO.out _ KP.out.at' HB.out).mono ?_); rintro e w2 ⟨rfl, hb⟩; have KP := Lib.hid (KP.out.below hb); have HB := Lib.hid (HB.out.trans (hb.mono HB.out.size)); clear hb)))
    go_ret
    exact ⟨rfl, HB.out⟩
  obtain ⟨-, hl60, hck, hin0, hl1⟩ := sound_parts hsd
  have HIN := Lib.hid hin0
  have HNX := Lib.hid (HNX.out hsd)
  have HRC := Lib.hid (HRC.out hsd)
  rw [hsd] at HSO
  clear hin0 hck hsd HSF HLO
  go_upto_region 5 with (first
    | (refine wpList_loadB rfl 25 _ rfl w.heap.size (progC (.slice x p.types.length kx) p (.slice x' p.code.length kx')) rfl 25 KP.out.blk _ Tryd.underlying25 rfl prog_info ?_)
    | (go_at_call 9; ((with_reducible refine (HAL.out _).mono ?_); rintro e w1 ⟨rfl, hb⟩; have KP := Lib.hid (KP.out.below hb); have HB := Lib.hid (HB.out.trans (hb.mono HB.out.size)); clear hb))
    | (go_at_call 10; ((with_reducible refine (HSO.out _ KP.out.at' HB.out).mono ?_); rintro e w2 ⟨rfl, hb⟩; have KP := Lib.hid (KP.out.below hb); have HB := Lib.hid (HB.out.trans (hb.mono HB.out.size)); clear hb)))
  have p3 := KP.out.cells.2.2.2
  have hz : ((p.code.length : Int) + 1 == 0) = false := by simp; omega
  go_upto_region 6 with (fail)
  obtain ⟨m, hm, hmm⟩ : ∃ m : Nat, m ≤ p.code.length ∧ (a : Int) % ((p.code.length : Int) + 1) = m := ⟨a % (p.code.length + 1), by have := Nat.mod_lt a (show 0 < p.code.length + 1 by omega); omega, by rw [show ((p.code.length : Int) + 1) = ((p.code.length + 1 : Nat) : Int) by simp]; rfl⟩
  rw [hmm]
  clear hmm hz p3
  go_upto_region 7 with (first
    | (refine wpList_loadB rfl 25 _ rfl w.heap.size (progC (.slice x p.types.length kx) p (.slice x' p.code.length kx')) rfl 25 KP.out.blk _ Tryd.underlying25 rfl prog_info ?_)
    | (go_at_call 11; ((with_reducible refine (HRC.out _ (m : Int) KP.out.at').mono ?_); rintro e w3 ⟨v3, rfl, hr, hb⟩; obtain ⟨b6, o6, c6, hv3, hc1, hc2, hb6, hcell⟩ := boolsA_cells hr (wayV_n hm); subst hv3; have KP := Lib.hid (KP.out.below hb); have HB := Lib.hid (HB.out.trans (hb.mono HB.out.size)); clear hb; clear hr)))
  rw [wayV_at hm] at hcell
  have HL := Lib.hid hcell
  clear hcell HSO
  have p3 := KP.out.cells.2.2.2
  have HB3 := Lib.hid (Below.refl w3.heap.size w3)
  go_upto_region 9 with (fail)
  clear p3
  go_upto_region 10 with (first
    | (refine wpList_loadB rfl 25 _ rfl w.heap.size (progC (.slice x p.types.length kx) p (.slice x' p.code.length kx')) rfl 25 KP.out.blk _ Tryd.underlying25 rfl prog_info ?_)
    | (go_at_call 14; ((with_reducible refine (HNX.out _ m KP.out.at').mono ?_); rintro e w4 ⟨v4, rfl, hr, hb⟩; obtain ⟨ad, cap, hv4, hd1, hd2, hcell⟩ := rowA_form hr; subst hv4; have KP := Lib.hid (KP.out.below hb); have HB := Lib.hid (HB.out.trans (hb.mono HB.out.size)); have HB3 := Lib.hid (HB3.out.trans (hb.mono HB3.out.size)); clear hb hr)))
  have HCE := Lib.hid hcell
  have HLL := Lib.hid (show (nextV p m).length = (nextL p m).length by rw [nextL_cast]; simp)
  have HB4 := Lib.hid (Below.refl w4.heap.size w4)
  clear hcell HNX
  go_wp2_with (fail)
  go_loopw [39] (fun v39 wr => ∃ j : Nat, j ≤ (nextV p m).length ∧ v39 = .int .i64 j ∧ Hid (Keep wr w.heap.size (.slice x p.types.length kx) (.slice x' p.code.length kx') p) ∧ Hid (Below w.heap.size w wr) ∧ Hid (Below w3.heap.size w3 wr) ∧ Hid (Below w4.heap.size w4 wr)) (fun v39 _ => (nextV p m).length - (intOf v39).toNat)
  case atStart => exact ⟨0, Nat.zero_le _, rfl, KP, HB, HB3, HB4⟩
  case round =>
    obtain ⟨j, hj, rfl, KR, HBR, HB3R, HB4R⟩ := hrel
    clear KP HB HB3 HB4
    by_cases hjl : j < (nextV p m).length
    · have hji : (j : Int) < ((nextV p m).length : Int) := by omega
      obtain ⟨n, hn⟩ : ∃ n, (nextL p m)[j]? = some n := ⟨_, List.getElem?_eq_getElem (by rw [← HLL.out]; exact hjl)⟩
      have hnl := (next_le HIN.out (List.mem_of_getElem? hn)).1
      obtain ⟨b, o, rfl, hbl, hq⟩ := HCE.out j (n : Int) (by rw [nextL_cast]; simp [hn])
      have qj : wr.cell? ⟨b, o + j, none⟩ = some (.int .i64 (n : Int)) := by rw [HB4R.out.cell (p := ⟨b, o + j, none⟩) hbl]; exact hq
      have ql : wr.cell? ⟨b6, o6 + n, none⟩ = some (.bool true) := by
        have := HL.out n hnl
        rw [way_next HIN.out hm (List.mem_of_getElem? hn)] at this
        rw [HB3R.out.cell (p := ⟨b6, o6 + n, none⟩) hb6]; exact this
      have hni : (n : Int) < (p.code.length : Int) + 1 := by omega
      have hn0 : (0 : Int) ≤ (n : Int) := by omega
      clear hq hn
      go_wp2
      go_roundw
      case rel => exact ⟨j + 1, by omega, by go_num, KR, HBR, HB3R, HB4R⟩
      case measure => simp [intOf]; omega
    · have hjn : ¬ ((j : Int) < ((nextV p m).length : Int)) := by omega
      clear HB4R HCE hjl hj
      go_wp2_with (fail)
      obtain ⟨wo, hwo⟩ : ∃ wo : World, wo = wr := ⟨_, rfl⟩
      rw [← hwo] at KR HBR HB3R ⊢
      clear hwo hjn
      go_loopw [51] (fun v51 wr => ∃ j : Nat, j ≤ p.code.length + 1 ∧ v51 = .int .i64 j ∧ Hid (Keep wr w.heap.size (.slice x p.types.length kx) (.slice x' p.code.length kx') p) ∧ Hid (Below w.heap.size w wr) ∧ Hid (Below w3.heap.size w3 wr)) (fun v51 _ => p.code.length + 1 - (intOf v51).toNat)
      case atStart => exact ⟨0, Nat.zero_le _, rfl, KR, HBR, HB3R⟩
      case round =>
        obtain ⟨k, hk, rfl, KR, HBR, HB3R⟩ := hrel
        by_cases hkl : k ≤ p.code.length
        · have hki : (k : Int) < (p.code.length : Int) + 1 := by omega
          have qk : wr.cell? ⟨b6, o6 + k, none⟩ = some (.bool ((wayL p m).getD k false)) := by rw [HB3R.out.cell (p := ⟨b6, o6 + k, none⟩) hb6]; exact HL.out k hkl
          rcases hkt : (wayL p m).getD k false with _ | _
          · rw [hkt] at qk
            clear hkt
            go_wp2
            go_roundw
            case rel => exact ⟨k + 1, by omega, by go_num, KR, HBR, HB3R⟩
            case measure => simp [intOf]; omega
          · rw [hkt] at qk
            have HKT := Lib.hid hkt
            clear hkt
            go_wp2_with (first
              | (refine wpList_loadB rfl 25 _ rfl w.heap.size (progC (.slice x p.types.length kx) p (.slice x' p.code.length kx')) rfl 25 KR.out.blk _ Tryd.underlying25 rfl prog_info ?_)
              | (go_at_call 11; ((with_reducible refine (HRC.out _ (k : Int) KR.out.at').mono ?_); rintro e w5 ⟨v5, rfl, hr, hb⟩; obtain ⟨b7, o7, c7, hv5, hc71, hc72, hb7, hcell⟩ := boolsA_cells hr (wayV_n hkl); subst hv5; have KR := Lib.hid (KR.out.below hb); have HBR := Lib.hid (HBR.out.trans (hb.mono HBR.out.size)); have HB3R := Lib.hid (HB3R.out.trans (hb.mono HB3R.out.size)); have HB5 := Lib.hid (Below.refl w5.heap.size w5); rw [wayV_at hkl] at hcell; have HL7 := Lib.hid hcell; clear hr hb hcell qk)))
            go_loopw [62] (fun v62 wr => ∃ i : Nat, i ≤ p.code.length + 1 ∧ v62 = .int .i64 i ∧ Hid (Keep wr w.heap.size (.slice x p.types.length kx) (.slice x' p.code.length kx') p) ∧ Hid (Below w.heap.size w wr) ∧ Hid (Below w3.heap.size w3 wr) ∧ Hid (Below w5.heap.size w5 wr)) (fun v62 _ => p.code.length + 1 - (intOf v62).toNat)
            case atStart => exact ⟨0, Nat.zero_le _, rfl, KR, HBR, HB3R, HB5⟩
            case round =>
              obtain ⟨i, hi, rfl, KR, HBR, HB3R, HB5R⟩ := hrel
              clear HB5
              by_cases hil : i ≤ p.code.length
              · have hii : (i : Int) < (p.code.length : Int) + 1 := by omega
                have q7 : wr.cell? ⟨b7, o7 + i, none⟩ = some (.bool ((wayL p k).getD i false)) := by rw [HB5R.out.cell (p := ⟨b7, o7 + i, none⟩) hb7]; exact HL7.out i hil
                have q6 : wr.cell? ⟨b6, o6 + i, none⟩ = some (.bool ((wayL p m).getD i false)) := by rw [HB3R.out.cell (p := ⟨b6, o6 + i, none⟩) hb6]; exact HL.out i hil
                rcases hit : (wayL p k).getD i false with _ | _
                · rw [hit] at q7
                  clear hit q6
                  go_wp2
                  go_roundw
                  case rel => exact ⟨i + 1, by omega, by go_num, KR, HBR, HB3R, HB5R⟩
                  case measure => simp [intOf]; omega
                · rw [way_on HIN.out hm hkl HKT.out hit] at q6
                  rw [hit] at q7
                  clear hit
                  go_wp2
                  go_roundw
                  case rel => exact ⟨i + 1, by omega, by go_num, KR, HBR, HB3R, HB5R⟩
                  case measure => simp [intOf]; omega
              · have hin' : ¬ ((i : Int) < (p.code.length : Int) + 1) := by omega
                go_wp2
                go_roundw
                case rel => exact ⟨k + 1, by omega, by go_num, KR, HBR, HB3R⟩
                case measure => simp [intOf]; omega
        · have hkn : ¬ ((k : Int) < (p.code.length : Int) + 1) := by omega
          have p3 := KR.out.cells.2.2.2
          by_cases hme : m = p.code.length
          · have em : ¬ ((m : Int) < (p.code.length : Int)) := by omega
            have q6 : wr.cell? ⟨b6, o6 + m, none⟩ = some (.bool false) := by
              have := HL.out m hm
              rw [show (wayL p m).getD m false = false by rw [hme]; exact wayL_end HIN.out _] at this
              rw [HB3R.out.cell (p := ⟨b6, o6 + m, none⟩) hb6]; exact this
            have hmi : (m : Int) < (p.code.length : Int) + 1 := by omega
            clear hme
            go_wp2
            go_ret
            exact ⟨rfl, HBR.out⟩
          · have em : (m : Int) < (p.code.length : Int) := by omega
            clear hme
            go_wp2
            go_ret
            exact ⟨rfl, HBR.out⟩
theorem on_walk (v : Value) (p : PProg) (a : Int) (w : World) (h : ProgAt w v p) (hs : OkP p) (ha0 : 0 ≤ a) (ha : a ≤ 255) (ht' : HasT w) : Calls Tryd.prog 5 #[v, .int .u8 a] w fun e w' => e = .returned (.bool true) ∧ Below w.heap.size w w' := by
  obtain ⟨vt, vc, rfl, ht, hc⟩ := id h
  have hwb : Below w.heap.size w (w.alloc (.cells (progC vt p vc) 25)) := (Below.refl _ _).alloc (Nat.le_refl _) _
  have HK := keep_new h
  obtain ⟨x, c, rfl, -, -, -⟩ := id ht.elems
  obtain ⟨x', c', rfl, q1, q2, -⟩ := id hc
  obtain ⟨ka, rfl⟩ : ∃ ka : Nat, a = ka := ⟨a.toNat, by omega⟩
  unfold maxLen at q2
  exact on_at w _ p ka x x' c c' rfl (Lib.hid HK) (Lib.hid hwb) (Lib.hid fun w1 => falive_n w1) (Lib.hid fun w1 h1 hb1 => sound_n _ p w1 _ h1 hs (ht'.below hb1) rfl)
    (Lib.hid fun hsd w1 k h1 => fnext_n _ p w1 k h1 hs (sound_parts hsd).2.2.2.1 (by have := (sound_parts hsd).2.1; omega)) (Lib.hid fun hsd w1 k r h1 hr => fsafe_n _ p w1 k r h1 hs (sound_parts hsd).2.2.2.1 (by have := (sound_parts hsd).2.1; omega) hr)
    (Lib.hid fun hsd w1 k h1 => freach_n _ p w1 k h1 hs (sound_parts hsd).2.2.2.1 (by have := (sound_parts hsd).2.1; omega)) (Lib.hid fun hsd w1 k r h1 hr => floops_n _ p w1 k r h1 hs (sound_parts hsd).2.2.2.1 (by have := (sound_parts hsd).2.1; omega) hr)
    (by omega) (by omega) q1
end Go.Proofs.YtcenjphpdgadmaaDoor
