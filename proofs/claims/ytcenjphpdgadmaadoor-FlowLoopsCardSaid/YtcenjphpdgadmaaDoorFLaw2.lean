/-
  FlowLoops: the walk.
-/
import Derived.Test.YtcenjphpdgadmaaDoorFAlive
import Derived.Deep.LoopGhost
namespace Go.Proofs.YtcenjphpdgadmaaDoor
set_option linter.unusedSimpArgs false
set_option linter.unusedVariables false
open Go.RowKit

/-- What the first so many next places tell. -/
def wantJ (q : PProg) (m j : Nat) : Bool := ((nextL q m).take j).any (fun n => decide (n = m) || (wayL q n).getD m false)
theorem wantJ_next {q : PProg} {m j n : Nat} (hn : (nextL q m)[j]? = some n) : wantJ q m (j + 1) = (wantJ q m j || (decide (n = m) || (wayL q n).getD m false)) := by
  unfold wantJ
  rw [List.take_add_one, hn, List.any_append]; simp
theorem wantJ_all {q : PProg} (hin : InP q) {m : Nat} (hm : m ≤ q.code.length) : wantJ q m (nextL q m).length = loopV q m := by
  have hl : loopV q m = loopL q m := by unfold loopV wayV; rw [if_pos ⟨by omega, by omega⟩]; simp [loopL]
  rw [hl, Bool.eq_iff_iff, loop_next hin hm]
  unfold wantJ
  rw [List.take_of_length_le (Nat.le_refl _)]
  simp
set_option maxRecDepth 100000 in
set_option maxHeartbeats 4000000 in
theorem loops_at (w W0 : World) (p : PProg) (a : Nat) (x x' : Option Addr) (kx kx' : Nat)
    (hW0 : W0 = w.alloc (.cells (progC (.slice x p.types.length kx) p (.slice x' p.code.length kx')) 25)) (KP : Hid (Keep W0 w.heap.size (.slice x p.types.length kx) (.slice x' p.code.length kx') p)) (HB : Hid (Below w.heap.size w W0))
    (HAL : Hid (∀ w1, Calls Tryd.prog 9 #[] w1 (AggPost w1 (.bool true))))
    (HSO : Hid (∀ w1, ProgAt w1 (.agg (progC (.slice x p.types.length kx) p (.slice x' p.code.length kx'))) p → Below w.heap.size w w1 → Calls Tryd.prog 10 #[.agg (progC (.slice x p.types.length kx) p (.slice x' p.code.length kx'))] w1 (AggPost w1 (.bool (soundB p)))))
    (HNX : Hid (soundB p = true → ∀ w1 k, ProgAt w1 (.agg (progC (.slice x p.types.length kx) p (.slice x' p.code.length kx'))) p → Calls Tryd.prog 14 #[.agg (progC (.slice x p.types.length kx) p (.slice x' p.code.length kx')), .int .i64 k] w1 (RowAPost w1 (nextV p k))))
    (HSF : Hid (soundB p = true → ∀ w1 k r, ProgAt w1 (.agg (progC (.slice x p.types.length kx) p (.slice x' p.code.length kx'))) p → safeV p k = r → Calls Tryd.prog 16 #[.agg (progC (.slice x p.types.length kx) p (.slice x' p.code.length kx')), .int .i64 k] w1 (AggPost w1 (.bool r))))
    (HRC : Hid (soundB p = true → ∀ w1 k, ProgAt w1 (.agg (progC (.slice x p.types.length kx) p (.slice x' p.code.length kx'))) p → Calls Tryd.prog 11 #[.agg (progC (.slice x p.types.length kx) p (.slice x' p.code.length kx')), .int .i64 k] w1 (BoolsAPost w1 (wayV p k))))
    (HLO : Hid (soundB p = true → ∀ w1 k r, ProgAt w1 (.agg (progC (.slice x p.types.length kx) p (.slice x' p.code.length kx'))) p → loopV p k = r → Calls Tryd.prog 18 #[.agg (progC (.slice x p.types.length kx) p (.slice x' p.code.length kx')), .int .i64 k] w1 (AggPost w1 (.bool r))))
    (ha : a ≤ 255) (g2 : kx' ≤ 9223372036854775807) (g1 : p.code.length ≤ kx'):
    Calls Tryd.prog 7 #[.agg (progC (.slice x p.types.length kx) p (.slice x' p.code.length kx')), .int .u8 a] w (AggPost w (.bool true)) := by
  go_enter Tryd.func7, Tryd.ntmps7
  go_upto_region 1 with (fail)
  rw [← hW0]
  clear hW0
  rcases hsd : soundB p with _ | _
  · rw [hsd] at HSO
    go_wp2_with (first
      | (refine wpList_loadB rfl 25 _ rfl w.heap.size (progC (.slice x p.types.length kx) p (.slice x' p.code.length kx')) rfl 25 KP.out.blk _ Tryd.underlying25 rfl prog_info ?_)
      | (go_at_call 9; ((with_reducible refine (HAL.out _).mono ?_); rintro e w1 ⟨rfl, hb⟩; have KP := Lib.hid (KP.out.below hb); have HB := Lib.hid (HB.out.trans (hb.mono HB.out.size)); clear hb))
      | (go_at_call 10; ((with_reducible refine (HSO.out _ KP.out.at' HB.out).mono ?_); rintro e w2 ⟨rfl, hb⟩; have KP := Lib.hid (KP.out.below hb); have HB := Lib.hid (HB.out.trans (hb.mono HB.out.size)); clear hb)))
    go_ret
    exact ⟨rfl, HB.out⟩
  obtain ⟨-, hl60, hck, hin0, hl1⟩ := sound_parts hsd
  have HIN := Lib.hid hin0
  have HNX := Lib.hid (HNX.out hsd)
  have HRC := Lib.hid (HRC.out hsd)
  have HLO := Lib.hid (HLO.out hsd)
  rw [hsd] at HSO
  clear hin0 hck hsd HSF
  go_upto_region 5 with (first
    | (refine wpList_loadB rfl 25 _ rfl w.heap.size (progC (.slice x p.types.length kx) p (.slice x' p.code.length kx')) rfl 25 KP.out.blk _ Tryd.underlying25 rfl prog_info ?_)
    | (go_at_call 9; ((with_reducible refine (HAL.out _).mono ?_); rintro e w1 ⟨rfl, hb⟩; have KP := Lib.hid (KP.out.below hb); have HB := Lib.hid (HB.out.trans (hb.mono HB.out.size)); clear hb))
    | (go_at_call 10; ((with_reducible refine (HSO.out _ KP.out.at' HB.out).mono ?_); rintro e w2 ⟨rfl, hb⟩; have KP := Lib.hid (KP.out.below hb); have HB := Lib.hid (HB.out.trans (hb.mono HB.out.size)); clear hb)))
  have p3 := KP.out.cells.2.2.2
  have hz : ((p.code.length : Int) + 1 == 0) = false := by simp; omega
  go_upto_region 6 with (fail)
  obtain ⟨m, hm, hmm⟩ : ∃ m : Nat, m ≤ p.code.length ∧ (a : Int) % ((p.code.length : Int) + 1) = m := ⟨a % (p.code.length + 1), by have := Nat.mod_lt a (show 0 < p.code.length + 1 by omega); omega, by rw [show ((p.code.length : Int) + 1) = ((p.code.length + 1 : Nat) : Int) by simp]; rfl⟩
  rw [hmm]
  clear hmm hz p3
  go_upto_region 8 with (first
    | (refine wpList_loadB rfl 25 _ rfl w.heap.size (progC (.slice x p.types.length kx) p (.slice x' p.code.length kx')) rfl 25 KP.out.blk _ Tryd.underlying25 rfl prog_info ?_)
    | (go_at_call 14; ((with_reducible refine (HNX.out _ m KP.out.at').mono ?_); rintro e w3 ⟨v3, rfl, hr, hb⟩; obtain ⟨ad, cap, hv3, hc1, hc2, hcell⟩ := rowA_form hr; subst hv3; have KP := Lib.hid (KP.out.below hb); have HB := Lib.hid (HB.out.trans (hb.mono HB.out.size)); clear hb; clear hr)))
  have HCE := Lib.hid hcell
  have HLL := Lib.hid (show (nextV p m).length = (nextL p m).length by rw [nextL_cast]; simp)
  have HB3 := Lib.hid (Below.refl w3.heap.size w3)
  clear hcell HNX HSO
  go_wp2_with (fail)
  go_loopw [6, 26] (fun v6 v26 wr => ∃ j : Nat, j ≤ (nextV p m).length ∧ v26 = .int .i64 j ∧ v6 = .bool (wantJ p m j) ∧ Hid (Keep wr w.heap.size (.slice x p.types.length kx) (.slice x' p.code.length kx') p) ∧ Hid (Below w.heap.size w wr) ∧ Hid (Below w3.heap.size w3 wr)) (fun _ v26 _ => (nextV p m).length - (intOf v26).toNat)
  case atStart => exact ⟨0, Nat.zero_le _, rfl, rfl, KP, HB, HB3⟩
  case round =>
    obtain ⟨j, hj, rfl, rfl, KR, HBR, HB3R⟩ := hrel
    clear KP HB HB3
    by_cases hjl : j < (nextV p m).length
    · have hji : (j : Int) < ((nextV p m).length : Int) := by omega
      obtain ⟨n, hn⟩ : ∃ n, (nextL p m)[j]? = some n := ⟨_, List.getElem?_eq_getElem (by rw [← HLL.out]; exact hjl)⟩
      have hnl := (next_le HIN.out (List.mem_of_getElem? hn)).1
      obtain ⟨b, o, rfl, hbl, hq⟩ := HCE.out j (n : Int) (by rw [nextL_cast]; simp [hn])
      have qj : wr.cell? ⟨b, o + j, none⟩ = some (.int .i64 (n : Int)) := by rw [HB3R.out.cell (p := ⟨b, o + j, none⟩) hbl]; exact hq
      have HWN := Lib.hid (wantJ_next hn)
      have hwl : (wayV p (n : Int)).length = p.code.length + 1 := wayV_len ⟨by omega, by omega⟩
      have HWL := Lib.hid hwl
      have hmx : ¬ ((p.code.length : Int) + 1 ≤ (m : Int)) := by omega
      have hmi : (m : Int) < (p.code.length : Int) + 1 := by omega
      clear hq hn hwl
      go_upto_region 11 with (first
        | (refine wpList_loadB rfl 25 _ rfl w.heap.size (progC (.slice x p.types.length kx) p (.slice x' p.code.length kx')) rfl 25 KR.out.blk _ Tryd.underlying25 rfl prog_info ?_)
        | (go_at_call 11; ((with_reducible refine (HRC.out _ (n : Int) KR.out.at').mono ?_); rintro e w4 ⟨v4, rfl, hr4, hb⟩; obtain ⟨ad4, cap4, hv4, hd1, hd2, hcell4⟩ := boolsA_form hr4; subst hv4; have HC4 := Lib.hid hcell4; rw [HWL.out] at hd1; rw [HWL.out]; have KR := Lib.hid (KR.out.below hb); have HBR := Lib.hid (HBR.out.trans (hb.mono HBR.out.size)); have HB3R := Lib.hid (HB3R.out.trans (hb.mono HB3R.out.size)); clear hb qj hr4 hcell4)))
      obtain ⟨c, hc⟩ : ∃ c, (wayV p (n : Int))[m]? = some c := ⟨_, List.getElem?_eq_getElem (by rw [HWL.out]; omega)⟩
      obtain ⟨b4, o4, rfl, -, q4⟩ := HC4.out m c hc
      have hc' : (wayL p n).getD m false = c := by
        unfold wayV at hc
        rw [if_pos ⟨by omega, by omega⟩, Int.toNat_natCast] at hc
        rw [List.getD_eq_getElem?_getD, hc]; rfl
      have HW2 : Hid (wantJ p m (j + 1) = (wantJ p m j || (decide (n = m) || c))) := Lib.hid (by rw [HWN.out, hc'])
      clear hc hc' HWN HC4
      generalize hwj : wantJ p m j = wj at HW2 ⊢
      clear hwj
      rcases wj with _ | _
      · by_cases hnm : n = m
        · have e41 : ((n : Int) == (m : Int)) = true := by simp; omega
          have HV : Hid (true = wantJ p m (j + 1)) := Lib.hid (by rw [HW2.out]; simp [hnm])
          clear hnm
          go_wp2
          go_roundw
          case rel => exact ⟨j + 1, by omega, by go_num, by rw [← HV.out], KR, HBR, HB3R⟩
          case measure => simp [intOf]; omega
        · have e41 : ((n : Int) == (m : Int)) = false := by simp; omega
          have HV : Hid (c = wantJ p m (j + 1)) := Lib.hid (by rw [HW2.out]; simp [hnm])
          clear hnm
          rcases c with _ | _
          · go_wp2
            go_roundw
            case rel => exact ⟨j + 1, by omega, by go_num, by rw [← HV.out], KR, HBR, HB3R⟩
            case measure => simp [intOf]; omega
          · go_wp2
            go_roundw
            case rel => exact ⟨j + 1, by omega, by go_num, by rw [← HV.out], KR, HBR, HB3R⟩
            case measure => simp [intOf]; omega
      · have HV : Hid (true = wantJ p m (j + 1)) := Lib.hid (by rw [HW2.out]; simp)
        go_wp2
        go_roundw
        case rel => exact ⟨j + 1, by omega, by go_num, by rw [← HV.out], KR, HBR, HB3R⟩
        case measure => simp [intOf]; omega
    · have hje : j = (nextV p m).length := by omega
      have hjn : ¬ ((j : Int) < ((nextV p m).length : Int)) := by omega
      have HV := Lib.hid (wantJ_all HIN.out hm)
      rw [← HLL.out, ← hje] at HV
      generalize hwj : wantJ p m j = wj at HV ⊢
      clear hwj hje
      rcases wj with _ | _
      · go_wp2_with (first
          | (refine wpList_loadB rfl 25 _ rfl w.heap.size (progC (.slice x p.types.length kx) p (.slice x' p.code.length kx')) rfl 25 KR.out.blk _ Tryd.underlying25 rfl prog_info ?_)
          | (go_at_call 18; ((with_reducible refine (HLO.out _ (m : Int) false KR.out.at' HV.out.symm).mono ?_); rintro e w4 ⟨rfl, hb⟩; have HBR := Lib.hid (HBR.out.trans (hb.mono HBR.out.size)); clear hb)))
        go_ret
        exact ⟨rfl, HBR.out⟩
      · go_wp2_with (first
          | (refine wpList_loadB rfl 25 _ rfl w.heap.size (progC (.slice x p.types.length kx) p (.slice x' p.code.length kx')) rfl 25 KR.out.blk _ Tryd.underlying25 rfl prog_info ?_)
          | (go_at_call 18; ((with_reducible refine (HLO.out _ (m : Int) true KR.out.at' HV.out.symm).mono ?_); rintro e w4 ⟨rfl, hb⟩; have HBR := Lib.hid (HBR.out.trans (hb.mono HBR.out.size)); clear hb)))
        go_ret
        exact ⟨rfl, HBR.out⟩
theorem loops_walk (v : Value) (p : PProg) (a : Int) (w : World) (h : ProgAt w v p) (hs : OkP p) (ha0 : 0 ≤ a) (ha : a ≤ 255) (ht' : HasT w) : Calls Tryd.prog 7 #[v, .int .u8 a] w fun e w' => e = .returned (.bool true) ∧ Below w.heap.size w w' := by
  obtain ⟨vt, vc, rfl, ht, hc⟩ := id h
  have hwb : Below w.heap.size w (w.alloc (.cells (progC vt p vc) 25)) := (Below.refl _ _).alloc (Nat.le_refl _) _
  have HK := keep_new h
  obtain ⟨x, c, rfl, -, -, -⟩ := id ht.elems
  obtain ⟨x', c', rfl, q1, q2, -⟩ := id hc
  obtain ⟨ka, rfl⟩ : ∃ ka : Nat, a = ka := ⟨a.toNat, by omega⟩
  unfold maxLen at q2
  exact loops_at w _ p ka x x' c c' rfl (Lib.hid HK) (Lib.hid hwb) (Lib.hid fun w1 => falive_n w1) (Lib.hid fun w1 h1 hb1 => sound_n _ p w1 _ h1 hs (ht'.below hb1) rfl)
    (Lib.hid fun hsd w1 k h1 => fnext_n _ p w1 k h1 hs (sound_parts hsd).2.2.2.1 (by have := (sound_parts hsd).2.1; omega)) (Lib.hid fun hsd w1 k r h1 hr => fsafe_n _ p w1 k r h1 hs (sound_parts hsd).2.2.2.1 (by have := (sound_parts hsd).2.1; omega) hr)
    (Lib.hid fun hsd w1 k h1 => freach_n _ p w1 k h1 hs (sound_parts hsd).2.2.2.1 (by have := (sound_parts hsd).2.1; omega)) (Lib.hid fun hsd w1 k r h1 hr => floops_n _ p w1 k r h1 hs (sound_parts hsd).2.2.2.1 (by have := (sound_parts hsd).2.1; omega) hr)
    (by omega) (by omega) q1
end Go.Proofs.YtcenjphpdgadmaaDoor
