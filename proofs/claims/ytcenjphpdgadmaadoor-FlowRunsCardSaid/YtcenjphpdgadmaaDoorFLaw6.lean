/-
  FlowRuns: the walk.
-/
import Derived.Test.YtcenjphpdgadmaaDoorFAlive
import Derived.Deep.LoopGhost
import Derived.Test.YtcenjphpdgadmaaDoorFRun
import Derived.Test.YtcenjphpdgadmaaDoorMLaw
import Derived.Deep.RegionHeld3
import Derived.Deep.CutRange
import Derived.Deep.QuietTactic
namespace Go.Proofs.YtcenjphpdgadmaaDoor
set_option linter.unusedSimpArgs false
set_option linter.unusedVariables false
open Go.RowKit

def foundJ (l : List Int) (t : Nat) (j : Nat) : Bool := (l.take j).any (fun x => decide (x = (t : Int)))
theorem foundJ_next {l : List Int} {t j : Nat} {x : Int} (h : l[j]? = some x) : foundJ l t (j + 1) = (foundJ l t j || decide (x = (t : Int))) := by
  unfold foundJ
  rw [List.take_add_one, h, List.any_append]; simp
theorem foundJ_all {l : List Int} {t : Nat} (h : (t : Int) ∈ l) : foundJ l t l.length = true := by
  unfold foundJ
  rw [List.take_length]; simpa using h
theorem next_memV {q : PProg} {k t : Nat} (h : t ∈ nextL q k) : (t : Int) ∈ nextV q k := by
  unfold nextV
  rw [if_pos (by omega), Int.toNat_natCast]
  exact List.mem_map.2 ⟨t, h, rfl⟩
set_option maxRecDepth 100000 in
set_option maxHeartbeats 4000000 in
theorem runs_at (w W0 : World) (p : PProg) (a : Nat) (x x' : Option Addr) (kx kx' : Nat)
    (hW0 : W0 = w.alloc (.cells (progC (.slice x p.types.length kx) p (.slice x' p.code.length kx')) 25)) (KP : Hid (Keep W0 w.heap.size (.slice x p.types.length kx) (.slice x' p.code.length kx') p)) (HB : Hid (Below w.heap.size w W0))
    (HAL : Hid (∀ w1, Calls Tryd.prog 9 #[] w1 (AggPost w1 (.bool true))))
    (HSO : Hid (∀ w1, ProgAt w1 (.agg (progC (.slice x p.types.length kx) p (.slice x' p.code.length kx'))) p → Below w.heap.size w w1 → Calls Tryd.prog 10 #[.agg (progC (.slice x p.types.length kx) p (.slice x' p.code.length kx'))] w1 (AggPost w1 (.bool (soundB p)))))
    (HNX : Hid (soundB p = true → ∀ w1 k, ProgAt w1 (.agg (progC (.slice x p.types.length kx) p (.slice x' p.code.length kx'))) p → Calls Tryd.prog 14 #[.agg (progC (.slice x p.types.length kx) p (.slice x' p.code.length kx')), .int .i64 k] w1 (RowAPost w1 (nextV p k))))
    (HSF : Hid (soundB p = true → ∀ w1 k r, ProgAt w1 (.agg (progC (.slice x p.types.length kx) p (.slice x' p.code.length kx'))) p → safeV p k = r → Calls Tryd.prog 16 #[.agg (progC (.slice x p.types.length kx) p (.slice x' p.code.length kx')), .int .i64 k] w1 (AggPost w1 (.bool r))))
    (HRC : Hid (soundB p = true → ∀ w1 k, ProgAt w1 (.agg (progC (.slice x p.types.length kx) p (.slice x' p.code.length kx'))) p → Calls Tryd.prog 11 #[.agg (progC (.slice x p.types.length kx) p (.slice x' p.code.length kx')), .int .i64 k] w1 (BoolsAPost w1 (wayV p k))))
    (HLO : Hid (soundB p = true → ∀ w1 k r, ProgAt w1 (.agg (progC (.slice x p.types.length kx) p (.slice x' p.code.length kx'))) p → loopV p k = r → Calls Tryd.prog 18 #[.agg (progC (.slice x p.types.length kx) p (.slice x' p.code.length kx')), .int .i64 k] w1 (AggPost w1 (.bool r))))
    (ha : a ≤ 255) (g2 : kx' ≤ 9223372036854775807) (g1 : p.code.length ≤ kx')
    (HST : Hid (soundB p = true → ∀ w1 s vo vt ts n, Below w.heap.size w w1 → StN w1 vo vt s → SizeOk s → n ≤ 1000000 → RunOk p s ts n → Calls Tryd.prog 20 #[.agg (progC (.slice x p.types.length kx) p (.slice x' p.code.length kx')), .agg (stC s vo vt)] w1 (StepPost w1 (stepL p s))))
    (HPA : Hid (∀ w1, Below w.heap.size w w1 → ProgAt w1 (.agg (progC (.slice x p.types.length kx) p (.slice x' p.code.length kx'))) p)) (HOK : Hid (OkP p)) (HCK : Hid (soundB p = true → (checkL p).2 = 0))
    :
    Calls Tryd.prog 4 #[.agg (progC (.slice x p.types.length kx) p (.slice x' p.code.length kx')), .int .u8 a] w (AggPost w (.bool true)) := by
  go_enter Tryd.func4, Tryd.ntmps4
  go_upto_region 1 with (fail)
  rw [← hW0]
  clear hW0
  rcases hsd : soundB p with _ | _
  · rw [hsd] at HSO
    go_wp2_with (first
      | (refine wpList_loadB rfl 25 _ rfl w.heap.size (progC (.slice x p.types.length kx) p (.slice x' p.code.length kx')) rfl 25 KP.out.blk _ Tryd.underlying25 rfl prog_info ?_)
      | (go_at_call 9; ((with_reducible refine (HAL.out _).mono ?_); rintro e w1 ⟨rfl, hb⟩; have KP := Lib.hid (KP.out.below hb); have HB := Lib.hid (HB.out.trans (hb.mono HB.out.size)); clear hb))
      | (go_at_call 10; ((with_reducible refine (HSO.out _ KP.out.at' HB.out).mono ?_); rintro e w2 ⟨rfl, hb⟩; have KP := Lib.hid (KP.out.below hb); have HB := Lib.hid (HB.out.trans (hb.mono HB.out.size)); clear hb)))
    go_ret
    exact ⟨rfl, HB.out⟩
  obtain ⟨-, hl60, hck, hin0, hl1⟩ := sound_parts hsd
  have HIN := Lib.hid hin0
  have HNX := Lib.hid (HNX.out hsd)
  have HSF := Lib.hid (HSF.out hsd)
  have HLO := Lib.hid (HLO.out hsd)
  rw [hsd] at HSO
  have HST := Lib.hid (HST.out hsd)
  have HCK := Lib.hid hck
  clear hin0 hck hsd HRC
  go_upto_region 3 with (first
    | (refine wpList_loadB rfl 25 _ rfl w.heap.size (progC (.slice x p.types.length kx) p (.slice x' p.code.length kx')) rfl 25 KP.out.blk _ Tryd.underlying25 rfl prog_info ?_)
    | (go_at_call 9; ((with_reducible refine (HAL.out _).mono ?_); rintro e w1 ⟨rfl, hb⟩; have KP := Lib.hid (KP.out.below hb); have HB := Lib.hid (HB.out.trans (hb.mono HB.out.size)); clear hb))
    | (go_at_call 10; ((with_reducible refine (HSO.out _ KP.out.at' HB.out).mono ?_); rintro e w2 ⟨rfl, hb⟩; have KP := Lib.hid (KP.out.below hb); have HB := Lib.hid (HB.out.trans (hb.mono HB.out.size)); clear hb)))
  have hm := @run_makeMap_plain Tryd.prog
  go_upto_region 6 with (fail)
  have hw0 := FrW.start HB.out KP.out.blk
  generalize hwb : ((w1.alloc (.cells zeroS 40)).alloc (.map #[] 0)).alloc (.map #[] 0) = wb at hw0 ⊢
  clear hwb
  generalize hB : w1.heap.size + 1 + 1 = r7 at hw0 ⊢
  clear hB
  generalize hB : w1.heap.size + 1 = r6 at hw0 ⊢
  clear hB
  generalize hB : w1.heap.size = b at hw0 ⊢
  clear hB
  have HW0 := Lib.hid hw0
  have HR0 := Lib.hid (run_0 p)
  have HE0 := Lib.hid (seen_0 p)
  clear hw0 KP HB HAL HSO
  go_wp2_with (fail)
  go_loopw [7, 26] (fun v7 v26 wr => ∃ (n r7 : Nat) (s : PSt) (ts : List Nat) (vo vt : Value) (f g : Nat → Bool), n ≤ a ∧ v7 = .map (some r7) ∧ v26 = .int .i64 n ∧ Hid (FrW w wr b r6 r7 (progC (.slice x p.types.length kx) p (.slice x' p.code.length kx')) s vo vt f g) ∧ Hid (RunOk p s ts n) ∧ Hid (Seen p f g s.pc)) (fun _ v26 _ => a - (intOf v26).toNat)
  case atStart => exact ⟨0, r7, st0, [], _, _, _, _, Nat.zero_le _, rfl, rfl, HW0, HR0, HE0⟩
  case round =>
    clear HW0 HR0 HE0
    obtain ⟨n, r7, s, ts, vo, vt, f, g, hn, rfl, rfl, HW, HR, HE⟩ := hrel
    by_cases hna : n < a
    · have hni : (n : Int) < (a : Int) := by omega
      have hsee := HE.out.loops HIN.out HR.out.pc
      have c22 := blk_cell HW.out.st _ _ (stC_rest (vo := vo) (vt := vt) HW.out.at'.len).2.2.1
      have HG6 := set_get HW.out.f s.pc
      rcases hf : f s.pc with _ | _
      · rw [hf] at HG6
        have HG7 := set_get HW.out.g s.pc
        rw [hsee.2] at HG7
        clear hsee
        go_upto_region 10 with (first
          | (refine wpList_loadB rfl 25 _ rfl w.heap.size (progC (.slice x p.types.length kx) p (.slice x' p.code.length kx')) rfl 25 HW.out.prog _ Tryd.underlying25 rfl prog_info ?_))
        have HD := HW.out.next (Below.refl _ _).drew
        obtain ⟨e6, k6, HU6, hm6⟩ := set_put HD.f s.pc
        have H6 := HD.put6 (c := k6) hm6
        obtain ⟨e7, k7, HU7, hm7⟩ := set_put H6.g s.pc
        have H7 := Lib.hid (H6.put7 (c := k7) hm7)
        have d22 := blk_cell HD.st _ _ (stC_rest (vo := vo) (vt := vt) HW.out.at'.len).2.2.1
        have q6 := blk_cell H6.st _ _ (stC_rest (vo := vo) (vt := vt) HW.out.at'.len).2.2.1
        have q7 := blk_cell H7.out.st _ _ (stC_rest (vo := vo) (vt := vt) HW.out.at'.len).2.2.1
        clear H6 hm6 hm7 HG6 HG7 hf HD c22
        go_region_held3 (fun w' => w'.cell? ⟨b, 22, none⟩ = some (.int .i64 s.pc)) (first | exact q6 | exact q7 | go_keep) (first | fail)
        clear HU6 HU7 d22 q6 q7 HW
        generalize putO (putO wr.drew r6 (.map e6 k6)) r7 (.map e7 k7) = wq at H7 ⊢
        have HW := H7
        clear H7
        have c22 := blk_cell HW.out.st _ _ (stC_rest (vo := vo) (vt := vt) HW.out.at'.len).2.2.1
        rcases hsv : safeV p s.pc with _ | _
        · go_upto_region 13 with (first
            | (refine wpList_loadB rfl 25 _ rfl w.heap.size (progC (.slice x p.types.length kx) p (.slice x' p.code.length kx')) rfl 25 HW.out.prog _ Tryd.underlying25 rfl prog_info ?_)
            | (go_at_call 16; ((with_reducible refine (HSF.out _ (s.pc : Int) _ (HPA.out _ HW.out.below) hsv).mono ?_); rintro e w3 ⟨rfl, hb⟩; have HW := Lib.hid (HW.out.next hb); clear hb c22)))
          have hsl : safeL p s.pc = false := by
            have h1 := hsv
            unfold safeV at h1
            rw [Int.toNat_natCast] at h1
            simpa using h1
          have HE8 : Hid (∀ m, m ∈ nextL p s.pc → Seen p (addB f s.pc) (addB g s.pc) m) := Lib.hid fun m hm1 => by have h1 := HE.out.next (n := m) hm1; rw [hsl] at h1; simpa using h1
          clear hsl hsv HE
          have HSP : Hid (∀ w1, Below w.heap.size w w1 → StN w1 vo vt s → Calls Tryd.prog 20 #[.agg (progC (.slice x p.types.length kx) p (.slice x' p.code.length kx')), .agg (stC s vo vt)] w1 (StepPost w1 (stepL p s))) := Lib.hid fun w1 hb1 hs1 => HST.out w1 s vo vt ts n hb1 hs1 (size_run HCK.out HR.out (by omega)) (by omega) HR.out
          have hcase : (∃ (d : Bool) (z : Nat), stepL p s = (s, d, z) ∧ (d = true ∨ z ≠ 0)) ∨ ∃ t ts', stepL p s = (t, false, 0) ∧ RunOk p t ts' (n + 1) ∧ t.pc ∈ nextL p s.pc := by
            rcases step_one HCK.out HR.out with ⟨_, he⟩ | ⟨i, hi, _, ⟨hd, he⟩ | ⟨t, hd, he⟩⟩
            · exact .inl ⟨true, 0, he, .inl rfl⟩
            · exact .inl ⟨false, 9, he, .inr (by decide)⟩
            · obtain ⟨ts', hrn, _⟩ := run_next HCK.out HOK.out.ins (by omega) HR.out hi hd
              exact .inr ⟨t, ts', he, hrn, step_next HIN.out hi hd⟩
          rcases hcase with ⟨d, z, hs', hdz⟩ | ⟨t, ts', hs', hrn, hmem⟩
          · rw [hs'] at HSP
            clear hs'
            rcases d with _ | _
            · have ez : ((z : Int) != 0) = true := by have := hdz.resolve_left (by decide); simp; omega
              go_wp2_with (first
                | (refine wpList_loadB rfl 25 _ rfl w.heap.size (progC (.slice x p.types.length kx) p (.slice x' p.code.length kx')) rfl 25 HW.out.prog _ Tryd.underlying25 rfl prog_info ?_)
                | (refine wpList_loadB rfl 40 _ rfl b (stC s vo vt) rfl 40 HW.out.st _ Tryd.underlying40 rfl (rstate_size HW.out.at'.len) ?_)
                | (go_at_call 20; refine (HSP.out _ HW.out.below HW.out.at').mono ?_; rintro e1 w4 ⟨vo2, vt2, rfl, hst2, hb⟩; have HT := Lib.hid hst2; have HW := Lib.hid (HW.out.next hb); clear hb hst2)
                | ((have HBT : Hid (Below w4.heap.size w4 (putB (w4.alloc (.cells zeroS 40)) w4.heap.size (stC s vo2 vt2) 40)) := Lib.hid (((Below.refl _ _).alloc (Nat.le_refl _) _).trans (putB_below _ (Nat.le_refl _) _ _))); refine wpList_putB rfl 40 _ _ rfl w4.heap.size (stC s vo2 vt2) rfl rfl 40 zeroS (blk_new w4 zeroS 40) (rstate_size HT.out.len) (by rw [stC_size HT.out.len]; rfl) HT.out.one ?_; (have HW := Lib.hid (HW.out.next HBT.out)); (have HT := Lib.hid (HT.out.below HBT.out)); (have KT := Lib.hid (putB_at (blk_new w4 zeroS 40) (stC s vo2 vt2) 40)); clear HBT; (have c22 := blk_cell HW.out.st _ _ (stC_rest (vo := vo) (vt := vt) HW.out.at'.len).2.2.1)))
              go_ret
              exact ⟨rfl, HW.out.below⟩
            · go_wp2_with (first
                | (refine wpList_loadB rfl 25 _ rfl w.heap.size (progC (.slice x p.types.length kx) p (.slice x' p.code.length kx')) rfl 25 HW.out.prog _ Tryd.underlying25 rfl prog_info ?_)
                | (refine wpList_loadB rfl 40 _ rfl b (stC s vo vt) rfl 40 HW.out.st _ Tryd.underlying40 rfl (rstate_size HW.out.at'.len) ?_)
                | (go_at_call 20; refine (HSP.out _ HW.out.below HW.out.at').mono ?_; rintro e1 w4 ⟨vo2, vt2, rfl, hst2, hb⟩; have HT := Lib.hid hst2; have HW := Lib.hid (HW.out.next hb); clear hb hst2)
                | ((have HBT : Hid (Below w4.heap.size w4 (putB (w4.alloc (.cells zeroS 40)) w4.heap.size (stC s vo2 vt2) 40)) := Lib.hid (((Below.refl _ _).alloc (Nat.le_refl _) _).trans (putB_below _ (Nat.le_refl _) _ _))); refine wpList_putB rfl 40 _ _ rfl w4.heap.size (stC s vo2 vt2) rfl rfl 40 zeroS (blk_new w4 zeroS 40) (rstate_size HT.out.len) (by rw [stC_size HT.out.len]; rfl) HT.out.one ?_; (have HW := Lib.hid (HW.out.next HBT.out)); (have HT := Lib.hid (HT.out.below HBT.out)); (have KT := Lib.hid (putB_at (blk_new w4 zeroS 40) (stC s vo2 vt2) 40)); clear HBT; (have c22 := blk_cell HW.out.st _ _ (stC_rest (vo := vo) (vt := vt) HW.out.at'.len).2.2.1)))
              go_ret
              exact ⟨rfl, HW.out.below⟩
          · rw [hs'] at HSP
            have HRN := Lib.hid hrn
            have HM := Lib.hid hmem
            clear hs' hrn hmem
            go_wp2_with (first
              | (refine wpList_loadB rfl 25 _ rfl w.heap.size (progC (.slice x p.types.length kx) p (.slice x' p.code.length kx')) rfl 25 HW.out.prog _ Tryd.underlying25 rfl prog_info ?_)
              | (refine wpList_loadB rfl 40 _ rfl b (stC s vo vt) rfl 40 HW.out.st _ Tryd.underlying40 rfl (rstate_size HW.out.at'.len) ?_)
              | (go_at_call 20; refine (HSP.out _ HW.out.below HW.out.at').mono ?_; rintro e1 w4 ⟨vo2, vt2, rfl, hst2, hb⟩; have HT := Lib.hid hst2; have HW := Lib.hid (HW.out.next hb); clear hb hst2)
              | ((have HBT : Hid (Below w4.heap.size w4 (putB (w4.alloc (.cells zeroS 40)) w4.heap.size (stC t vo2 vt2) 40)) := Lib.hid (((Below.refl _ _).alloc (Nat.le_refl _) _).trans (putB_below _ (Nat.le_refl _) _ _))); refine wpList_putB rfl 40 _ _ rfl w4.heap.size (stC t vo2 vt2) rfl rfl 40 zeroS (blk_new w4 zeroS 40) (rstate_size HT.out.len) (by rw [stC_size HT.out.len]; rfl) HT.out.one ?_; (have HW := Lib.hid (HW.out.next HBT.out)); (have HT := Lib.hid (HT.out.below HBT.out)); (have KT := Lib.hid (putB_at (blk_new w4 zeroS 40) (stC t vo2 vt2) 40)); clear HBT; (have c22 := blk_cell HW.out.st _ _ (stC_rest (vo := vo) (vt := vt) HW.out.at'.len).2.2.1))
              | (go_at_call 14; ((with_reducible refine (HNX.out _ (s.pc : Int) (HPA.out _ HW.out.below)).mono ?_); rintro e w5 ⟨v5, rfl, hr, hb⟩; obtain ⟨ad, cap, hv5, hc1, hc2, hcell⟩ := rowA_form hr; subst hv5; have HW := Lib.hid (HW.out.next hb); have HT := Lib.hid (HT.out.below hb); have KT := Lib.hid (blk_below KT.out hb); have HL := Lib.hid hcell; clear hb hr hcell)))
            have hl7 : (nextV p s.pc).length ≤ 9223372036854775807 := by omega
            go_loopw [11, 73] (fun v11 v73 wx => ∃ j : Nat, j ≤ (nextV p s.pc).length ∧ v73 = .int .i64 j ∧ v11 = .bool (foundJ (nextV p s.pc) t.pc j) ∧ wx = w5) (fun _ v73 _ => (nextV p s.pc).length - (intOf v73).toNat)
            case atStart => exact ⟨0, Nat.zero_le _, rfl, rfl, rfl⟩
            case round =>
              obtain ⟨j, hj, rfl, rfl, hwx⟩ := hrel
              subst hwx
              by_cases hjl : j < (nextV p s.pc).length
              · have hji : (j : Int) < ((nextV p s.pc).length : Int) := by omega
                obtain ⟨xv, hx⟩ : ∃ xv, (nextV p s.pc)[j]? = some xv := ⟨_, List.getElem?_eq_getElem hjl⟩
                obtain ⟨b9, o9, rfl, hb9, q9⟩ := HL.out j xv hx
                have hnx := foundJ_next (t := t.pc) hx
                have c23 := blk_cell KT.out _ _ (stC_rest (vo := vo2) (vt := vt2) HT.out.len).2.2.1
                clear hx hb9
                rcases hfj : foundJ (nextV p s.pc) t.pc j with _ | _
                · rw [hfj, Bool.false_or] at hnx
                  by_cases hxt : xv = (t.pc : Int)
                  · have e9 : (xv == (t.pc : Int)) = true := by simpa using hxt
                    rw [decide_eq_true hxt] at hnx
                    clear hxt hfj
                    go_wp2
                    go_roundw
                    case rel => exact ⟨j + 1, by omega, by go_num, by rw [hnx], trivial⟩
                    case measure => simp [intOf]; omega
                  · have e9 : (xv == (t.pc : Int)) = false := by simpa using hxt
                    rw [decide_eq_false hxt] at hnx
                    clear hxt hfj
                    go_wp2
                    go_roundw
                    case rel => exact ⟨j + 1, by omega, by go_num, by rw [hnx], trivial⟩
                    case measure => simp [intOf]; omega
                · rw [hfj, Bool.true_or] at hnx
                  clear hfj
                  go_wp2
                  go_roundw
                  case rel => exact ⟨j + 1, by omega, by go_num, by rw [hnx], trivial⟩
                  case measure => simp [intOf]; omega
              · have hjn : ¬ ((j : Int) < ((nextV p s.pc).length : Int)) := by omega
                have hfa := foundJ_all (next_memV HM.out)
                obtain rfl : j = (nextV p s.pc).length := by omega
                rw [hfa]
                clear hfa hjl hj HL
                have HEN := Lib.hid (HE8.out _ HM.out)
                go_wp2_with (first
                  | (refine wpList_loadB rfl 40 _ rfl w4.heap.size (stC t vo2 vt2) rfl 40 KT.out _ Tryd.underlying40 rfl (rstate_size HT.out.len) ?_)
                  | (refine wpList_putB rfl 40 _ _ rfl b (stC t vo2 vt2) rfl rfl 40 _ HW.out.st (rstate_size HT.out.len) (by rw [stC_size HW.out.at'.len, stC_size HT.out.len]) HT.out.one ?_; have HW := Lib.hid (HW.out.put HT.out); clear HT KT))
                go_roundw
                case rel => exact ⟨n + 1, _, t, ts', vo2, vt2, _, _, by omega, rfl, by go_num, HW, HRN, HEN⟩
                case measure => simp [intOf]; omega
        · go_upto_region 13 with (first
            | (refine wpList_loadB rfl 25 _ rfl w.heap.size (progC (.slice x p.types.length kx) p (.slice x' p.code.length kx')) rfl 25 HW.out.prog _ Tryd.underlying25 rfl prog_info ?_)
            | (go_at_call 16; ((with_reducible refine (HSF.out _ (s.pc : Int) _ (HPA.out _ HW.out.below) hsv).mono ?_); rintro e w3 ⟨rfl, hb⟩; have HW := Lib.hid (HW.out.next hb); clear hb c22)))
          have hsl : safeL p s.pc = true := by
            have h1 := hsv
            unfold safeV at h1
            rw [Int.toNat_natCast] at h1
            simpa using h1
          have HW := Lib.hid HW.out.new7
          generalize w3.alloc (.map #[] 0) = wz at HW ⊢
          generalize w3.heap.size = r8 at HW ⊢
          have HE8 : Hid (∀ m, m ∈ nextL p s.pc → Seen p (addB f s.pc) (fun _ => false) m) := Lib.hid fun m hm1 => by have h1 := HE.out.next (n := m) hm1; rw [hsl] at h1; simpa using h1
          clear hsl hsv HE
          have HSP : Hid (∀ w1, Below w.heap.size w w1 → StN w1 vo vt s → Calls Tryd.prog 20 #[.agg (progC (.slice x p.types.length kx) p (.slice x' p.code.length kx')), .agg (stC s vo vt)] w1 (StepPost w1 (stepL p s))) := Lib.hid fun w1 hb1 hs1 => HST.out w1 s vo vt ts n hb1 hs1 (size_run HCK.out HR.out (by omega)) (by omega) HR.out
          have hcase : (∃ (d : Bool) (z : Nat), stepL p s = (s, d, z) ∧ (d = true ∨ z ≠ 0)) ∨ ∃ t ts', stepL p s = (t, false, 0) ∧ RunOk p t ts' (n + 1) ∧ t.pc ∈ nextL p s.pc := by
            rcases step_one HCK.out HR.out with ⟨_, he⟩ | ⟨i, hi, _, ⟨hd, he⟩ | ⟨t, hd, he⟩⟩
            · exact .inl ⟨true, 0, he, .inl rfl⟩
            · exact .inl ⟨false, 9, he, .inr (by decide)⟩
            · obtain ⟨ts', hrn, _⟩ := run_next HCK.out HOK.out.ins (by omega) HR.out hi hd
              exact .inr ⟨t, ts', he, hrn, step_next HIN.out hi hd⟩
          rcases hcase with ⟨d, z, hs', hdz⟩ | ⟨t, ts', hs', hrn, hmem⟩
          · rw [hs'] at HSP
            clear hs'
            rcases d with _ | _
            · have ez : ((z : Int) != 0) = true := by have := hdz.resolve_left (by decide); simp; omega
              go_wp2_with (first
                | (refine wpList_loadB rfl 25 _ rfl w.heap.size (progC (.slice x p.types.length kx) p (.slice x' p.code.length kx')) rfl 25 HW.out.prog _ Tryd.underlying25 rfl prog_info ?_)
                | (refine wpList_loadB rfl 40 _ rfl b (stC s vo vt) rfl 40 HW.out.st _ Tryd.underlying40 rfl (rstate_size HW.out.at'.len) ?_)
                | (go_at_call 20; refine (HSP.out _ HW.out.below HW.out.at').mono ?_; rintro e1 w4 ⟨vo2, vt2, rfl, hst2, hb⟩; have HT := Lib.hid hst2; have HW := Lib.hid (HW.out.next hb); clear hb hst2)
                | ((have HBT : Hid (Below w4.heap.size w4 (putB (w4.alloc (.cells zeroS 40)) w4.heap.size (stC s vo2 vt2) 40)) := Lib.hid (((Below.refl _ _).alloc (Nat.le_refl _) _).trans (putB_below _ (Nat.le_refl _) _ _))); refine wpList_putB rfl 40 _ _ rfl w4.heap.size (stC s vo2 vt2) rfl rfl 40 zeroS (blk_new w4 zeroS 40) (rstate_size HT.out.len) (by rw [stC_size HT.out.len]; rfl) HT.out.one ?_; (have HW := Lib.hid (HW.out.next HBT.out)); (have HT := Lib.hid (HT.out.below HBT.out)); (have KT := Lib.hid (putB_at (blk_new w4 zeroS 40) (stC s vo2 vt2) 40)); clear HBT; (have c22 := blk_cell HW.out.st _ _ (stC_rest (vo := vo) (vt := vt) HW.out.at'.len).2.2.1)))
              go_ret
              exact ⟨rfl, HW.out.below⟩
            · go_wp2_with (first
                | (refine wpList_loadB rfl 25 _ rfl w.heap.size (progC (.slice x p.types.length kx) p (.slice x' p.code.length kx')) rfl 25 HW.out.prog _ Tryd.underlying25 rfl prog_info ?_)
                | (refine wpList_loadB rfl 40 _ rfl b (stC s vo vt) rfl 40 HW.out.st _ Tryd.underlying40 rfl (rstate_size HW.out.at'.len) ?_)
                | (go_at_call 20; refine (HSP.out _ HW.out.below HW.out.at').mono ?_; rintro e1 w4 ⟨vo2, vt2, rfl, hst2, hb⟩; have HT := Lib.hid hst2; have HW := Lib.hid (HW.out.next hb); clear hb hst2)
                | ((have HBT : Hid (Below w4.heap.size w4 (putB (w4.alloc (.cells zeroS 40)) w4.heap.size (stC s vo2 vt2) 40)) := Lib.hid (((Below.refl _ _).alloc (Nat.le_refl _) _).trans (putB_below _ (Nat.le_refl _) _ _))); refine wpList_putB rfl 40 _ _ rfl w4.heap.size (stC s vo2 vt2) rfl rfl 40 zeroS (blk_new w4 zeroS 40) (rstate_size HT.out.len) (by rw [stC_size HT.out.len]; rfl) HT.out.one ?_; (have HW := Lib.hid (HW.out.next HBT.out)); (have HT := Lib.hid (HT.out.below HBT.out)); (have KT := Lib.hid (putB_at (blk_new w4 zeroS 40) (stC s vo2 vt2) 40)); clear HBT; (have c22 := blk_cell HW.out.st _ _ (stC_rest (vo := vo) (vt := vt) HW.out.at'.len).2.2.1)))
              go_ret
              exact ⟨rfl, HW.out.below⟩
          · rw [hs'] at HSP
            have HRN := Lib.hid hrn
            have HM := Lib.hid hmem
            clear hs' hrn hmem
            go_wp2_with (first
              | (refine wpList_loadB rfl 25 _ rfl w.heap.size (progC (.slice x p.types.length kx) p (.slice x' p.code.length kx')) rfl 25 HW.out.prog _ Tryd.underlying25 rfl prog_info ?_)
              | (refine wpList_loadB rfl 40 _ rfl b (stC s vo vt) rfl 40 HW.out.st _ Tryd.underlying40 rfl (rstate_size HW.out.at'.len) ?_)
              | (go_at_call 20; refine (HSP.out _ HW.out.below HW.out.at').mono ?_; rintro e1 w4 ⟨vo2, vt2, rfl, hst2, hb⟩; have HT := Lib.hid hst2; have HW := Lib.hid (HW.out.next hb); clear hb hst2)
              | ((have HBT : Hid (Below w4.heap.size w4 (putB (w4.alloc (.cells zeroS 40)) w4.heap.size (stC t vo2 vt2) 40)) := Lib.hid (((Below.refl _ _).alloc (Nat.le_refl _) _).trans (putB_below _ (Nat.le_refl _) _ _))); refine wpList_putB rfl 40 _ _ rfl w4.heap.size (stC t vo2 vt2) rfl rfl 40 zeroS (blk_new w4 zeroS 40) (rstate_size HT.out.len) (by rw [stC_size HT.out.len]; rfl) HT.out.one ?_; (have HW := Lib.hid (HW.out.next HBT.out)); (have HT := Lib.hid (HT.out.below HBT.out)); (have KT := Lib.hid (putB_at (blk_new w4 zeroS 40) (stC t vo2 vt2) 40)); clear HBT; (have c22 := blk_cell HW.out.st _ _ (stC_rest (vo := vo) (vt := vt) HW.out.at'.len).2.2.1))
              | (go_at_call 14; ((with_reducible refine (HNX.out _ (s.pc : Int) (HPA.out _ HW.out.below)).mono ?_); rintro e w5 ⟨v5, rfl, hr, hb⟩; obtain ⟨ad, cap, hv5, hc1, hc2, hcell⟩ := rowA_form hr; subst hv5; have HW := Lib.hid (HW.out.next hb); have HT := Lib.hid (HT.out.below hb); have KT := Lib.hid (blk_below KT.out hb); have HL := Lib.hid hcell; clear hb hr hcell)))
            have hl7 : (nextV p s.pc).length ≤ 9223372036854775807 := by omega
            go_loopw [11, 73] (fun v11 v73 wx => ∃ j : Nat, j ≤ (nextV p s.pc).length ∧ v73 = .int .i64 j ∧ v11 = .bool (foundJ (nextV p s.pc) t.pc j) ∧ wx = w5) (fun _ v73 _ => (nextV p s.pc).length - (intOf v73).toNat)
            case atStart => exact ⟨0, Nat.zero_le _, rfl, rfl, rfl⟩
            case round =>
              obtain ⟨j, hj, rfl, rfl, hwx⟩ := hrel
              subst hwx
              by_cases hjl : j < (nextV p s.pc).length
              · have hji : (j : Int) < ((nextV p s.pc).length : Int) := by omega
                obtain ⟨xv, hx⟩ : ∃ xv, (nextV p s.pc)[j]? = some xv := ⟨_, List.getElem?_eq_getElem hjl⟩
                obtain ⟨b9, o9, rfl, hb9, q9⟩ := HL.out j xv hx
                have hnx := foundJ_next (t := t.pc) hx
                have c23 := blk_cell KT.out _ _ (stC_rest (vo := vo2) (vt := vt2) HT.out.len).2.2.1
                clear hx hb9
                rcases hfj : foundJ (nextV p s.pc) t.pc j with _ | _
                · rw [hfj, Bool.false_or] at hnx
                  by_cases hxt : xv = (t.pc : Int)
                  · have e9 : (xv == (t.pc : Int)) = true := by simpa using hxt
                    rw [decide_eq_true hxt] at hnx
                    clear hxt hfj
                    go_wp2
                    go_roundw
                    case rel => exact ⟨j + 1, by omega, by go_num, by rw [hnx], trivial⟩
                    case measure => simp [intOf]; omega
                  · have e9 : (xv == (t.pc : Int)) = false := by simpa using hxt
                    rw [decide_eq_false hxt] at hnx
                    clear hxt hfj
                    go_wp2
                    go_roundw
                    case rel => exact ⟨j + 1, by omega, by go_num, by rw [hnx], trivial⟩
                    case measure => simp [intOf]; omega
                · rw [hfj, Bool.true_or] at hnx
                  clear hfj
                  go_wp2
                  go_roundw
                  case rel => exact ⟨j + 1, by omega, by go_num, by rw [hnx], trivial⟩
                  case measure => simp [intOf]; omega
              · have hjn : ¬ ((j : Int) < ((nextV p s.pc).length : Int)) := by omega
                have hfa := foundJ_all (next_memV HM.out)
                obtain rfl : j = (nextV p s.pc).length := by omega
                rw [hfa]
                clear hfa hjl hj HL
                have HEN := Lib.hid (HE8.out _ HM.out)
                go_wp2_with (first
                  | (refine wpList_loadB rfl 40 _ rfl w4.heap.size (stC t vo2 vt2) rfl 40 KT.out _ Tryd.underlying40 rfl (rstate_size HT.out.len) ?_)
                  | (refine wpList_putB rfl 40 _ _ rfl b (stC t vo2 vt2) rfl rfl 40 _ HW.out.st (rstate_size HT.out.len) (by rw [stC_size HW.out.at'.len, stC_size HT.out.len]) HT.out.one ?_; have HW := Lib.hid (HW.out.put HT.out); clear HT KT))
                go_roundw
                case rel => exact ⟨n + 1, _, t, ts', vo2, vt2, _, _, by omega, rfl, by go_num, HW, HRN, HEN⟩
                case measure => simp [intOf]; omega
      · rw [hf] at HG6
        have hlp : loopV p s.pc = true := by
          have h1 := hsee.1 hf
          unfold loopV wayV
          rw [if_pos ⟨by omega, by have := HR.out.pc; omega⟩, Int.toNat_natCast]
          simpa [loopL] using h1
        have HG7x := Lib.hid hsee.2
        clear hsee
        go_upto_region 10 with (first
          | (refine wpList_loadBw (by rfl) 25 _ rfl w.heap.size (progC (.slice x p.types.length kx) p (.slice x' p.code.length kx')) rfl 25 HW.out.prog _ Tryd.underlying25 rfl prog_info ?_)
          | (go_at_call 18; ((with_reducible refine (HLO.out _ (s.pc : Int) _ (HPA.out _ HW.out.below) hlp).mono ?_); rintro e w3 ⟨rfl, hb⟩; (have HW := Lib.hid (HW.out.next hb)); clear hb HG6 c22; (have c22 := blk_cell HW.out.st _ _ (stC_rest (vo := vo) (vt := vt) HW.out.at'.len).2.2.1); (have HG7 := set_get HW.out.g s.pc); rw [HG7x.out] at HG7)))
        have HD := HW.out.next (Below.refl _ _).drew
        obtain ⟨e6, k6, HU6, hm6⟩ := set_put HD.f s.pc
        have H6 := HD.put6 (c := k6) hm6
        obtain ⟨e7, k7, HU7, hm7⟩ := set_put H6.g s.pc
        have H7 := Lib.hid (H6.put7 (c := k7) hm7)
        have d22 := blk_cell HD.st _ _ (stC_rest (vo := vo) (vt := vt) HW.out.at'.len).2.2.1
        have q6 := blk_cell H6.st _ _ (stC_rest (vo := vo) (vt := vt) HW.out.at'.len).2.2.1
        have q7 := blk_cell H7.out.st _ _ (stC_rest (vo := vo) (vt := vt) HW.out.at'.len).2.2.1
        clear H6 hm6 hm7 HG7 HG7x hlp hf HD c22
        go_region_held3 (fun w' => w'.cell? ⟨b, 22, none⟩ = some (.int .i64 s.pc)) (first | exact q6 | exact q7 | go_keep) (first | fail)
        clear HU6 HU7 d22 q6 q7 HW
        generalize putO (putO w3.drew r6 (.map e6 k6)) r7 (.map e7 k7) = wq at H7 ⊢
        have HW := H7
        clear H7
        have c22 := blk_cell HW.out.st _ _ (stC_rest (vo := vo) (vt := vt) HW.out.at'.len).2.2.1
        rcases hsv : safeV p s.pc with _ | _
        · go_upto_region 13 with (first
            | (refine wpList_loadB rfl 25 _ rfl w.heap.size (progC (.slice x p.types.length kx) p (.slice x' p.code.length kx')) rfl 25 HW.out.prog _ Tryd.underlying25 rfl prog_info ?_)
            | (go_at_call 16; ((with_reducible refine (HSF.out _ (s.pc : Int) _ (HPA.out _ HW.out.below) hsv).mono ?_); rintro e w3 ⟨rfl, hb⟩; have HW := Lib.hid (HW.out.next hb); clear hb c22)))
          have hsl : safeL p s.pc = false := by
            have h1 := hsv
            unfold safeV at h1
            rw [Int.toNat_natCast] at h1
            simpa using h1
          have HE8 : Hid (∀ m, m ∈ nextL p s.pc → Seen p (addB f s.pc) (addB g s.pc) m) := Lib.hid fun m hm1 => by have h1 := HE.out.next (n := m) hm1; rw [hsl] at h1; simpa using h1
          clear hsl hsv HE
          have HSP : Hid (∀ w1, Below w.heap.size w w1 → StN w1 vo vt s → Calls Tryd.prog 20 #[.agg (progC (.slice x p.types.length kx) p (.slice x' p.code.length kx')), .agg (stC s vo vt)] w1 (StepPost w1 (stepL p s))) := Lib.hid fun w1 hb1 hs1 => HST.out w1 s vo vt ts n hb1 hs1 (size_run HCK.out HR.out (by omega)) (by omega) HR.out
          have hcase : (∃ (d : Bool) (z : Nat), stepL p s = (s, d, z) ∧ (d = true ∨ z ≠ 0)) ∨ ∃ t ts', stepL p s = (t, false, 0) ∧ RunOk p t ts' (n + 1) ∧ t.pc ∈ nextL p s.pc := by
            rcases step_one HCK.out HR.out with ⟨_, he⟩ | ⟨i, hi, _, ⟨hd, he⟩ | ⟨t, hd, he⟩⟩
            · exact .inl ⟨true, 0, he, .inl rfl⟩
            · exact .inl ⟨false, 9, he, .inr (by decide)⟩
            · obtain ⟨ts', hrn, _⟩ := run_next HCK.out HOK.out.ins (by omega) HR.out hi hd
              exact .inr ⟨t, ts', he, hrn, step_next HIN.out hi hd⟩
          rcases hcase with ⟨d, z, hs', hdz⟩ | ⟨t, ts', hs', hrn, hmem⟩
          · rw [hs'] at HSP
            clear hs'
            rcases d with _ | _
            · have ez : ((z : Int) != 0) = true := by have := hdz.resolve_left (by decide); simp; omega
              go_wp2_with (first
                | (refine wpList_loadB rfl 25 _ rfl w.heap.size (progC (.slice x p.types.length kx) p (.slice x' p.code.length kx')) rfl 25 HW.out.prog _ Tryd.underlying25 rfl prog_info ?_)
                | (refine wpList_loadB rfl 40 _ rfl b (stC s vo vt) rfl 40 HW.out.st _ Tryd.underlying40 rfl (rstate_size HW.out.at'.len) ?_)
                | (go_at_call 20; refine (HSP.out _ HW.out.below HW.out.at').mono ?_; rintro e1 w4 ⟨vo2, vt2, rfl, hst2, hb⟩; have HT := Lib.hid hst2; have HW := Lib.hid (HW.out.next hb); clear hb hst2)
                | ((have HBT : Hid (Below w4.heap.size w4 (putB (w4.alloc (.cells zeroS 40)) w4.heap.size (stC s vo2 vt2) 40)) := Lib.hid (((Below.refl _ _).alloc (Nat.le_refl _) _).trans (putB_below _ (Nat.le_refl _) _ _))); refine wpList_putB rfl 40 _ _ rfl w4.heap.size (stC s vo2 vt2) rfl rfl 40 zeroS (blk_new w4 zeroS 40) (rstate_size HT.out.len) (by rw [stC_size HT.out.len]; rfl) HT.out.one ?_; (have HW := Lib.hid (HW.out.next HBT.out)); (have HT := Lib.hid (HT.out.below HBT.out)); (have KT := Lib.hid (putB_at (blk_new w4 zeroS 40) (stC s vo2 vt2) 40)); clear HBT; (have c22 := blk_cell HW.out.st _ _ (stC_rest (vo := vo) (vt := vt) HW.out.at'.len).2.2.1)))
              go_ret
              exact ⟨rfl, HW.out.below⟩
            · go_wp2_with (first
                | (refine wpList_loadB rfl 25 _ rfl w.heap.size (progC (.slice x p.types.length kx) p (.slice x' p.code.length kx')) rfl 25 HW.out.prog _ Tryd.underlying25 rfl prog_info ?_)
                | (refine wpList_loadB rfl 40 _ rfl b (stC s vo vt) rfl 40 HW.out.st _ Tryd.underlying40 rfl (rstate_size HW.out.at'.len) ?_)
                | (go_at_call 20; refine (HSP.out _ HW.out.below HW.out.at').mono ?_; rintro e1 w4 ⟨vo2, vt2, rfl, hst2, hb⟩; have HT := Lib.hid hst2; have HW := Lib.hid (HW.out.next hb); clear hb hst2)
                | ((have HBT : Hid (Below w4.heap.size w4 (putB (w4.alloc (.cells zeroS 40)) w4.heap.size (stC s vo2 vt2) 40)) := Lib.hid (((Below.refl _ _).alloc (Nat.le_refl _) _).trans (putB_below _ (Nat.le_refl _) _ _))); refine wpList_putB rfl 40 _ _ rfl w4.heap.size (stC s vo2 vt2) rfl rfl 40 zeroS (blk_new w4 zeroS 40) (rstate_size HT.out.len) (by rw [stC_size HT.out.len]; rfl) HT.out.one ?_; (have HW := Lib.hid (HW.out.next HBT.out)); (have HT := Lib.hid (HT.out.below HBT.out)); (have KT := Lib.hid (putB_at (blk_new w4 zeroS 40) (stC s vo2 vt2) 40)); clear HBT; (have c22 := blk_cell HW.out.st _ _ (stC_rest (vo := vo) (vt := vt) HW.out.at'.len).2.2.1)))
              go_ret
              exact ⟨rfl, HW.out.below⟩
          · rw [hs'] at HSP
            have HRN := Lib.hid hrn
            have HM := Lib.hid hmem
            clear hs' hrn hmem
            go_wp2_with (first
              | (refine wpList_loadB rfl 25 _ rfl w.heap.size (progC (.slice x p.types.length kx) p (.slice x' p.code.length kx')) rfl 25 HW.out.prog _ Tryd.underlying25 rfl prog_info ?_)
              | (refine wpList_loadB rfl 40 _ rfl b (stC s vo vt) rfl 40 HW.out.st _ Tryd.underlying40 rfl (rstate_size HW.out.at'.len) ?_)
              | (go_at_call 20; refine (HSP.out _ HW.out.below HW.out.at').mono ?_; rintro e1 w4 ⟨vo2, vt2, rfl, hst2, hb⟩; have HT := Lib.hid hst2; have HW := Lib.hid (HW.out.next hb); clear hb hst2)
              | ((have HBT : Hid (Below w4.heap.size w4 (putB (w4.alloc (.cells zeroS 40)) w4.heap.size (stC t vo2 vt2) 40)) := Lib.hid (((Below.refl _ _).alloc (Nat.le_refl _) _).trans (putB_below _ (Nat.le_refl _) _ _))); refine wpList_putB rfl 40 _ _ rfl w4.heap.size (stC t vo2 vt2) rfl rfl 40 zeroS (blk_new w4 zeroS 40) (rstate_size HT.out.len) (by rw [stC_size HT.out.len]; rfl) HT.out.one ?_; (have HW := Lib.hid (HW.out.next HBT.out)); (have HT := Lib.hid (HT.out.below HBT.out)); (have KT := Lib.hid (putB_at (blk_new w4 zeroS 40) (stC t vo2 vt2) 40)); clear HBT; (have c22 := blk_cell HW.out.st _ _ (stC_rest (vo := vo) (vt := vt) HW.out.at'.len).2.2.1))
              | (go_at_call 14; ((with_reducible refine (HNX.out _ (s.pc : Int) (HPA.out _ HW.out.below)).mono ?_); rintro e w5 ⟨v5, rfl, hr, hb⟩; obtain ⟨ad, cap, hv5, hc1, hc2, hcell⟩ := rowA_form hr; subst hv5; have HW := Lib.hid (HW.out.next hb); have HT := Lib.hid (HT.out.below hb); have KT := Lib.hid (blk_below KT.out hb); have HL := Lib.hid hcell; clear hb hr hcell)))
            have hl7 : (nextV p s.pc).length ≤ 9223372036854775807 := by omega
            go_loopw [11, 73] (fun v11 v73 wx => ∃ j : Nat, j ≤ (nextV p s.pc).length ∧ v73 = .int .i64 j ∧ v11 = .bool (foundJ (nextV p s.pc) t.pc j) ∧ wx = w5) (fun _ v73 _ => (nextV p s.pc).length - (intOf v73).toNat)
            case atStart => exact ⟨0, Nat.zero_le _, rfl, rfl, rfl⟩
            case round =>
              obtain ⟨j, hj, rfl, rfl, hwx⟩ := hrel
              subst hwx
              by_cases hjl : j < (nextV p s.pc).length
              · have hji : (j : Int) < ((nextV p s.pc).length : Int) := by omega
                obtain ⟨xv, hx⟩ : ∃ xv, (nextV p s.pc)[j]? = some xv := ⟨_, List.getElem?_eq_getElem hjl⟩
                obtain ⟨b9, o9, rfl, hb9, q9⟩ := HL.out j xv hx
                have hnx := foundJ_next (t := t.pc) hx
                have c23 := blk_cell KT.out _ _ (stC_rest (vo := vo2) (vt := vt2) HT.out.len).2.2.1
                clear hx hb9
                rcases hfj : foundJ (nextV p s.pc) t.pc j with _ | _
                · rw [hfj, Bool.false_or] at hnx
                  by_cases hxt : xv = (t.pc : Int)
                  · have e9 : (xv == (t.pc : Int)) = true := by simpa using hxt
                    rw [decide_eq_true hxt] at hnx
                    clear hxt hfj
                    go_wp2
                    go_roundw
                    case rel => exact ⟨j + 1, by omega, by go_num, by rw [hnx], trivial⟩
                    case measure => simp [intOf]; omega
                  · have e9 : (xv == (t.pc : Int)) = false := by simpa using hxt
                    rw [decide_eq_false hxt] at hnx
                    clear hxt hfj
                    go_wp2
                    go_roundw
                    case rel => exact ⟨j + 1, by omega, by go_num, by rw [hnx], trivial⟩
                    case measure => simp [intOf]; omega
                · rw [hfj, Bool.true_or] at hnx
                  clear hfj
                  go_wp2
                  go_roundw
                  case rel => exact ⟨j + 1, by omega, by go_num, by rw [hnx], trivial⟩
                  case measure => simp [intOf]; omega
              · have hjn : ¬ ((j : Int) < ((nextV p s.pc).length : Int)) := by omega
                have hfa := foundJ_all (next_memV HM.out)
                obtain rfl : j = (nextV p s.pc).length := by omega
                rw [hfa]
                clear hfa hjl hj HL
                have HEN := Lib.hid (HE8.out _ HM.out)
                go_wp2_with (first
                  | (refine wpList_loadB rfl 40 _ rfl w4.heap.size (stC t vo2 vt2) rfl 40 KT.out _ Tryd.underlying40 rfl (rstate_size HT.out.len) ?_)
                  | (refine wpList_putB rfl 40 _ _ rfl b (stC t vo2 vt2) rfl rfl 40 _ HW.out.st (rstate_size HT.out.len) (by rw [stC_size HW.out.at'.len, stC_size HT.out.len]) HT.out.one ?_; have HW := Lib.hid (HW.out.put HT.out); clear HT KT))
                go_roundw
                case rel => exact ⟨n + 1, _, t, ts', vo2, vt2, _, _, by omega, rfl, by go_num, HW, HRN, HEN⟩
                case measure => simp [intOf]; omega
        · go_upto_region 13 with (first
            | (refine wpList_loadB rfl 25 _ rfl w.heap.size (progC (.slice x p.types.length kx) p (.slice x' p.code.length kx')) rfl 25 HW.out.prog _ Tryd.underlying25 rfl prog_info ?_)
            | (go_at_call 16; ((with_reducible refine (HSF.out _ (s.pc : Int) _ (HPA.out _ HW.out.below) hsv).mono ?_); rintro e w3 ⟨rfl, hb⟩; have HW := Lib.hid (HW.out.next hb); clear hb c22)))
          have hsl : safeL p s.pc = true := by
            have h1 := hsv
            unfold safeV at h1
            rw [Int.toNat_natCast] at h1
            simpa using h1
          have HW := Lib.hid HW.out.new7
          generalize w3.alloc (.map #[] 0) = wz at HW ⊢
          generalize w3.heap.size = r8 at HW ⊢
          have HE8 : Hid (∀ m, m ∈ nextL p s.pc → Seen p (addB f s.pc) (fun _ => false) m) := Lib.hid fun m hm1 => by have h1 := HE.out.next (n := m) hm1; rw [hsl] at h1; simpa using h1
          clear hsl hsv HE
          have HSP : Hid (∀ w1, Below w.heap.size w w1 → StN w1 vo vt s → Calls Tryd.prog 20 #[.agg (progC (.slice x p.types.length kx) p (.slice x' p.code.length kx')), .agg (stC s vo vt)] w1 (StepPost w1 (stepL p s))) := Lib.hid fun w1 hb1 hs1 => HST.out w1 s vo vt ts n hb1 hs1 (size_run HCK.out HR.out (by omega)) (by omega) HR.out
          have hcase : (∃ (d : Bool) (z : Nat), stepL p s = (s, d, z) ∧ (d = true ∨ z ≠ 0)) ∨ ∃ t ts', stepL p s = (t, false, 0) ∧ RunOk p t ts' (n + 1) ∧ t.pc ∈ nextL p s.pc := by
            rcases step_one HCK.out HR.out with ⟨_, he⟩ | ⟨i, hi, _, ⟨hd, he⟩ | ⟨t, hd, he⟩⟩
            · exact .inl ⟨true, 0, he, .inl rfl⟩
            · exact .inl ⟨false, 9, he, .inr (by decide)⟩
            · obtain ⟨ts', hrn, _⟩ := run_next HCK.out HOK.out.ins (by omega) HR.out hi hd
              exact .inr ⟨t, ts', he, hrn, step_next HIN.out hi hd⟩
          rcases hcase with ⟨d, z, hs', hdz⟩ | ⟨t, ts', hs', hrn, hmem⟩
          · rw [hs'] at HSP
            clear hs'
            rcases d with _ | _
            · have ez : ((z : Int) != 0) = true := by have := hdz.resolve_left (by decide); simp; omega
              go_wp2_with (first
                | (refine wpList_loadB rfl 25 _ rfl w.heap.size (progC (.slice x p.types.length kx) p (.slice x' p.code.length kx')) rfl 25 HW.out.prog _ Tryd.underlying25 rfl prog_info ?_)
                | (refine wpList_loadB rfl 40 _ rfl b (stC s vo vt) rfl 40 HW.out.st _ Tryd.underlying40 rfl (rstate_size HW.out.at'.len) ?_)
                | (go_at_call 20; refine (HSP.out _ HW.out.below HW.out.at').mono ?_; rintro e1 w4 ⟨vo2, vt2, rfl, hst2, hb⟩; have HT := Lib.hid hst2; have HW := Lib.hid (HW.out.next hb); clear hb hst2)
                | ((have HBT : Hid (Below w4.heap.size w4 (putB (w4.alloc (.cells zeroS 40)) w4.heap.size (stC s vo2 vt2) 40)) := Lib.hid (((Below.refl _ _).alloc (Nat.le_refl _) _).trans (putB_below _ (Nat.le_refl _) _ _))); refine wpList_putB rfl 40 _ _ rfl w4.heap.size (stC s vo2 vt2) rfl rfl 40 zeroS (blk_new w4 zeroS 40) (rstate_size HT.out.len) (by rw [stC_size HT.out.len]; rfl) HT.out.one ?_; (have HW := Lib.hid (HW.out.next HBT.out)); (have HT := Lib.hid (HT.out.below HBT.out)); (have KT := Lib.hid (putB_at (blk_new w4 zeroS 40) (stC s vo2 vt2) 40)); clear HBT; (have c22 := blk_cell HW.out.st _ _ (stC_rest (vo := vo) (vt := vt) HW.out.at'.len).2.2.1)))
              go_ret
              exact ⟨rfl, HW.out.below⟩
            · go_wp2_with (first
                | (refine wpList_loadB rfl 25 _ rfl w.heap.size (progC (.slice x p.types.length kx) p (.slice x' p.code.length kx')) rfl 25 HW.out.prog _ Tryd.underlying25 rfl prog_info ?_)
                | (refine wpList_loadB rfl 40 _ rfl b (stC s vo vt) rfl 40 HW.out.st _ Tryd.underlying40 rfl (rstate_size HW.out.at'.len) ?_)
                | (go_at_call 20; refine (HSP.out _ HW.out.below HW.out.at').mono ?_; rintro e1 w4 ⟨vo2, vt2, rfl, hst2, hb⟩; have HT := Lib.hid hst2; have HW := Lib.hid (HW.out.next hb); clear hb hst2)
                | ((have HBT : Hid (Below w4.heap.size w4 (putB (w4.alloc (.cells zeroS 40)) w4.heap.size (stC s vo2 vt2) 40)) := Lib.hid (((Below.refl _ _).alloc (Nat.le_refl _) _).trans (putB_below _ (Nat.le_refl _) _ _))); refine wpList_putB rfl 40 _ _ rfl w4.heap.size (stC s vo2 vt2) rfl rfl 40 zeroS (blk_new w4 zeroS 40) (rstate_size HT.out.len) (by rw [stC_size HT.out.len]; rfl) HT.out.one ?_; (have HW := Lib.hid (HW.out.next HBT.out)); (have HT := Lib.hid (HT.out.below HBT.out)); (have KT := Lib.hid (putB_at (blk_new w4 zeroS 40) (stC s vo2 vt2) 40)); clear HBT; (have c22 := blk_cell HW.out.st _ _ (stC_rest (vo := vo) (vt := vt) HW.out.at'.len).2.2.1)))
              go_ret
              exact ⟨rfl, HW.out.below⟩
          · rw [hs'] at HSP
            have HRN := Lib.hid hrn
            have HM := Lib.hid hmem
            clear hs' hrn hmem
            go_wp2_with (first
              | (refine wpList_loadB rfl 25 _ rfl w.heap.size (progC (.slice x p.types.length kx) p (.slice x' p.code.length kx')) rfl 25 HW.out.prog _ Tryd.underlying25 rfl prog_info ?_)
              | (refine wpList_loadB rfl 40 _ rfl b (stC s vo vt) rfl 40 HW.out.st _ Tryd.underlying40 rfl (rstate_size HW.out.at'.len) ?_)
              | (go_at_call 20; refine (HSP.out _ HW.out.below HW.out.at').mono ?_; rintro e1 w4 ⟨vo2, vt2, rfl, hst2, hb⟩; have HT := Lib.hid hst2; have HW := Lib.hid (HW.out.next hb); clear hb hst2)
              | ((have HBT : Hid (Below w4.heap.size w4 (putB (w4.alloc (.cells zeroS 40)) w4.heap.size (stC t vo2 vt2) 40)) := Lib.hid (((Below.refl _ _).alloc (Nat.le_refl _) _).trans (putB_below _ (Nat.le_refl _) _ _))); refine wpList_putB rfl 40 _ _ rfl w4.heap.size (stC t vo2 vt2) rfl rfl 40 zeroS (blk_new w4 zeroS 40) (rstate_size HT.out.len) (by rw [stC_size HT.out.len]; rfl) HT.out.one ?_; (have HW := Lib.hid (HW.out.next HBT.out)); (have HT := Lib.hid (HT.out.below HBT.out)); (have KT := Lib.hid (putB_at (blk_new w4 zeroS 40) (stC t vo2 vt2) 40)); clear HBT; (have c22 := blk_cell HW.out.st _ _ (stC_rest (vo := vo) (vt := vt) HW.out.at'.len).2.2.1))
              | (go_at_call 14; ((with_reducible refine (HNX.out _ (s.pc : Int) (HPA.out _ HW.out.below)).mono ?_); rintro e w5 ⟨v5, rfl, hr, hb⟩; obtain ⟨ad, cap, hv5, hc1, hc2, hcell⟩ := rowA_form hr; subst hv5; have HW := Lib.hid (HW.out.next hb); have HT := Lib.hid (HT.out.below hb); have KT := Lib.hid (blk_below KT.out hb); have HL := Lib.hid hcell; clear hb hr hcell)))
            have hl7 : (nextV p s.pc).length ≤ 9223372036854775807 := by omega
            go_loopw [11, 73] (fun v11 v73 wx => ∃ j : Nat, j ≤ (nextV p s.pc).length ∧ v73 = .int .i64 j ∧ v11 = .bool (foundJ (nextV p s.pc) t.pc j) ∧ wx = w5) (fun _ v73 _ => (nextV p s.pc).length - (intOf v73).toNat)
            case atStart => exact ⟨0, Nat.zero_le _, rfl, rfl, rfl⟩
            case round =>
              obtain ⟨j, hj, rfl, rfl, hwx⟩ := hrel
              subst hwx
              by_cases hjl : j < (nextV p s.pc).length
              · have hji : (j : Int) < ((nextV p s.pc).length : Int) := by omega
                obtain ⟨xv, hx⟩ : ∃ xv, (nextV p s.pc)[j]? = some xv := ⟨_, List.getElem?_eq_getElem hjl⟩
                obtain ⟨b9, o9, rfl, hb9, q9⟩ := HL.out j xv hx
                have hnx := foundJ_next (t := t.pc) hx
                have c23 := blk_cell KT.out _ _ (stC_rest (vo := vo2) (vt := vt2) HT.out.len).2.2.1
                clear hx hb9
                rcases hfj : foundJ (nextV p s.pc) t.pc j with _ | _
                · rw [hfj, Bool.false_or] at hnx
                  by_cases hxt : xv = (t.pc : Int)
                  · have e9 : (xv == (t.pc : Int)) = true := by simpa using hxt
                    rw [decide_eq_true hxt] at hnx
                    clear hxt hfj
                    go_wp2
                    go_roundw
                    case rel => exact ⟨j + 1, by omega, by go_num, by rw [hnx], trivial⟩
                    case measure => simp [intOf]; omega
                  · have e9 : (xv == (t.pc : Int)) = false := by simpa using hxt
                    rw [decide_eq_false hxt] at hnx
                    clear hxt hfj
                    go_wp2
                    go_roundw
                    case rel => exact ⟨j + 1, by omega, by go_num, by rw [hnx], trivial⟩
                    case measure => simp [intOf]; omega
                · rw [hfj, Bool.true_or] at hnx
                  clear hfj
                  go_wp2
                  go_roundw
                  case rel => exact ⟨j + 1, by omega, by go_num, by rw [hnx], trivial⟩
                  case measure => simp [intOf]; omega
              · have hjn : ¬ ((j : Int) < ((nextV p s.pc).length : Int)) := by omega
                have hfa := foundJ_all (next_memV HM.out)
                obtain rfl : j = (nextV p s.pc).length := by omega
                rw [hfa]
                clear hfa hjl hj HL
                have HEN := Lib.hid (HE8.out _ HM.out)
                go_wp2_with (first
                  | (refine wpList_loadB rfl 40 _ rfl w4.heap.size (stC t vo2 vt2) rfl 40 KT.out _ Tryd.underlying40 rfl (rstate_size HT.out.len) ?_)
                  | (refine wpList_putB rfl 40 _ _ rfl b (stC t vo2 vt2) rfl rfl 40 _ HW.out.st (rstate_size HT.out.len) (by rw [stC_size HW.out.at'.len, stC_size HT.out.len]) HT.out.one ?_; have HW := Lib.hid (HW.out.put HT.out); clear HT KT))
                go_roundw
                case rel => exact ⟨n + 1, _, t, ts', vo2, vt2, _, _, by omega, rfl, by go_num, HW, HRN, HEN⟩
                case measure => simp [intOf]; omega
    · have hnn : ¬ ((n : Int) < (a : Int)) := by omega
      go_wp2_with (fail)
      go_ret
      exact ⟨rfl, HW.out.below⟩
theorem runs_walk (v : Value) (p : PProg) (a : Int) (w : World) (h : ProgAt w v p) (hs : OkP p) (ha0 : 0 ≤ a) (ha : a ≤ 255) (ht' : HasT w) : Calls Tryd.prog 4 #[v, .int .u8 a] w fun e w' => e = .returned (.bool true) ∧ Below w.heap.size w w' := by
  obtain ⟨vt, vc, rfl, ht, hc⟩ := id h
  have hwb : Below w.heap.size w (w.alloc (.cells (progC vt p vc) 25)) := (Below.refl _ _).alloc (Nat.le_refl _) _
  have HK := keep_new h
  obtain ⟨x, c, rfl, -, -, -⟩ := id ht.elems
  obtain ⟨x', c', rfl, q1, q2, -⟩ := id hc
  obtain ⟨ka, rfl⟩ : ∃ ka : Nat, a = ka := ⟨a.toNat, by omega⟩
  unfold maxLen at q2
  exact runs_at w _ p ka x x' c c' rfl (Lib.hid HK) (Lib.hid hwb) (Lib.hid fun w1 => falive_n w1) (Lib.hid fun w1 h1 hb1 => sound_n _ p w1 _ h1 hs (ht'.below hb1) rfl)
    (Lib.hid fun hsd w1 k h1 => fnext_n _ p w1 k h1 hs (sound_parts hsd).2.2.2.1 (by have := (sound_parts hsd).2.1; omega)) (Lib.hid fun hsd w1 k r h1 hr => fsafe_n _ p w1 k r h1 hs (sound_parts hsd).2.2.2.1 (by have := (sound_parts hsd).2.1; omega) hr)
    (Lib.hid fun hsd w1 k h1 => freach_n _ p w1 k h1 hs (sound_parts hsd).2.2.2.1 (by have := (sound_parts hsd).2.1; omega)) (Lib.hid fun hsd w1 k r h1 hr => floops_n _ p w1 k r h1 hs (sound_parts hsd).2.2.2.1 (by have := (sound_parts hsd).2.1; omega) hr)
    (by omega) (by omega) q1 (Lib.hid fun hsd w1 s vo vt ts n hb1 hst hz hn hr => rstep_n _ p w1 s vo vt ts n (h.below hb1) hs (ht'.below hb1) hst hz hn (fun _ => hr)) (Lib.hid fun w1 hb1 => h.below hb1) (Lib.hid hs) (Lib.hid fun hsd => (sound_parts hsd).2.2.1)
end Go.Proofs.YtcenjphpdgadmaaDoor
