/-
  LiveOnly: the walk.
-/
import Derived.Test.YtijgpfimdlnkiaaDoorVPA
import Derived.Deep.LoopGhost
import Derived.Test.YtijgpfimdlnkiaaDoorVRun
import Derived.Deep.RegionHeld3
import Derived.Deep.CutRange
import Derived.Deep.QuietTactic
namespace Go.Proofs.YtijgpfimdlnkiaaDoor
set_option linter.unusedSimpArgs false
set_option linter.unusedVariables false
open Go.RowKit

set_option maxRecDepth 100000 in
set_option maxHeartbeats 8000000 in
theorem lonly_at (w W0 : World) (p : PProg) (a : Nat) (x x' : Option Addr) (kx kx' : Nat)
    (hW0 : W0 = w.alloc (.cells (progC (.slice x p.types.length kx) p (.slice x' p.code.length kx')) 25)) (KP : Hid (Keep W0 w.heap.size (.slice x p.types.length kx) (.slice x' p.code.length kx') p)) (HB : Hid (Below w.heap.size w W0))
    (HAL : Hid (∀ w1, Calls Tryd.prog 9 #[] w1 (AggPost w1 (.bool true))))
    (HSO : Hid (∀ w1, ProgAt w1 (.agg (progC (.slice x p.types.length kx) p (.slice x' p.code.length kx'))) p → Below w.heap.size w w1 → Calls Tryd.prog 14 #[.agg (progC (.slice x p.types.length kx) p (.slice x' p.code.length kx'))] w1 (AggPost w1 (.bool (soundB p)))))
    (g2 : kx' ≤ 9223372036854775807) (g1 : p.code.length ≤ kx')
    (HLI : Hid (soundB p = true → ∀ w1, ProgAt w1 (.agg (progC (.slice x p.types.length kx) p (.slice x' p.code.length kx'))) p → Calls Tryd.prog 15 #[.agg #[.slice x p.types.length kx, str p.locals, str p.globs, .slice x' p.code.length kx']] w1 (U8sPost w1 (liveL p))))
    (ha : a ≤ 255) (HOK : Hid (OkP p)) (HPA : Hid (∀ w1, Below w.heap.size w w1 → ProgAt w1 (.agg (progC (.slice x p.types.length kx) p (.slice x' p.code.length kx'))) p))
    (HST : Hid (soundB p = true → ∀ w1 s vo vt, Below w.heap.size w w1 → StN w1 vo vt s → SizeOk s → UseOk p s → Calls Tryd.prog 18 #[.agg (progC (.slice x p.types.length kx) p (.slice x' p.code.length kx')), .agg (stC s vo vt)] w1 (StepPost w1 (stepL p s))))
    (HNU : Hid (∀ w1 va vb l, RowAt w1 va (i64s l) → RowAt w1 vb (i64s l) → Calls Tryd.prog 19 #[va, vb] w1 (AggPost w1 (.bool true)))) :
    Calls Tryd.prog 5 #[.agg (progC (.slice x p.types.length kx) p (.slice x' p.code.length kx')), .int .u8 a] w (AggPost w (.bool true)) := by
  go_enter Tryd.func5, Tryd.ntmps5
  go_upto_region 1 with (fail)
  rw [← hW0]
  clear hW0
  rcases hsd : soundB p with _ | _
  · rw [hsd] at HSO
    go_wp2_with (first
      | (refine wpList_loadB rfl 25 _ rfl w.heap.size (progC (.slice x p.types.length kx) p (.slice x' p.code.length kx')) rfl 25 KP.out.blk _ Tryd.underlying25 rfl prog_info ?_)
      | (go_at_call 9; ((with_reducible refine (HAL.out _).mono ?_); rintro e w1 ⟨rfl, hb⟩; have KP := Lib.hid (KP.out.below hb); have HB := Lib.hid (HB.out.trans (hb.mono HB.out.size)); clear hb))
      | (go_at_call 14; ((with_reducible refine (HSO.out _ KP.out.at' HB.out).mono ?_); rintro e w2 ⟨rfl, hb⟩; have KP := Lib.hid (KP.out.below hb); have HB := Lib.hid (HB.out.trans (hb.mono HB.out.size)); clear hb)))
    go_ret
    exact ⟨rfl, HB.out⟩
  have HLI : Hid (∀ w1, ProgAt w1 (.agg (progC (.slice x p.types.length kx) p (.slice x' p.code.length kx'))) p → Calls Tryd.prog 15 #[.agg (progC (.slice x p.types.length kx) p (.slice x' p.code.length kx'))] w1 (U8sPost w1 (liveL p))) := Lib.hid (HLI.out hsd)
  have HST := Lib.hid (HST.out hsd)
  obtain ⟨hfw, hl60, hck, hin0, hl1⟩ := sound_parts hsd
  have HIN := Lib.hid hin0
  have HCK := Lib.hid hck
  rw [hsd] at HSO
  clear hin0 hck hsd
  go_upto_region 4 with (first
    | (refine wpList_loadB rfl 25 _ rfl w.heap.size (progC (.slice x p.types.length kx) p (.slice x' p.code.length kx')) rfl 25 KP.out.blk _ Tryd.underlying25 rfl prog_info ?_)
    | (go_at_call 9; ((with_reducible refine (HAL.out _).mono ?_); rintro e w1 ⟨rfl, hb⟩; have KP := Lib.hid (KP.out.below hb); have HB := Lib.hid (HB.out.trans (hb.mono HB.out.size)); clear hb))
    | (go_at_call 14; ((with_reducible refine (HSO.out _ KP.out.at' HB.out).mono ?_); rintro e w2 ⟨rfl, hb⟩; have KP := Lib.hid (KP.out.below hb); have HB := Lib.hid (HB.out.trans (hb.mono HB.out.size)); clear hb))
    | (go_at_call 15; ((with_reducible refine (HLI.out _ KP.out.at').mono ?_); rintro e w3 ⟨v3, rfl, hr, hb⟩; obtain ⟨b4, o4, cp4, hv3, hc4, hd4, hbx, hcell⟩ := u8A_cells hr live_n1; subst hv3; have KP := Lib.hid (KP.out.below hb); have HB := Lib.hid (HB.out.trans (hb.mono HB.out.size)); clear hb; have HL := Lib.hid (U8At.mk hbx hcell); clear hr hbx hcell)))
  have p3 := KP.out.cells.2.2.2
  have e1 : (((p.code.length + 1 : Nat) : Int) != (p.code.length : Int) + 1) = false := by simp
  clear HSO HAL HLI
  go_upto_region 7 with (fail)
  have hw0 := LoW.start HB.out KP.out.blk HL.out
  generalize hwb : (w3.alloc (.cells zeroS 42)).alloc (.cells zeroS 42) = wb at hw0 ⊢
  clear hwb
  generalize hB : w3.heap.size + 1 = bt at hw0 ⊢
  clear hB
  generalize hB : w3.heap.size = bs at hw0 ⊢
  clear hB
  have HW0 := Lib.hid hw0
  have HR0 := Lib.hid (run_0 p)
  have HE0 : Hid ((List.replicate 8 (0 : Int)).length = 8 ∧ ∀ a, ((liveL p).getD st0.pc 0).testBit a = true → (List.replicate 8 (0 : Int)).getD a 0 = st0.p.getD a 0) := Lib.hid ⟨rfl, fun _ _ => rfl⟩
  clear hw0 KP HB HL p3
  go_wp2_with (fail)
  go_loopw [35] (fun v35 wr => ∃ (n : Nat) (s : PSt) (tp : List Int) (ts : List Nat) (vo vt vo2 vt2 : Value), n ≤ a ∧ v35 = .int .i64 n ∧ Hid (LoW w wr bs bt b4 o4 p.code.length (liveL p) (progC (.slice x p.types.length kx) p (.slice x' p.code.length kx')) s (withP s tp) vo vt vo2 vt2) ∧ Hid (RunOk p s ts n) ∧ Hid (tp.length = 8 ∧ ∀ a, ((liveL p).getD s.pc 0).testBit a = true → tp.getD a 0 = s.p.getD a 0)) (fun v35 _ => a - (intOf v35).toNat)
  case atStart => exact ⟨0, st0, _, [], _, _, _, _, Nat.zero_le _, rfl, HW0, HR0, HE0⟩
  case round =>
    clear HW0 HR0 HE0
    obtain ⟨n, s, tp, ts, vo, vt, vo2, vt2, hn, rfl, HW, HR, HE⟩ := hrel
    by_cases hna : n < a
    · have hni : (n : Int) < (a : Int) := by omega
      go_wp2_with (first
        | (refine wpList_ldP rfl _ rfl rfl HW.out.kt HW.out.a2.len ?_)
        | (refine wpList_putB rfl 37 _ _ rfl wr.heap.size (xC tp) rfl rfl 37 zero8 (blk_new wr zero8 37) (by rw [xC_size, HE.out.1]; exact infoP) (by rw [xC_size, HE.out.1]; rfl) (xC_one tp) ?_))
      have HBQ : Hid (Below wr.heap.size wr (putB (wr.alloc (.cells zero8 37)) wr.heap.size (xC tp) 37)) := Lib.hid (((Below.refl _ _).alloc (Nat.le_refl _) _).trans (putB_below _ (Nat.le_refl _) _ _))
      have KQ0 : Hid (blk (putB (wr.alloc (.cells zero8 37)) wr.heap.size (xC tp) 37) wr.heap.size (xC tp) 37) := Lib.hid (putB_at (blk_new wr zero8 37) (xC tp) 37)
      generalize (putB (wr.alloc (.cells zero8 37)) wr.heap.size (xC tp) 37) = wq at HBQ KQ0 ⊢
      have hzl := live_lt (q := p) s.pc
      have hpc := HR.out.pc
      obtain ⟨z, hz⟩ : ∃ z, z = (liveL p).getD s.pc 0 := ⟨_, rfl⟩
      have HZ := Lib.hid hz
      have KQ1 : Hid (blk wq wr.heap.size (xC (zeroTo z 0 tp)) 37) := Lib.hid (by rw [zero_0]; exact KQ0.out)
      obtain ⟨Q, hQ⟩ : ∃ Q, Q = wr.heap.size := ⟨_, rfl⟩
      rw [← hQ] at KQ1 ⊢
      have HQ := Lib.hid hQ
      clear KQ0 hz hQ hzl
      obtain ⟨wo, hwo⟩ : ∃ wo : World, wo = wr := ⟨_, rfl⟩
      rw [← hwo] at HW HBQ HQ
      clear hwo
      go_loopw [39] (fun v39 wx => ∃ k : Nat, k ≤ 8 ∧ v39 = .int .i64 k ∧ Hid (Below wo.heap.size wo wx) ∧ Hid (blk wx Q (xC (zeroTo z k tp)) 37)) (fun v39 _ => 8 - (intOf v39).toNat)
      case atStart => exact ⟨0, Nat.zero_le _, rfl, HBQ, KQ1⟩
      case round =>
        obtain ⟨k, hk, rfl, HBX, KQ⟩ := hrel
        clear HBQ KQ1
        by_cases hk8 : k < 8
        · have hki : (k : Int) < 8 := by omega
          have hk0 : (0 : Int) ≤ (k : Int) := by omega
          have hp0 : (0 : Int) ≤ (s.pc : Int) := by omega
          have hp1 : (s.pc : Int) < (p.code.length : Int) + 1 := by omega
          have HWX := Lib.hid (HW.out.next HBX.out)
          have q0 := HWX.out.row.c s.pc hpc
          rw [← HZ.out] at q0
          have c22 : wr.cell? ⟨bt, 22, none⟩ = some (.int .i64 (s.pc : Int)) := blk_cell HWX.out.kt _ _ (stC_rest (vo := vo2) (vt := vt2) HWX.out.a2.len).2.2.1
          have ch : wr.cell? ⟨Q, k, none⟩ = some (.int .i64 ((zeroTo z k tp).getD k 0)) := blk_cell KQ.out k _ (xC_get (by rw [zero_len, HE.out.1]; exact hk8))
          have fh := blk_frozen KQ.out k
          rcases hb : z.testBit k with _ | _
          · have e9 : (((z : Int) / 2 ^ k).tmod 2 == 0) = true := by rw [shr_tmod, hb]; rfl
            have HBY : Hid (Below wo.heap.size wo (wr.setCell ⟨Q, k, none⟩ (.int .i64 0))) := Lib.hid (HBX.out.setCell (p := ⟨Q, k, none⟩) (by rw [HQ.out]; exact Nat.le_refl _) _)
            have KQY : Hid (blk (wr.setCell ⟨Q, k, none⟩ (.int .i64 0)) Q (xC (zeroTo z (k + 1) tp)) 37) := Lib.hid (by rw [setCell_putB KQ.out, xC_set, ← zero_next hb]; exact putB_at KQ.out _ _)
            clear hb
            go_wp2
            go_roundw
            case rel => exact ⟨k + 1, by omega, by go_num, HBY, KQY⟩
            case measure => simp [intOf]; omega
          · have e9 : (((z : Int) / 2 ^ k).tmod 2 == 0) = false := by rw [shr_tmod, hb]; rfl
            have KQY : Hid (blk wr Q (xC (zeroTo z (k + 1) tp)) 37) := Lib.hid (by rw [zero_skip hb]; exact KQ.out)
            clear hb
            go_wp2
            go_roundw
            case rel => exact ⟨k + 1, by omega, by go_num, HBX, KQY⟩
            case measure => simp [intOf]; omega
        · have hkn : ¬ ((k : Int) < 8) := by omega
          obtain rfl : k = 8 := by omega
          have hz8 : (zeroTo z 8 tp).length = 8 := by rw [zero_len]; exact HE.out.1
          have HEZ : Hid ((zeroTo z 8 tp).length = 8 ∧ ∀ a, ((liveL p).getD s.pc 0).testBit a = true → (zeroTo z 8 tp).getD a 0 = s.p.getD a 0) := Lib.hid ⟨hz8, fun a ha => by rw [← HZ.out] at ha; exact zero_live (fun b hb => HE.out.2 b (by rw [← HZ.out]; exact hb)) 8 a ha⟩
          have HWX := Lib.hid (HW.out.next HBX.out)
          generalize zeroTo z 8 tp = tz at KQ hz8 HEZ
          have HWZ := Lib.hid (HWX.out.putT (HWX.out.a2.pp hz8))
          go_upto_region 17 with (first
            | (refine wpList_loadB rfl 37 _ rfl Q (xC tz) rfl 37 KQ.out _ Tryd.underlying37 rfl (by rw [xC_size, hz8]; exact infoP) ?_)
            | (refine wpList_putP rfl _ _ rfl rfl rfl HWX.out.kt HWX.out.a2.len hz8 ?_))
          clear HWX KQ HBX HW hk hkn
          have HW : Hid (LoW w (putB wr bt (stC (withP s tz) vo2 vt2) 42) bs bt b4 o4 p.code.length (liveL p) (progC (.slice x p.types.length kx) p (.slice x' p.code.length kx')) s (withP s tz) vo vt vo2 vt2) := HWZ
          clear HWZ
          obtain ⟨wz, hwz⟩ : ∃ wz, wz = putB wr bt (stC (withP s tz) vo2 vt2) 42 := ⟨_, rfl⟩
          have hwz' : putB wr bt (stC { withP s tp with p := tz } vo2 vt2) 42 = wz := hwz.symm
          rw [hwz']
          rw [← hwz] at HW
          clear hwz hwz'
          obtain ⟨d, zz, x1, yp, hs1, hs2, hx8, hy8, hcase⟩ := step_both HCK.out HIN.out HOK.out.ins (by omega) HR.out HEZ.out.1 HEZ.out.2
          have hus := use_both HCK.out HOK.out.ins (by omega) HR.out HEZ.out.1 HEZ.out.2
          have hlx : x1.x.length = 8 ∧ x1.g.length = 4 := step_lens HCK.out HOK.out.ins HR.out (by omega) hs1
          have hsz := size_run HCK.out HR.out (by omega)
          have hsz2 : SizeOk (withP s tz) := ⟨hsz.objs, hsz.out, hsz.rows, hsz.pc⟩
          have HSP1 : Hid (∀ w1, Below w.heap.size w w1 → StN w1 vo vt s → Calls Tryd.prog 18 #[.agg (progC (.slice x p.types.length kx) p (.slice x' p.code.length kx')), .agg (stC s vo vt)] w1 (StepPost w1 (x1, d, zz))) := Lib.hid fun w1 hb1 h1 => by rw [← hs1]; exact HST.out w1 s vo vt hb1 h1 hsz hus.1
          have HSP2 : Hid (∀ w1, Below w.heap.size w w1 → StN w1 vo2 vt2 (withP s tz) → Calls Tryd.prog 18 #[.agg (progC (.slice x p.types.length kx) p (.slice x' p.code.length kx')), .agg (stC (withP s tz) vo2 vt2)] w1 (StepPost w1 (withP x1 yp, d, zz))) := Lib.hid fun w1 hb1 h1 => by rw [← hs2]; exact HST.out w1 (withP s tz) vo2 vt2 hb1 h1 hsz2 hus.2
          have IX : (Tryd.prog.info? 36).map (·.size) = some (i64s x1.x).length := by rw [i64s_len, hlx.1]; exact infoX
          have IG : (Tryd.prog.info? 38).map (·.size) = some (i64s x1.g).length := by rw [i64s_len, hlx.2]; exact infoG
          have HIX := Lib.hid IX
          have HIG := Lib.hid IG
          have qX := fun w => same_X w x1.x hlx.1
          have qG := fun w => same_G w x1.g hlx.2
          clear hs1 hs2 hus hsz hsz2 HEZ hz8 IX IG
          rcases hcase with (rfl | hz0) | ⟨rfl, rfl, ⟨ts', hrn⟩, hlv⟩
          · go_wp2_with (first
              | (refine wpList_loadB rfl 25 _ rfl w.heap.size (progC (.slice x p.types.length kx) p (.slice x' p.code.length kx')) rfl 25 HW.out.prog _ Tryd.underlying25 rfl prog_info ?_)
              | (refine wpList_loadB rfl 42 _ rfl bs (stC s vo vt) rfl 42 HW.out.ks _ Tryd.underlying42 rfl (rstate_size HW.out.a1.len) ?_)
              | (refine wpList_loadB rfl 42 _ rfl bt (stC (withP s tz) vo2 vt2) rfl 42 HW.out.kt _ Tryd.underlying42 rfl (rstate_size HW.out.a2.len) ?_)
              | (go_at_call 18; ((with_reducible refine (HSP1.out _ HW.out.below HW.out.a1).mono ?_); rintro e1 w4 ⟨vo3, vt3, rfl, hst2, hb⟩; have HT1 := Lib.hid hst2; have HW := Lib.hid (HW.out.next hb); clear hb hst2))
              | ((have HBT : Hid (Below w4.heap.size w4 (putB (w4.alloc (.cells zeroS 42)) w4.heap.size (stC x1 vo3 vt3) 42)) := Lib.hid (((Below.refl _ _).alloc (Nat.le_refl _) _).trans (putB_below _ (Nat.le_refl _) _ _))); refine wpList_putB rfl 42 _ _ rfl w4.heap.size (stC x1 vo3 vt3) rfl rfl 42 zeroS (blk_new w4 zeroS 42) (rstate_size HT1.out.len) (by rw [stC_size HT1.out.len]; rfl) HT1.out.one ?_; (have HW := Lib.hid (HW.out.next HBT.out)); (have HT1 := Lib.hid (HT1.out.below HBT.out)); (have KT1 := Lib.hid (putB_at (blk_new w4 zeroS 42) (stC x1 vo3 vt3) 42)); clear HBT)
              | (go_at_call 18; ((with_reducible refine (HSP2.out _ HW.out.below HW.out.a2).mono ?_); rintro e1 w6 ⟨vo4, vt4, rfl, hst2, hb⟩; have HT2 := Lib.hid hst2; have HW := Lib.hid (HW.out.next hb); have hyb := blk_lt HW.out.kt; have HT1 := Lib.hid (HT1.out.below hb); have KT1 := Lib.hid (blk_below KT1.out hb); clear hb hst2))
              | ((have HBT : Hid (Below w6.heap.size w6 (putB (w6.alloc (.cells zeroS 42)) w6.heap.size (stC (withP x1 yp) vo4 vt4) 42)) := Lib.hid (((Below.refl _ _).alloc (Nat.le_refl _) _).trans (putB_below _ (Nat.le_refl _) _ _))); refine wpList_putB rfl 42 _ _ rfl w6.heap.size (stC (withP x1 yp) vo4 vt4) rfl rfl 42 zeroS (blk_new w6 zeroS 42) (rstate_size HT2.out.len) (by rw [stC_size HT2.out.len]; rfl) HT2.out.one ?_; (have HW := Lib.hid (HW.out.next HBT.out)); (have HT2 := Lib.hid (HT2.out.below HBT.out)); (have KT2 := Lib.hid (putB_at (blk_new w6 zeroS 42) (stC (withP x1 yp) vo4 vt4) 42)); (have HT1 := Lib.hid (HT1.out.below HBT.out)); (have KT1 := Lib.hid (blk_below KT1.out HBT.out)); (have x22 := blk_cell KT1.out _ _ (stC_rest (vo := vo3) (vt := vt3) HT1.out.len).2.2.1); (have x21 := blk_cell KT1.out _ _ (stC_rest (vo := vo3) (vt := vt3) HT1.out.len).2.1); (have y22 := blk_cell KT2.out _ _ (stC_rest (vo := vo4) (vt := vt4) HT2.out.len).2.2.1); (have y21 := blk_cell KT2.out _ _ (stC_rest (vo := vo4) (vt := vt4) HT2.out.len).2.1); (have y22 : _ = some (Value.int .i64 (x1.pc : Int)) := y22); clear HBT)
              | (refine wpList_load_wantV (by rfl) 36 _ rfl w4.heap.size 0 rfl (i64s x1.x) _ (range_x KT1.out HT1.out.len).1 Tryd.underlying36 rfl HIX.out ?_)
              | (refine wpList_load_wantV (by rfl) 36 _ rfl w6.heap.size 0 rfl (i64s x1.x) _ (range_x KT2.out HT2.out.len).1 Tryd.underlying36 rfl HIX.out ?_)
              | (refine wpList_load_wantV (by rfl) 38 _ rfl w4.heap.size 16 rfl (i64s x1.g) _ (range_x KT1.out HT1.out.len).2.2 Tryd.underlying38 rfl HIG.out ?_)
              | (refine wpList_load_wantV (by rfl) 38 _ rfl w6.heap.size 16 rfl (i64s x1.g) _ (range_x KT2.out HT2.out.len).2.2 Tryd.underlying38 rfl HIG.out ?_)
              | (go_at_call 19; refine (HNU.out _ vt3 vt4 x1.out HT1.out.out.1 HT2.out.out.1).mono ?_; rintro e w7 ⟨rfl, hb⟩; have HW := Lib.hid (HW.out.next hb); have HT1 := Lib.hid (HT1.out.below hb); have KT1 := Lib.hid (blk_below KT1.out hb); have HT2 := Lib.hid (HT2.out.below hb); have KT2 := Lib.hid (blk_below KT2.out hb); clear hb x21 x22 y21 y22))
            go_ret
            exact ⟨rfl, HW.out.below⟩
          · have ez : ((zz : Int) != 0) = true := by simp; omega
            rcases d with _ | _
            · go_wp2_with (first
                | (refine wpList_loadB rfl 25 _ rfl w.heap.size (progC (.slice x p.types.length kx) p (.slice x' p.code.length kx')) rfl 25 HW.out.prog _ Tryd.underlying25 rfl prog_info ?_)
                | (refine wpList_loadB rfl 42 _ rfl bs (stC s vo vt) rfl 42 HW.out.ks _ Tryd.underlying42 rfl (rstate_size HW.out.a1.len) ?_)
                | (refine wpList_loadB rfl 42 _ rfl bt (stC (withP s tz) vo2 vt2) rfl 42 HW.out.kt _ Tryd.underlying42 rfl (rstate_size HW.out.a2.len) ?_)
                | (go_at_call 18; ((with_reducible refine (HSP1.out _ HW.out.below HW.out.a1).mono ?_); rintro e1 w4 ⟨vo3, vt3, rfl, hst2, hb⟩; have HT1 := Lib.hid hst2; have HW := Lib.hid (HW.out.next hb); clear hb hst2))
                | ((have HBT : Hid (Below w4.heap.size w4 (putB (w4.alloc (.cells zeroS 42)) w4.heap.size (stC x1 vo3 vt3) 42)) := Lib.hid (((Below.refl _ _).alloc (Nat.le_refl _) _).trans (putB_below _ (Nat.le_refl _) _ _))); refine wpList_putB rfl 42 _ _ rfl w4.heap.size (stC x1 vo3 vt3) rfl rfl 42 zeroS (blk_new w4 zeroS 42) (rstate_size HT1.out.len) (by rw [stC_size HT1.out.len]; rfl) HT1.out.one ?_; (have HW := Lib.hid (HW.out.next HBT.out)); (have HT1 := Lib.hid (HT1.out.below HBT.out)); (have KT1 := Lib.hid (putB_at (blk_new w4 zeroS 42) (stC x1 vo3 vt3) 42)); clear HBT)
                | (go_at_call 18; ((with_reducible refine (HSP2.out _ HW.out.below HW.out.a2).mono ?_); rintro e1 w6 ⟨vo4, vt4, rfl, hst2, hb⟩; have HT2 := Lib.hid hst2; have HW := Lib.hid (HW.out.next hb); have hyb := blk_lt HW.out.kt; have HT1 := Lib.hid (HT1.out.below hb); have KT1 := Lib.hid (blk_below KT1.out hb); clear hb hst2))
                | ((have HBT : Hid (Below w6.heap.size w6 (putB (w6.alloc (.cells zeroS 42)) w6.heap.size (stC (withP x1 yp) vo4 vt4) 42)) := Lib.hid (((Below.refl _ _).alloc (Nat.le_refl _) _).trans (putB_below _ (Nat.le_refl _) _ _))); refine wpList_putB rfl 42 _ _ rfl w6.heap.size (stC (withP x1 yp) vo4 vt4) rfl rfl 42 zeroS (blk_new w6 zeroS 42) (rstate_size HT2.out.len) (by rw [stC_size HT2.out.len]; rfl) HT2.out.one ?_; (have HW := Lib.hid (HW.out.next HBT.out)); (have HT2 := Lib.hid (HT2.out.below HBT.out)); (have KT2 := Lib.hid (putB_at (blk_new w6 zeroS 42) (stC (withP x1 yp) vo4 vt4) 42)); (have HT1 := Lib.hid (HT1.out.below HBT.out)); (have KT1 := Lib.hid (blk_below KT1.out HBT.out)); (have x22 := blk_cell KT1.out _ _ (stC_rest (vo := vo3) (vt := vt3) HT1.out.len).2.2.1); (have x21 := blk_cell KT1.out _ _ (stC_rest (vo := vo3) (vt := vt3) HT1.out.len).2.1); (have y22 := blk_cell KT2.out _ _ (stC_rest (vo := vo4) (vt := vt4) HT2.out.len).2.2.1); (have y21 := blk_cell KT2.out _ _ (stC_rest (vo := vo4) (vt := vt4) HT2.out.len).2.1); (have y22 : _ = some (Value.int .i64 (x1.pc : Int)) := y22); clear HBT)
                | (refine wpList_load_wantV (by rfl) 36 _ rfl w4.heap.size 0 rfl (i64s x1.x) _ (range_x KT1.out HT1.out.len).1 Tryd.underlying36 rfl HIX.out ?_)
                | (refine wpList_load_wantV (by rfl) 36 _ rfl w6.heap.size 0 rfl (i64s x1.x) _ (range_x KT2.out HT2.out.len).1 Tryd.underlying36 rfl HIX.out ?_)
                | (refine wpList_load_wantV (by rfl) 38 _ rfl w4.heap.size 16 rfl (i64s x1.g) _ (range_x KT1.out HT1.out.len).2.2 Tryd.underlying38 rfl HIG.out ?_)
                | (refine wpList_load_wantV (by rfl) 38 _ rfl w6.heap.size 16 rfl (i64s x1.g) _ (range_x KT2.out HT2.out.len).2.2 Tryd.underlying38 rfl HIG.out ?_)
                | (go_at_call 19; refine (HNU.out _ vt3 vt4 x1.out HT1.out.out.1 HT2.out.out.1).mono ?_; rintro e w7 ⟨rfl, hb⟩; have HW := Lib.hid (HW.out.next hb); have HT1 := Lib.hid (HT1.out.below hb); have KT1 := Lib.hid (blk_below KT1.out hb); have HT2 := Lib.hid (HT2.out.below hb); have KT2 := Lib.hid (blk_below KT2.out hb); clear hb x21 x22 y21 y22))
              go_ret
              exact ⟨rfl, HW.out.below⟩
            · go_wp2_with (first
                | (refine wpList_loadB rfl 25 _ rfl w.heap.size (progC (.slice x p.types.length kx) p (.slice x' p.code.length kx')) rfl 25 HW.out.prog _ Tryd.underlying25 rfl prog_info ?_)
                | (refine wpList_loadB rfl 42 _ rfl bs (stC s vo vt) rfl 42 HW.out.ks _ Tryd.underlying42 rfl (rstate_size HW.out.a1.len) ?_)
                | (refine wpList_loadB rfl 42 _ rfl bt (stC (withP s tz) vo2 vt2) rfl 42 HW.out.kt _ Tryd.underlying42 rfl (rstate_size HW.out.a2.len) ?_)
                | (go_at_call 18; ((with_reducible refine (HSP1.out _ HW.out.below HW.out.a1).mono ?_); rintro e1 w4 ⟨vo3, vt3, rfl, hst2, hb⟩; have HT1 := Lib.hid hst2; have HW := Lib.hid (HW.out.next hb); clear hb hst2))
                | ((have HBT : Hid (Below w4.heap.size w4 (putB (w4.alloc (.cells zeroS 42)) w4.heap.size (stC x1 vo3 vt3) 42)) := Lib.hid (((Below.refl _ _).alloc (Nat.le_refl _) _).trans (putB_below _ (Nat.le_refl _) _ _))); refine wpList_putB rfl 42 _ _ rfl w4.heap.size (stC x1 vo3 vt3) rfl rfl 42 zeroS (blk_new w4 zeroS 42) (rstate_size HT1.out.len) (by rw [stC_size HT1.out.len]; rfl) HT1.out.one ?_; (have HW := Lib.hid (HW.out.next HBT.out)); (have HT1 := Lib.hid (HT1.out.below HBT.out)); (have KT1 := Lib.hid (putB_at (blk_new w4 zeroS 42) (stC x1 vo3 vt3) 42)); clear HBT)
                | (go_at_call 18; ((with_reducible refine (HSP2.out _ HW.out.below HW.out.a2).mono ?_); rintro e1 w6 ⟨vo4, vt4, rfl, hst2, hb⟩; have HT2 := Lib.hid hst2; have HW := Lib.hid (HW.out.next hb); have hyb := blk_lt HW.out.kt; have HT1 := Lib.hid (HT1.out.below hb); have KT1 := Lib.hid (blk_below KT1.out hb); clear hb hst2))
                | ((have HBT : Hid (Below w6.heap.size w6 (putB (w6.alloc (.cells zeroS 42)) w6.heap.size (stC (withP x1 yp) vo4 vt4) 42)) := Lib.hid (((Below.refl _ _).alloc (Nat.le_refl _) _).trans (putB_below _ (Nat.le_refl _) _ _))); refine wpList_putB rfl 42 _ _ rfl w6.heap.size (stC (withP x1 yp) vo4 vt4) rfl rfl 42 zeroS (blk_new w6 zeroS 42) (rstate_size HT2.out.len) (by rw [stC_size HT2.out.len]; rfl) HT2.out.one ?_; (have HW := Lib.hid (HW.out.next HBT.out)); (have HT2 := Lib.hid (HT2.out.below HBT.out)); (have KT2 := Lib.hid (putB_at (blk_new w6 zeroS 42) (stC (withP x1 yp) vo4 vt4) 42)); (have HT1 := Lib.hid (HT1.out.below HBT.out)); (have KT1 := Lib.hid (blk_below KT1.out HBT.out)); (have x22 := blk_cell KT1.out _ _ (stC_rest (vo := vo3) (vt := vt3) HT1.out.len).2.2.1); (have x21 := blk_cell KT1.out _ _ (stC_rest (vo := vo3) (vt := vt3) HT1.out.len).2.1); (have y22 := blk_cell KT2.out _ _ (stC_rest (vo := vo4) (vt := vt4) HT2.out.len).2.2.1); (have y21 := blk_cell KT2.out _ _ (stC_rest (vo := vo4) (vt := vt4) HT2.out.len).2.1); (have y22 : _ = some (Value.int .i64 (x1.pc : Int)) := y22); clear HBT)
                | (refine wpList_load_wantV (by rfl) 36 _ rfl w4.heap.size 0 rfl (i64s x1.x) _ (range_x KT1.out HT1.out.len).1 Tryd.underlying36 rfl HIX.out ?_)
                | (refine wpList_load_wantV (by rfl) 36 _ rfl w6.heap.size 0 rfl (i64s x1.x) _ (range_x KT2.out HT2.out.len).1 Tryd.underlying36 rfl HIX.out ?_)
                | (refine wpList_load_wantV (by rfl) 38 _ rfl w4.heap.size 16 rfl (i64s x1.g) _ (range_x KT1.out HT1.out.len).2.2 Tryd.underlying38 rfl HIG.out ?_)
                | (refine wpList_load_wantV (by rfl) 38 _ rfl w6.heap.size 16 rfl (i64s x1.g) _ (range_x KT2.out HT2.out.len).2.2 Tryd.underlying38 rfl HIG.out ?_)
                | (go_at_call 19; refine (HNU.out _ vt3 vt4 x1.out HT1.out.out.1 HT2.out.out.1).mono ?_; rintro e w7 ⟨rfl, hb⟩; have HW := Lib.hid (HW.out.next hb); have HT1 := Lib.hid (HT1.out.below hb); have KT1 := Lib.hid (blk_below KT1.out hb); have HT2 := Lib.hid (HT2.out.below hb); have KT2 := Lib.hid (blk_below KT2.out hb); clear hb x21 x22 y21 y22))
              go_ret
              exact ⟨rfl, HW.out.below⟩
          · have HRN := Lib.hid hrn
            have HEN := Lib.hid (And.intro hy8 hlv)
            clear hrn hlv
            go_wp2_with (first
              | (refine wpList_loadB rfl 25 _ rfl w.heap.size (progC (.slice x p.types.length kx) p (.slice x' p.code.length kx')) rfl 25 HW.out.prog _ Tryd.underlying25 rfl prog_info ?_)
              | (refine wpList_loadB rfl 42 _ rfl bs (stC s vo vt) rfl 42 HW.out.ks _ Tryd.underlying42 rfl (rstate_size HW.out.a1.len) ?_)
              | (refine wpList_loadB rfl 42 _ rfl bt (stC (withP s tz) vo2 vt2) rfl 42 HW.out.kt _ Tryd.underlying42 rfl (rstate_size HW.out.a2.len) ?_)
              | (go_at_call 18; ((with_reducible refine (HSP1.out _ HW.out.below HW.out.a1).mono ?_); rintro e1 w4 ⟨vo3, vt3, rfl, hst2, hb⟩; have HT1 := Lib.hid hst2; have HW := Lib.hid (HW.out.next hb); clear hb hst2))
              | ((have HBT : Hid (Below w4.heap.size w4 (putB (w4.alloc (.cells zeroS 42)) w4.heap.size (stC x1 vo3 vt3) 42)) := Lib.hid (((Below.refl _ _).alloc (Nat.le_refl _) _).trans (putB_below _ (Nat.le_refl _) _ _))); refine wpList_putB rfl 42 _ _ rfl w4.heap.size (stC x1 vo3 vt3) rfl rfl 42 zeroS (blk_new w4 zeroS 42) (rstate_size HT1.out.len) (by rw [stC_size HT1.out.len]; rfl) HT1.out.one ?_; (have HW := Lib.hid (HW.out.next HBT.out)); (have HT1 := Lib.hid (HT1.out.below HBT.out)); (have KT1 := Lib.hid (putB_at (blk_new w4 zeroS 42) (stC x1 vo3 vt3) 42)); clear HBT)
              | (go_at_call 18; ((with_reducible refine (HSP2.out _ HW.out.below HW.out.a2).mono ?_); rintro e1 w6 ⟨vo4, vt4, rfl, hst2, hb⟩; have HT2 := Lib.hid hst2; have HW := Lib.hid (HW.out.next hb); have hyb := blk_lt HW.out.kt; have HT1 := Lib.hid (HT1.out.below hb); have KT1 := Lib.hid (blk_below KT1.out hb); clear hb hst2))
              | ((have HBT : Hid (Below w6.heap.size w6 (putB (w6.alloc (.cells zeroS 42)) w6.heap.size (stC (withP x1 yp) vo4 vt4) 42)) := Lib.hid (((Below.refl _ _).alloc (Nat.le_refl _) _).trans (putB_below _ (Nat.le_refl _) _ _))); refine wpList_putB rfl 42 _ _ rfl w6.heap.size (stC (withP x1 yp) vo4 vt4) rfl rfl 42 zeroS (blk_new w6 zeroS 42) (rstate_size HT2.out.len) (by rw [stC_size HT2.out.len]; rfl) HT2.out.one ?_; (have HW := Lib.hid (HW.out.next HBT.out)); (have HT2 := Lib.hid (HT2.out.below HBT.out)); (have KT2 := Lib.hid (putB_at (blk_new w6 zeroS 42) (stC (withP x1 yp) vo4 vt4) 42)); (have HT1 := Lib.hid (HT1.out.below HBT.out)); (have KT1 := Lib.hid (blk_below KT1.out HBT.out)); (have x22 := blk_cell KT1.out _ _ (stC_rest (vo := vo3) (vt := vt3) HT1.out.len).2.2.1); (have x21 := blk_cell KT1.out _ _ (stC_rest (vo := vo3) (vt := vt3) HT1.out.len).2.1); (have y22 := blk_cell KT2.out _ _ (stC_rest (vo := vo4) (vt := vt4) HT2.out.len).2.2.1); (have y21 := blk_cell KT2.out _ _ (stC_rest (vo := vo4) (vt := vt4) HT2.out.len).2.1); (have y22 : _ = some (Value.int .i64 (x1.pc : Int)) := y22); clear HBT)
              | (refine wpList_load_wantV (by rfl) 36 _ rfl w4.heap.size 0 rfl (i64s x1.x) _ (range_x KT1.out HT1.out.len).1 Tryd.underlying36 rfl HIX.out ?_)
              | (refine wpList_load_wantV (by rfl) 36 _ rfl w6.heap.size 0 rfl (i64s x1.x) _ (range_x KT2.out HT2.out.len).1 Tryd.underlying36 rfl HIX.out ?_)
              | (refine wpList_load_wantV (by rfl) 38 _ rfl w4.heap.size 16 rfl (i64s x1.g) _ (range_x KT1.out HT1.out.len).2.2 Tryd.underlying38 rfl HIG.out ?_)
              | (refine wpList_load_wantV (by rfl) 38 _ rfl w6.heap.size 16 rfl (i64s x1.g) _ (range_x KT2.out HT2.out.len).2.2 Tryd.underlying38 rfl HIG.out ?_)
              | (go_at_call 19; refine (HNU.out _ vt3 vt4 x1.out HT1.out.out.1 HT2.out.out.1).mono ?_; rintro e w7 ⟨rfl, hb⟩; have HW := Lib.hid (HW.out.next hb); have HT1 := Lib.hid (HT1.out.below hb); have KT1 := Lib.hid (blk_below KT1.out hb); have HT2 := Lib.hid (HT2.out.below hb); have KT2 := Lib.hid (blk_below KT2.out hb); clear hb x21 x22 y21 y22)
              | (refine wpList_loadB rfl 42 _ rfl w4.heap.size (stC x1 vo3 vt3) rfl 42 KT1.out _ Tryd.underlying42 rfl (rstate_size HT1.out.len) ?_)
              | (refine wpList_loadB rfl 42 _ rfl w6.heap.size (stC (withP x1 yp) vo4 vt4) rfl 42 KT2.out _ Tryd.underlying42 rfl (rstate_size HT2.out.len) ?_)
              | (refine wpList_putB rfl 42 _ _ rfl bs (stC x1 vo3 vt3) rfl rfl 42 _ HW.out.ks (rstate_size HT1.out.len) (by rw [stC_size HW.out.a1.len, stC_size HT1.out.len]) HT1.out.one ?_; (have KT2 := Lib.hid (blk_other KT2.out (b := bs) (by have := HW.out.h2; omega) (stC x1 vo3 vt3) 42)); (have HT2 := Lib.hid (HT2.out.putT (xs' := stC x1 vo3 vt3) (t' := 42) HW.out.ks (by decide))); (have HW := Lib.hid (HW.out.putS HT1.out)))
              | (refine wpList_putB rfl 42 _ _ rfl bt (stC (withP x1 yp) vo4 vt4) rfl rfl 42 _ HW.out.kt (rstate_size HT2.out.len) (by rw [stC_size HW.out.a2.len, stC_size HT2.out.len]) HT2.out.one ?_; (have HW := Lib.hid (HW.out.putT HT2.out))))
            go_roundw
            case rel => exact ⟨n + 1, x1, yp, ts', vo3, vt3, vo4, vt4, by omega, by go_num, HW, HRN, HEN⟩
            case measure => simp [intOf]; omega
    · have hnn : ¬ ((n : Int) < (a : Int)) := by omega
      go_wp2
      go_ret
      exact ⟨rfl, HW.out.below⟩
theorem lonly_walk (v : Value) (p : PProg) (a : Int) (w : World) (h : ProgAt w v p) (hs : OkP p) (ha0 : 0 ≤ a) (ha : a ≤ 255) (ht' : HasT w) : Calls Tryd.prog 5 #[v, .int .u8 a] w fun e w' => e = .returned (.bool true) ∧ Below w.heap.size w w' := by
  obtain ⟨vt, vc, rfl, ht, hc⟩ := id h
  have hwb : Below w.heap.size w (w.alloc (.cells (progC vt p vc) 25)) := (Below.refl _ _).alloc (Nat.le_refl _) _
  have HK := keep_new h
  obtain ⟨x, c, rfl, -, -, -⟩ := id ht.elems
  obtain ⟨x', c', rfl, q1, q2, -⟩ := id hc
  unfold maxLen at q2
  obtain ⟨ka, rfl⟩ : ∃ ka : Nat, a = ka := ⟨a.toNat, by omega⟩
  exact lonly_at w _ p ka x x' c c' rfl (Lib.hid HK) (Lib.hid hwb) (Lib.hid fun w1 => valive_n w1) (Lib.hid fun w1 h1 hb1 => sound_n _ p w1 _ h1 hs (ht'.below hb1) rfl) (by omega) q1 (Lib.hid fun hsd w1 h1 => lin_n _ p w1 h1 hs (sound_parts hsd).2.2.2.1 (by have := (sound_parts hsd).2.1; omega))
    (by omega) (Lib.hid hs) (Lib.hid fun w1 hb1 => h.below hb1) (Lib.hid fun hsd w1 s vo vt hb1 hst hz hu => rstepU_n _ p w1 s vo vt (h.below hb1) hs (ht'.below hb1) hst hz (fun _ => hu)) (Lib.hid fun w1 va vb l h1 h2 => nums_n va vb l l true w1 h1 h2 (by simp))
end Go.Proofs.YtijgpfimdlnkiaaDoor
