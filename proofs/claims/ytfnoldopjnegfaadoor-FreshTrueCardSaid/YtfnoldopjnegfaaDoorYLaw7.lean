/-
  FreshTrue: the walk.
-/
import Derived.Test.YtfnoldopjnegfaaDoorYRun
import Derived.Deep.LoopGhost
import Derived.Deep.RegionHeld3
import Derived.Deep.CutRange
import Derived.Deep.CutBlock
import Derived.Deep.QuietTactic
namespace Go.Proofs.YtfnoldopjnegfaaDoor
set_option linter.unusedSimpArgs false
set_option linter.unusedVariables false
open Go.RowKit

set_option maxRecDepth 100000 in
set_option maxHeartbeats 8000000 in
theorem ftrue_at (w W0 : World) (p : PProg) (a : Nat) (x x' : Option Addr) (kx kx' : Nat)
    (hW0 : W0 = w.alloc (.cells (progC (.slice x p.types.length kx) p (.slice x' p.code.length kx')) 25)) (KP : Hid (Keep W0 w.heap.size (.slice x p.types.length kx) (.slice x' p.code.length kx') p)) (HB : Hid (Below w.heap.size w W0))
    (HAL : Hid (∀ w1, Calls Tryd.prog 10 #[] w1 (AggPost w1 (.bool true))))
    (HSO : Hid (∀ w1, ProgAt w1 (.agg (progC (.slice x p.types.length kx) p (.slice x' p.code.length kx'))) p → Below w.heap.size w w1 → Calls Tryd.prog 11 #[.agg (progC (.slice x p.types.length kx) p (.slice x' p.code.length kx'))] w1 (AggPost w1 (.bool (soundB p)))))
    (g2 : kx' ≤ 9223372036854775807) (g1 : p.code.length ≤ kx')
    (HLI : Hid (soundB p = true → ∀ w1, ProgAt w1 (.agg (progC (.slice x p.types.length kx) p (.slice x' p.code.length kx'))) p → Calls Tryd.prog 12 #[.agg #[.slice x p.types.length kx, str p.locals, str p.globs, .slice x' p.code.length kx']] w1 (U8sPost w1 (freshL p)))) (ha : a ≤ 255) (HOK : Hid (OkP p))
    (HSA : Hid (∀ (w1 : World) (k : Int), ProgAt w1 (.agg (progC (.slice x p.types.length kx) p (.slice x' p.code.length kx'))) p → Calls Tryd.prog 16 #[.agg #[.slice x p.types.length kx, str p.locals, str p.globs, .slice x' p.code.length kx'], .int .i64 k] w1 (AggPost w1 (.bool (safeV p k)))))
    (HPA : Hid (∀ w1, Below w.heap.size w w1 → ProgAt w1 (.agg (progC (.slice x p.types.length kx) p (.slice x' p.code.length kx'))) p))
    (HST : Hid (soundB p = true → ∀ w1 s vo vt, Below w.heap.size w w1 → StN w1 vo vt s → SizeOk s → UseOk p s → Calls Tryd.prog 17 #[.agg (progC (.slice x p.types.length kx) p (.slice x' p.code.length kx')), .agg (stC s vo vt)] w1 (StepPost w1 (stepL p s)))) :
    Calls Tryd.prog 4 #[.agg (progC (.slice x p.types.length kx) p (.slice x' p.code.length kx')), .int .u8 a] w (AggPost w (.bool true)) := by
  go_enter Tryd.func4, Tryd.ntmps4
  go_upto_region 1 with (fail)
  rw [← hW0]
  clear hW0
  rcases hsd : soundB p with _ | _
  · rw [hsd] at HSO
    go_wp2_with (first
      | (refine wpList_loadB rfl 25 _ rfl w.heap.size (progC (.slice x p.types.length kx) p (.slice x' p.code.length kx')) rfl 25 KP.out.blk _ Tryd.underlying25 rfl prog_info ?_)
      | (go_at_call 10; ((with_reducible refine (HAL.out _).mono ?_); rintro e w1 ⟨rfl, hb⟩; have KP := Lib.hid (KP.out.below hb); have HB := Lib.hid (HB.out.trans (hb.mono HB.out.size)); clear hb))
      | (go_at_call 11; ((with_reducible refine (HSO.out _ KP.out.at' HB.out).mono ?_); rintro e w2 ⟨rfl, hb⟩; have KP := Lib.hid (KP.out.below hb); have HB := Lib.hid (HB.out.trans (hb.mono HB.out.size)); clear hb)))
    go_ret
    exact ⟨rfl, HB.out⟩
  have HLI : Hid (∀ w1, ProgAt w1 (.agg (progC (.slice x p.types.length kx) p (.slice x' p.code.length kx'))) p → Calls Tryd.prog 12 #[.agg (progC (.slice x p.types.length kx) p (.slice x' p.code.length kx'))] w1 (U8sPost w1 (freshL p))) := Lib.hid (HLI.out hsd)
  have HST := Lib.hid (HST.out hsd)
  obtain ⟨hfw, hl60, hck, hin0, hl1⟩ := sound_parts hsd
  have hl8 := (head_parts (check_ok hck).1).2.2.1
  have HIN := Lib.hid hin0
  have HCK := Lib.hid hck
  rw [hsd] at HSO
  clear hin0 hck hsd
  go_upto_region 4 with (first
    | (refine wpList_loadB rfl 25 _ rfl w.heap.size (progC (.slice x p.types.length kx) p (.slice x' p.code.length kx')) rfl 25 KP.out.blk _ Tryd.underlying25 rfl prog_info ?_)
    | (refine wpList_loadBw (by rfl) 25 _ rfl w.heap.size (progC (.slice x p.types.length kx) p (.slice x' p.code.length kx')) rfl 25 KP.out.blk _ Tryd.underlying25 rfl prog_info ?_)
    | (go_at_call 10; ((with_reducible refine (HAL.out _).mono ?_); rintro e w1 ⟨rfl, hb⟩; have KP := Lib.hid (KP.out.below hb); have HB := Lib.hid (HB.out.trans (hb.mono HB.out.size)); clear hb))
    | (go_at_call 11; ((with_reducible refine (HSO.out _ KP.out.at' HB.out).mono ?_); rintro e w2 ⟨rfl, hb⟩; have KP := Lib.hid (KP.out.below hb); have HB := Lib.hid (HB.out.trans (hb.mono HB.out.size)); clear hb))
    | (go_at_call 12; ((with_reducible refine (HLI.out _ KP.out.at').mono ?_); rintro e w3 ⟨v3, rfl, hr, hb⟩; obtain ⟨b4, o4, cp4, hv3, hc4, hd4, hbx, hcell⟩ := u8A_cells hr fresh_n1; subst hv3; have KP := Lib.hid (KP.out.below hb); have HB := Lib.hid (HB.out.trans (hb.mono HB.out.size)); clear hb; have HL := Lib.hid (U8At.mk hbx hcell); clear hr hbx hcell)))
  have p3 := KP.out.cells.2.2.2
  have e1 : (((p.code.length + 1 : Nat) : Int) != (p.code.length : Int) + 1) = false := by simp
  clear HSO HAL HLI
  go_upto_region 7 with (fail)
  have hw0 := TrW.start HB.out KP.out.blk HL.out
  generalize hwb : w3.alloc (.cells zeroS 38) = wb at hw0 ⊢
  clear hwb
  generalize hB : w3.heap.size = b at hw0 ⊢
  clear hB
  have HW0 := Lib.hid hw0
  have HR0 := Lib.hid (run_0 p)
  have HF0 := Lib.hid (fr_0 (q := p))
  clear hw0 KP HB HL p3
  go_wp2_with (fail)
  go_loopw [7, 31] (fun v7 v31 wr => ∃ (n old : Nat) (s : PSt) (ts : List Nat) (vo vt : Value), n ≤ a ∧ v7 = .int .i64 old ∧ v31 = .int .i64 n ∧ Hid (TrW w wr b b4 o4 p.code.length (freshL p) (progC (.slice x p.types.length kx) p (.slice x' p.code.length kx')) s vo vt) ∧ Hid (RunOk p s ts n) ∧ Hid (FrI p s old)) (fun _ v31 _ => a - (intOf v31).toNat)
  case atStart => exact ⟨0, 0, st0, [], _, _, Nat.zero_le _, rfl, rfl, HW0, HR0, HF0⟩
  case round =>
    clear HW0 HR0 HF0
    obtain ⟨n, old, s, ts, vo, vt, hn, rfl, rfl, HW, HR, HF⟩ := hrel
    by_cases hna : n < a
    · have hni : (n : Int) < (a : Int) := by omega
      have p1 : wr.cell? ⟨w.heap.size, 1, none⟩ = some (str p.locals) := blk_cell HW.out.prog 1 _ rfl
      go_wp2_with (fail)
      clear p1
      obtain ⟨wo, hwo⟩ : ∃ wo : World, wo = wr := ⟨_, rfl⟩
      rw [← hwo] at HW ⊢
      clear hwo
      go_loopw [36] (fun v36 wx => ∃ k : Nat, k ≤ p.locals.length ∧ v36 = .int .i64 k ∧ wx = wo) (fun v36 _ => p.locals.length - (intOf v36).toNat)
      case atStart => exact ⟨0, Nat.zero_le _, rfl, rfl⟩
      case round =>
        obtain ⟨k, hk, rfl, hwx⟩ := hrel
        subst hwx
        have hpc := HR.out.pc
        have c22 : wr.cell? ⟨b, 22, none⟩ = some (.int .i64 (s.pc : Int)) := blk_cell HW.out.st _ _ (stC_rest (vo := vo) (vt := vt) HW.out.at'.len).2.2.1
        by_cases hkl : k < p.locals.length
        · have hki : (k : Int) < (p.locals.length : Int) := by omega
          have hk8 : (k : Int) < 8 := by omega
          have hk0 : (0 : Int) ≤ (k : Int) := by omega
          have hp0 : (0 : Int) ≤ (s.pc : Int) := by omega
          have hp1 : (s.pc : Int) < (p.code.length : Int) + 1 := by omega
          have q0 := HW.out.row.c s.pc hpc
          have hfr := HF.out.fr k hkl
          have cp := HW.out.p (show k < 8 by omega)
          have m1 : min k 8 = k := by omega
          generalize (freshL p).getD s.pc 0 = z at q0 hfr
          generalize s.p.getD k 0 = pv at cp hfr
          rcases hb : z.testBit k with _ | _
          · have e9 : (((z : Int) / 2 ^ k).tmod 2 == 1) = false := by rw [shr_tmod, hb]; rfl
            clear hb hfr
            go_wp2
            go_roundw
            case rel => exact ⟨k + 1, by omega, by go_num, trivial⟩
            case measure => simp [intOf]; omega
          · have e9 : (((z : Int) / 2 ^ k).tmod 2 == 1) = true := by rw [shr_tmod, hb]; rfl
            rcases hfr hb with hz | hz
            · have ez : (pv != 0) = false := by simp [hz]
              clear hb hfr
              subst hz
              go_wp2
              go_roundw
              case rel => exact ⟨k + 1, by omega, by go_num, trivial⟩
              case measure => simp [intOf]; omega
            · have ez : (pv != 0) = true := by simp; omega
              have ez2 : ¬ (pv ≤ (old : Int)) := by omega
              clear hb hfr
              go_wp2
              go_roundw
              case rel => exact ⟨k + 1, by omega, by go_num, trivial⟩
              case measure => simp [intOf]; omega
        · have hkn : ¬ ((k : Int) < (p.locals.length : Int)) := by omega
          have hsv : safeV p (s.pc : Int) = safeL p s.pc := by unfold safeV; simp
          have HS1 : Hid (∀ w1, ProgAt w1 (.agg (progC (.slice x p.types.length kx) p (.slice x' p.code.length kx'))) p → Calls Tryd.prog 16 #[.agg #[.slice x p.types.length kx, str p.locals, str p.globs, .slice x' p.code.length kx'], .int .i64 s.pc] w1 (AggPost w1 (.bool (safeL p s.pc)))) := Lib.hid fun w1 h1 => by rw [← hsv]; exact HSA.out w1 s.pc h1
          obtain ⟨ao, co, hvo, hc1, hc2⟩ := HW.out.at'.objs.form
          have HVO := Lib.hid hvo
          have hsz := size_run HCK.out HR.out (by omega)
          have hus := UseOk.of_run HCK.out HOK.out.ins HR.out (by omega)
          have HSP : Hid (∀ w1, Below w.heap.size w w1 → StN w1 vo vt s → Calls Tryd.prog 17 #[.agg (progC (.slice x p.types.length kx) p (.slice x' p.code.length kx')), .agg (stC s vo vt)] w1 (StepPost w1 (stepL p s))) := Lib.hid fun w1 hb1 hs1 => HST.out w1 s vo vt hb1 hs1 hsz hus
          have hlp := HR.out.inv.lp
          have hcase : (∃ (d : Bool) (z : Nat), stepL p s = (s, d, z) ∧ (d = true ∨ z ≠ 0)) ∨ ∃ t ts', stepL p s = (t, false, 0) ∧ RunOk p t ts' (n + 1) ∧ FrI p t (if safeL p s.pc = true then s.objs.length else old) := by
            rcases step_one HCK.out HR.out with ⟨_, he⟩ | ⟨i, hi, _, ⟨hd, he⟩ | ⟨t, hd, he⟩⟩
            · exact .inl ⟨true, 0, he, .inl rfl⟩
            · exact .inl ⟨false, 9, he, .inr (by decide)⟩
            · obtain ⟨ts', hrn, _⟩ := run_next HCK.out HOK.out.ins (by omega) HR.out hi hd
              exact .inr ⟨t, ts', he, hrn, fr_next HCK.out HIN.out HOK.out.ins HF.out hlp hi hd⟩
          have HCA := Lib.hid hcase
          have hol := hsz.objs
          clear hcase hsv hsz hus hvo hlp hkl hk HST HSA HF
          have hcut0 : ∃ (d : Bool), safeL p s.pc = d := ⟨_, rfl⟩
          go_upto_if 67 with (first
            | (refine wpList_loadB rfl 25 _ rfl w.heap.size (progC (.slice x p.types.length kx) p (.slice x' p.code.length kx')) rfl 25 HW.out.prog _ Tryd.underlying25 rfl prog_info ?_)
            | (go_at_call 16; ((with_reducible refine (HS1.out _ (HPA.out _ HW.out.below)).mono ?_); rintro e w3x ⟨rfl, hb⟩; have HW := Lib.hid (HW.out.next hb); clear hb c22)))
          have c20 : w3x.cell? ⟨b, 20, none⟩ = some vo := blk_cell HW.out.st _ _ (stC_rest (vo := vo) (vt := vt) HW.out.at'.len).1
          rw [HVO.out] at c20
          go_cut [7] from 67 to 70 (fun v7 wx => v7 = .int .i64 ((if safeL p s.pc = true then s.objs.length else old : Nat) : Int) ∧ wx = w3x)
          case first =>
            rcases hsf : safeL p s.pc with _ | _
            · go_wp2
              go_meet
              exact ⟨by rw [hsf]; rfl, rfl⟩
            · go_wp2
              go_meet
              exact ⟨by rw [hsf]; rfl, rfl⟩
          case rest =>
            obtain ⟨rfl, hwx⟩ := hcut
            subst hwx
            clear c20 HS1 hcut0
            generalize (if safeL p s.pc = true then s.objs.length else old) = old2 at HCA ⊢
            rcases HCA.out with ⟨d, z, hs', hdz⟩ | ⟨t, ts', hs', hrn, hfn⟩
            · rw [hs'] at HSP
              clear hs' HCA
              rcases d with _ | _
              · have ez : ((z : Int) != 0) = true := by have := hdz.resolve_left (by decide); simp; omega
                clear hdz
                go_wp2_with (first
                  | (refine wpList_loadB rfl 25 _ rfl w.heap.size (progC (.slice x p.types.length kx) p (.slice x' p.code.length kx')) rfl 25 HW.out.prog _ Tryd.underlying25 rfl prog_info ?_)
                  | (refine wpList_loadB rfl 38 _ rfl b (stC s vo vt) rfl 38 HW.out.st _ Tryd.underlying38 rfl (rstate_size HW.out.at'.len) ?_)
                  | (go_at_call 17; refine (HSP.out _ HW.out.below HW.out.at').mono ?_; rintro e1 w4 ⟨vo2, vt2, rfl, hst2, hb⟩; have HT := Lib.hid hst2; have HW := Lib.hid (HW.out.next hb); clear hb hst2)
                  | ((have HBT : Hid (Below w4.heap.size w4 (putB (w4.alloc (.cells zeroS 38)) w4.heap.size (stC s vo2 vt2) 38)) := Lib.hid (((Below.refl _ _).alloc (Nat.le_refl _) _).trans (putB_below _ (Nat.le_refl _) _ _))); refine wpList_putB rfl 38 _ _ rfl w4.heap.size (stC s vo2 vt2) rfl rfl 38 zeroS (blk_new w4 zeroS 38) (rstate_size HT.out.len) (by rw [stC_size HT.out.len]; rfl) HT.out.one ?_; (have HW := Lib.hid (HW.out.next HBT.out)); (have HT := Lib.hid (HT.out.below HBT.out)); (have KT := Lib.hid (putB_at (blk_new w4 zeroS 38) (stC s vo2 vt2) 38)); clear HBT))
                go_ret
                exact ⟨rfl, HW.out.below⟩
              · clear hdz
                go_wp2_with (first
                  | (refine wpList_loadB rfl 25 _ rfl w.heap.size (progC (.slice x p.types.length kx) p (.slice x' p.code.length kx')) rfl 25 HW.out.prog _ Tryd.underlying25 rfl prog_info ?_)
                  | (refine wpList_loadB rfl 38 _ rfl b (stC s vo vt) rfl 38 HW.out.st _ Tryd.underlying38 rfl (rstate_size HW.out.at'.len) ?_)
                  | (go_at_call 17; refine (HSP.out _ HW.out.below HW.out.at').mono ?_; rintro e1 w4 ⟨vo2, vt2, rfl, hst2, hb⟩; have HT := Lib.hid hst2; have HW := Lib.hid (HW.out.next hb); clear hb hst2)
                  | ((have HBT : Hid (Below w4.heap.size w4 (putB (w4.alloc (.cells zeroS 38)) w4.heap.size (stC s vo2 vt2) 38)) := Lib.hid (((Below.refl _ _).alloc (Nat.le_refl _) _).trans (putB_below _ (Nat.le_refl _) _ _))); refine wpList_putB rfl 38 _ _ rfl w4.heap.size (stC s vo2 vt2) rfl rfl 38 zeroS (blk_new w4 zeroS 38) (rstate_size HT.out.len) (by rw [stC_size HT.out.len]; rfl) HT.out.one ?_; (have HW := Lib.hid (HW.out.next HBT.out)); (have HT := Lib.hid (HT.out.below HBT.out)); (have KT := Lib.hid (putB_at (blk_new w4 zeroS 38) (stC s vo2 vt2) 38)); clear HBT))
                go_ret
                exact ⟨rfl, HW.out.below⟩
            · rw [hs'] at HSP
              have HRN := Lib.hid hrn
              have HFN := Lib.hid hfn
              clear hs' hrn hfn HCA
              go_wp2_with (first
                | (refine wpList_loadB rfl 25 _ rfl w.heap.size (progC (.slice x p.types.length kx) p (.slice x' p.code.length kx')) rfl 25 HW.out.prog _ Tryd.underlying25 rfl prog_info ?_)
                | (refine wpList_loadB rfl 38 _ rfl b (stC s vo vt) rfl 38 HW.out.st _ Tryd.underlying38 rfl (rstate_size HW.out.at'.len) ?_)
                | (go_at_call 17; refine (HSP.out _ HW.out.below HW.out.at').mono ?_; rintro e1 w4 ⟨vo2, vt2, rfl, hst2, hb⟩; have HT := Lib.hid hst2; have HW := Lib.hid (HW.out.next hb); clear hb hst2)
                | ((have HBT : Hid (Below w4.heap.size w4 (putB (w4.alloc (.cells zeroS 38)) w4.heap.size (stC t vo2 vt2) 38)) := Lib.hid (((Below.refl _ _).alloc (Nat.le_refl _) _).trans (putB_below _ (Nat.le_refl _) _ _))); refine wpList_putB rfl 38 _ _ rfl w4.heap.size (stC t vo2 vt2) rfl rfl 38 zeroS (blk_new w4 zeroS 38) (rstate_size HT.out.len) (by rw [stC_size HT.out.len]; rfl) HT.out.one ?_; (have HW := Lib.hid (HW.out.next HBT.out)); (have HT := Lib.hid (HT.out.below HBT.out)); (have KT := Lib.hid (putB_at (blk_new w4 zeroS 38) (stC t vo2 vt2) 38)); clear HBT)
                | (refine wpList_loadB rfl 38 _ rfl w4.heap.size (stC t vo2 vt2) rfl 38 KT.out _ Tryd.underlying38 rfl (rstate_size HT.out.len) ?_)
                | (refine wpList_putB rfl 38 _ _ rfl b (stC t vo2 vt2) rfl rfl 38 _ HW.out.st (rstate_size HT.out.len) (by rw [stC_size HW.out.at'.len, stC_size HT.out.len]) HT.out.one ?_; (have HW := Lib.hid (HW.out.put HT.out))))
              go_roundw
              case rel => exact ⟨n + 1, old2, t, ts', vo2, vt2, by omega, rfl, by go_num, HW, HRN, HFN⟩
              case measure => simp [intOf]; omega
    · have hnn : ¬ ((n : Int) < (a : Int)) := by omega
      go_wp2
      go_ret
      exact ⟨rfl, HW.out.below⟩
theorem ftrue_walk (v : Value) (p : PProg) (a : Int) (w : World) (h : ProgAt w v p) (hs : OkP p) (ha0 : 0 ≤ a) (ha : a ≤ 255) (ht' : HasT w) : Calls Tryd.prog 4 #[v, .int .u8 a] w fun e w' => e = .returned (.bool true) ∧ Below w.heap.size w w' := by
  obtain ⟨vt, vc, rfl, ht, hc⟩ := id h
  have hwb : Below w.heap.size w (w.alloc (.cells (progC vt p vc) 25)) := (Below.refl _ _).alloc (Nat.le_refl _) _
  have HK := keep_new h
  obtain ⟨x, c, rfl, -, -, -⟩ := id ht.elems
  obtain ⟨x', c', rfl, q1, q2, -⟩ := id hc
  unfold maxLen at q2
  obtain ⟨ka, rfl⟩ : ∃ ka : Nat, a = ka := ⟨a.toNat, by omega⟩
  exact ftrue_at w _ p ka x x' c c' rfl (Lib.hid HK) (Lib.hid hwb) (Lib.hid fun w1 => yalive_n w1) (Lib.hid fun w1 h1 hb1 => sound_n _ p w1 _ h1 hs (ht'.below hb1) rfl) (by omega) q1 (Lib.hid fun hsd w1 h1 => yin_n _ p w1 h1 hs (sound_parts hsd).2.2.2.1 (by have := (sound_parts hsd).2.1; omega)) (by omega) (Lib.hid hs) (Lib.hid fun w1 k h1 => rsafe_n _ p w1 k _ h1 rfl) (Lib.hid fun w1 hb1 => h.below hb1) (Lib.hid fun hsd w1 s vo vt hb1 hst hz hu => rstepU_n _ p w1 s vo vt (h.below hb1) hs (ht'.below hb1) hst hz (fun _ => hu))
end Go.Proofs.YtfnoldopjnegfaaDoor
