/-
  PlanOnce: the walk.
-/
import Derived.Test.YtapjgobkpehgfaaGreatDoorUBV
import Derived.Deep.LoopGhost
import Derived.Deep.RegionHeld3
import Derived.Deep.CutRange
import Derived.Deep.CutBlock
import Derived.Deep.QuietTactic
namespace Go.Proofs.YtapjgobkpehgfaaGreatDoor
set_option linter.unusedSimpArgs false
set_option linter.unusedVariables false
open Go.RowKit

set_option maxRecDepth 100000 in
set_option maxHeartbeats 16000000 in
theorem plonce_at (w W0 : World) (p : PProg) (a : Nat) (x x' : Option Addr) (kx kx' : Nat) (zc : Int)
    (hW0 : W0 = w.alloc (.cells (progC (.slice x p.types.length kx) p (.slice x' p.code.length kx')) 25)) (KP : Hid (Keep W0 w.heap.size (.slice x p.types.length kx) (.slice x' p.code.length kx') p)) (HB : Hid (Below w.heap.size w W0))
    (HAL : Hid (∀ w1, Below w.heap.size w w1 → Calls Tryz.prog 7 #[] w1 (AggPost w1 (.bool true))))
    (HSO : Hid (∀ w1, ProgAt w1 (.agg (progC (.slice x p.types.length kx) p (.slice x' p.code.length kx'))) p → Below w.heap.size w w1 → Calls Tryz.prog 8 #[(.agg (progC (.slice x p.types.length kx) p (.slice x' p.code.length kx')))] w1 (AggPost w1 (.bool (soundB p)))))
    (g2 : kx' ≤ 9223372036854775807) (g1 : p.code.length ≤ kx') (hok : Hid (∀ i ∈ p.code, OkI i))
    (HBE : Hid (soundB p = true → ∀ w1, ProgAt w1 (.agg (progC (.slice x p.types.length kx) p (.slice x' p.code.length kx'))) p → Below w.heap.size w w1 → Calls Tryz.prog 9 #[(.agg (progC (.slice x p.types.length kx) p (.slice x' p.code.length kx')))] w1 (BestPost w1 p)))
    (HCH : Hid (soundB p = true → ∀ w1, ProgAt w1 (.agg (progC (.slice x p.types.length kx) p (.slice x' p.code.length kx'))) p → Below w.heap.size w w1 → Calls Tryz.prog 13 #[(.agg (progC (.slice x p.types.length kx) p (.slice x' p.code.length kx')))] w1 (ChkPost w1 zc 0)))
    (HPA : Hid (∀ w1, Below w.heap.size w w1 → ProgAt w1 (.agg (progC (.slice x p.types.length kx) p (.slice x' p.code.length kx'))) p)) (HOK : Hid (OkP p)) (ha : a ≤ 255)
    (HST : Hid (soundB p = true → ∀ w1 s vo vt, Below w.heap.size w w1 → StN w1 vo vt s → SizeOk s → UseOk p s → Calls Tryz.prog 12 #[(.agg (progC (.slice x p.types.length kx) p (.slice x' p.code.length kx'))), .agg (stC s vo vt)] w1 (StepPost w1 (stepL p s)))) :
    Calls Tryz.prog 5 #[(.agg (progC (.slice x p.types.length kx) p (.slice x' p.code.length kx'))), .int .u8 a] w (AggPost w (.bool true)) := by
  go_enter Tryz.func5, Tryz.ntmps5
  go_upto_region 1 with (fail)
  rw [← hW0]
  clear hW0
  rcases hsd : soundB p with _ | _
  · rw [hsd] at HSO
    go_wp2_with (first
      | (refine wpList_loadB rfl 25 _ rfl w.heap.size (progC (.slice x p.types.length kx) p (.slice x' p.code.length kx')) rfl 25 KP.out.blk _ Tryz.underlying25 rfl prog_info ?_)
      | (go_at_call 7; ((with_reducible refine (HAL.out _ HB.out).mono ?_); rintro e w1 ⟨rfl, hb⟩; have KP := Lib.hid (KP.out.below hb); have HB := Lib.hid (HB.out.trans (hb.mono HB.out.size)); clear hb))
      | (go_at_call 8; ((with_reducible refine (HSO.out _ KP.out.at' HB.out).mono ?_); rintro e w2 ⟨rfl, hb⟩; have KP := Lib.hid (KP.out.below hb); have HB := Lib.hid (HB.out.trans (hb.mono HB.out.size)); clear hb)))
    go_ret
    exact ⟨rfl, HB.out⟩
  obtain ⟨hfw, hl60, hck, hin0, hl1⟩ := sound_parts hsd
  have HCK := Lib.hid hck
  have HIN := Lib.hid hin0
  have HBE := Lib.hid (HBE.out hsd)
  have HST := Lib.hid (HST.out hsd)
  have HCH := Lib.hid (HCH.out hsd)
  rw [hsd] at HSO
  clear hin0 hck hsd
  have e1 : (((p.code.length : Nat) : Int) != ((p.code.length : Nat) : Int)) = false := by simp
  go_upto_region 5 with (first
    | (refine wpList_loadB rfl 25 _ rfl w.heap.size (progC (.slice x p.types.length kx) p (.slice x' p.code.length kx')) rfl 25 KP.out.blk _ Tryz.underlying25 rfl prog_info ?_)
    | (go_at_call 7; ((with_reducible refine (HAL.out _ HB.out).mono ?_); rintro e w1 ⟨rfl, hb⟩; have KP := Lib.hid (KP.out.below hb); have HB := Lib.hid (HB.out.trans (hb.mono HB.out.size)); clear hb))
    | (go_at_call 8; ((with_reducible refine (HSO.out _ KP.out.at' HB.out).mono ?_); rintro e w2 ⟨rfl, hb⟩; have KP := Lib.hid (KP.out.below hb); have HB := Lib.hid (HB.out.trans (hb.mono HB.out.size)); clear hb))
    | (go_at_call 9; ((with_reducible refine (HBE.out _ KP.out.at' HB.out).mono ?_); rintro e wm ⟨xm, cm, rfl, hc1, hc2, hm, hb⟩; have KP := Lib.hid (KP.out.below hb); have HB := Lib.hid (HB.out.trans (hb.mono HB.out.size)); clear hb; have HM := Lib.hid hm; clear hm))
    | (go_at_call 13; ((with_reducible refine (HCH.out _ KP.out.at' HB.out).mono ?_); rintro e wc ⟨rfl, hb⟩; have HM := Lib.hid (HM.out.below hb); have KP := Lib.hid (KP.out.below hb); have HB := Lib.hid (HB.out.trans (hb.mono HB.out.size)); clear hb)))
  clear HSO HAL HBE HCH
  have p3 := KP.out.cells.2.2.2
  have HK : Hid (PK w wc xm cm x x' kx kx' p) := Lib.hid ⟨KP.out, HB.out, HM.out⟩
  have hmk := @run_makeMap_plain Tryz.prog
  go_upto_region 9 with (fail)
  have hw0 := PoW.start HB.out KP.out.blk
  generalize hwb : (wc.alloc (.cells zeroS 44)).alloc (.map #[] 0) = wb at hw0 ⊢
  clear hwb
  generalize hB : wc.heap.size + 1 = r at hw0 ⊢
  clear hB
  generalize hB : wc.heap.size = b at hw0 ⊢
  clear hB
  have HW0 := Lib.hid hw0
  have HR0 := Lib.hid (run_0 p)
  have HF0 := Lib.hid (on_0 (q := p))
  clear hw0 KP HB HM p3 e1 hmk
  go_wp2_with (fail)
  go_loopw [49] (fun v49 wr => ∃ (n : Nat) (s : PSt) (ts : List Nat) (vo vt : Value) (f : Nat → Bool), n ≤ a ∧ v49 = .int .i64 n ∧ Hid (PoW w wc wr b r (progC (.slice x p.types.length kx) p (.slice x' p.code.length kx')) s vo vt f) ∧ Hid (RunOk p s ts n) ∧ Hid (OnI p s f)) (fun v49 _ => a - (intOf v49).toNat)
  case atStart => exact ⟨0, st0, [], _, _, _, Nat.zero_le _, rfl, HW0, HR0, HF0⟩
  case round =>
    clear HW0 HR0 HF0
    obtain ⟨n, s, ts, vo, vt, f, hn, rfl, HW, HR, HF⟩ := hrel
    by_cases hna : n < a
    · have hni : (n : Int) < (a : Int) := by omega
      have hpc := HR.out.pc
      have c22 : wr.cell? ⟨b, 22, none⟩ = some (.int .i64 (s.pc : Int)) := blk_cell HW.out.pr.st _ _ (stC_rest (vo := vo) (vt := vt) HW.out.pr.at'.len).2.2.1
      have hsz := size_run HCK.out HR.out (by omega)
      have hus := UseOk.of_run HCK.out HOK.out.ins HR.out (by omega)
      have HSP : Hid (∀ w1, Below w.heap.size w w1 → StN w1 vo vt s → Calls Tryz.prog 12 #[(.agg (progC (.slice x p.types.length kx) p (.slice x' p.code.length kx'))), .agg (stC s vo vt)] w1 (StepPost w1 (stepL p s))) := Lib.hid fun w1 hb1 hs1 => HST.out w1 s vo vt hb1 hs1 hsz hus
      have hcase : (∃ (d : Bool) (z : Nat), stepL p s = (s, d, z) ∧ (d = true ∨ z ≠ 0)) ∨ ∃ t ts', stepL p s = (t, false, 0) ∧ RunOk p t ts' (n + 1) ∧ OnI p t f ∧ OnI p t (addB f s.pc) := by
        rcases step_one HCK.out HR.out with ⟨_, he⟩ | ⟨i, hi, _, ⟨hd, he⟩ | ⟨t, hd, he⟩⟩
        · exact .inl ⟨true, 0, he, .inl rfl⟩
        · exact .inl ⟨false, 9, he, .inr (by decide)⟩
        · obtain ⟨ts', hrn, _⟩ := run_next HCK.out HOK.out.ins (by omega) HR.out hi hd
          exact .inr ⟨t, ts', he, hrn, on_keep HIN.out HF.out hi hd, on_mark HIN.out HF.out hi hd⟩
      have hol := hsz.objs
      clear hsz hus HST
      by_cases hlt : s.pc < p.code.length
      case' pos =>
        have hlti : (s.pc : Int) < (p.code.length : Int) := by omega
        have hp0 : (0 : Int) ≤ (s.pc : Int) := by omega
        obtain ⟨i, hi⟩ : ∃ i, p.code[s.pc]? = some i := ⟨_, List.getElem?_eq_getElem hlt⟩
        obtain ⟨bf, of, rfl, f0, f1, f2⟩ := facts_cell (HK.out.next HW.out.pr.old).facts (best_get hi)
        have hst := on_stack HIN.out HF.out hi
        generalize (bestI p s.pc i).st = st at f0 hst
        rcases st with _ | _
        case' true =>
          obtain ⟨hfs, h5⟩ := hst rfl
          obtain ⟨bb, o, hxx, hbb, hrg⟩ := prog_ins (HPA.out _ HW.out.pr.below) hi
          obtain ⟨op, ia, ib, ic, iN⟩ := i
          simp only at h5
          subst h5
          have d0 : wr.cell? ⟨bb, o + s.pc * 5, none⟩ = some (.int .u8 5) := hrg 0 _ rfl
          have p3 : wr.cell? ⟨w.heap.size, 3, none⟩ = some (.slice (some ⟨bb, o, none⟩) p.code.length kx') := by rw [← hxx]; exact blk_cell HW.out.pr.prog 3 _ rfl
          have HG := set_get HW.out.f s.pc
          rw [hfs] at HG
          obtain ⟨es, ce, HU, hm⟩ := set_put HW.out.f s.pc
          have HW2 := Lib.hid (HW.out.mark (c := ce) hm)
          have HCA : Hid ((∃ (d : Bool) (z : Nat), stepL p s = (s, d, z) ∧ (d = true ∨ z ≠ 0)) ∨ ∃ t ts', stepL p s = (t, false, 0) ∧ RunOk p t ts' (n + 1) ∧ OnI p t (addB f s.pc)) := Lib.hid (by rcases hcase with h1 | ⟨t, ts', h1, h2, h3⟩; exact .inl h1; exact .inr ⟨t, ts', h1, h2, h3.2⟩)
          clear hxx hrg hm hcase HF hlt hst hi
          go_upto_region 15 with (fail)
          clear HG HU HW p3 d0 f0 f1 f2 c22
          generalize putO wr r (.map es ce) = wy at HW2 ⊢
          have HW := HW2
          clear HW2
        case' false =>
          have HCA : Hid ((∃ (d : Bool) (z : Nat), stepL p s = (s, d, z) ∧ (d = true ∨ z ≠ 0)) ∨ ∃ t ts', stepL p s = (t, false, 0) ∧ RunOk p t ts' (n + 1) ∧ OnI p t f) := Lib.hid (by rcases hcase with h1 | ⟨t, ts', h1, h2, h3⟩; exact .inl h1; exact .inr ⟨t, ts', h1, h2, h3.1⟩)
          clear hcase HF hlt hst hi
          go_upto_region 15 with (fail)
      case' neg =>
        have hlti : ¬ ((s.pc : Int) < (p.code.length : Int)) := by omega
        have HCA : Hid ((∃ (d : Bool) (z : Nat), stepL p s = (s, d, z) ∧ (d = true ∨ z ≠ 0)) ∨ ∃ t ts', stepL p s = (t, false, 0) ∧ RunOk p t ts' (n + 1) ∧ OnI p t f) := Lib.hid (by rcases hcase with h1 | ⟨t, ts', h1, h2, h3⟩; exact .inl h1; exact .inr ⟨t, ts', h1, h2, h3.1⟩)
        clear hcase HF hlt
        go_upto_region 15 with (fail)
      all_goals
        rcases HCA.out with ⟨d, z, hs', hdz⟩ | ⟨t, ts', hs', hrn, hfn⟩
        · rw [hs'] at HSP
          clear hs' HCA
          rcases d with _ | _
          · have ez : ((z : Int) != 0) = true := by have := hdz.resolve_left (by decide); simp; omega
            clear hdz
            go_wp2_with (first
              | (refine wpList_loadB rfl 25 _ rfl w.heap.size (progC (.slice x p.types.length kx) p (.slice x' p.code.length kx')) rfl 25 HW.out.pr.prog _ Tryz.underlying25 rfl prog_info ?_)
              | (refine wpList_loadB rfl 44 _ rfl b (stC s vo vt) rfl 44 HW.out.pr.st _ Tryz.underlying44 rfl (rstate_size HW.out.pr.at'.len) ?_)
              | (go_at_call 12; refine (HSP.out _ HW.out.pr.below HW.out.pr.at').mono ?_; rintro e1 w4 ⟨vo2, vt2, rfl, hst2, hb⟩; have HT := Lib.hid hst2; have HW := Lib.hid (HW.out.next hb); clear hb hst2)
              | ((have HBT : Hid (Below w4.heap.size w4 (putB (w4.alloc (.cells zeroS 44)) w4.heap.size (stC s vo2 vt2) 44)) := Lib.hid (((Below.refl _ _).alloc (Nat.le_refl _) _).trans (putB_below _ (Nat.le_refl _) _ _))); refine wpList_putB rfl 44 _ _ rfl w4.heap.size (stC s vo2 vt2) rfl rfl 44 zeroS (blk_new w4 zeroS 44) (rstate_size HT.out.len) (by rw [stC_size HT.out.len]; rfl) HT.out.one ?_; (have HW := Lib.hid (HW.out.next HBT.out)); (have HT := Lib.hid (HT.out.below HBT.out)); (have KT := Lib.hid (putB_at (blk_new w4 zeroS 44) (stC s vo2 vt2) 44)); clear HBT))
            go_ret
            exact ⟨rfl, HW.out.pr.below⟩
          · clear hdz
            go_wp2_with (first
              | (refine wpList_loadB rfl 25 _ rfl w.heap.size (progC (.slice x p.types.length kx) p (.slice x' p.code.length kx')) rfl 25 HW.out.pr.prog _ Tryz.underlying25 rfl prog_info ?_)
              | (refine wpList_loadB rfl 44 _ rfl b (stC s vo vt) rfl 44 HW.out.pr.st _ Tryz.underlying44 rfl (rstate_size HW.out.pr.at'.len) ?_)
              | (go_at_call 12; refine (HSP.out _ HW.out.pr.below HW.out.pr.at').mono ?_; rintro e1 w4 ⟨vo2, vt2, rfl, hst2, hb⟩; have HT := Lib.hid hst2; have HW := Lib.hid (HW.out.next hb); clear hb hst2)
              | ((have HBT : Hid (Below w4.heap.size w4 (putB (w4.alloc (.cells zeroS 44)) w4.heap.size (stC s vo2 vt2) 44)) := Lib.hid (((Below.refl _ _).alloc (Nat.le_refl _) _).trans (putB_below _ (Nat.le_refl _) _ _))); refine wpList_putB rfl 44 _ _ rfl w4.heap.size (stC s vo2 vt2) rfl rfl 44 zeroS (blk_new w4 zeroS 44) (rstate_size HT.out.len) (by rw [stC_size HT.out.len]; rfl) HT.out.one ?_; (have HW := Lib.hid (HW.out.next HBT.out)); (have HT := Lib.hid (HT.out.below HBT.out)); (have KT := Lib.hid (putB_at (blk_new w4 zeroS 44) (stC s vo2 vt2) 44)); clear HBT))
            go_ret
            exact ⟨rfl, HW.out.pr.below⟩
        · rw [hs'] at HSP
          have HRN := Lib.hid hrn
          have HFN := Lib.hid hfn
          clear hs' hrn hfn HCA
          go_wp2_with (first
            | (refine wpList_loadB rfl 25 _ rfl w.heap.size (progC (.slice x p.types.length kx) p (.slice x' p.code.length kx')) rfl 25 HW.out.pr.prog _ Tryz.underlying25 rfl prog_info ?_)
            | (refine wpList_loadB rfl 44 _ rfl b (stC s vo vt) rfl 44 HW.out.pr.st _ Tryz.underlying44 rfl (rstate_size HW.out.pr.at'.len) ?_)
            | (go_at_call 12; refine (HSP.out _ HW.out.pr.below HW.out.pr.at').mono ?_; rintro e1 w4 ⟨vo2, vt2, rfl, hst2, hb⟩; have HT := Lib.hid hst2; have HW := Lib.hid (HW.out.next hb); clear hb hst2)
            | ((have HBT : Hid (Below w4.heap.size w4 (putB (w4.alloc (.cells zeroS 44)) w4.heap.size (stC t vo2 vt2) 44)) := Lib.hid (((Below.refl _ _).alloc (Nat.le_refl _) _).trans (putB_below _ (Nat.le_refl _) _ _))); refine wpList_putB rfl 44 _ _ rfl w4.heap.size (stC t vo2 vt2) rfl rfl 44 zeroS (blk_new w4 zeroS 44) (rstate_size HT.out.len) (by rw [stC_size HT.out.len]; rfl) HT.out.one ?_; (have HW := Lib.hid (HW.out.next HBT.out)); (have HT := Lib.hid (HT.out.below HBT.out)); (have KT := Lib.hid (putB_at (blk_new w4 zeroS 44) (stC t vo2 vt2) 44)); clear HBT)
            | (refine wpList_loadB rfl 44 _ rfl w4.heap.size (stC t vo2 vt2) rfl 44 KT.out _ Tryz.underlying44 rfl (rstate_size HT.out.len) ?_)
            | (refine wpList_putB rfl 44 _ _ rfl b (stC t vo2 vt2) rfl rfl 44 _ HW.out.pr.st (rstate_size HT.out.len) (by rw [stC_size HW.out.pr.at'.len, stC_size HT.out.len]) HT.out.one ?_; (have HW := Lib.hid (HW.out.put HT.out))))
          go_roundw
          case rel => exact ⟨n + 1, t, ts', vo2, vt2, _, by omega, by go_num, HW, HRN, HFN⟩
          case measure => simp [intOf]; omega
    · have hnn : ¬ ((n : Int) < (a : Int)) := by omega
      go_wp2
      go_ret
      exact ⟨rfl, HW.out.pr.below⟩
theorem plonce_walk (v : Value) (p : PProg) (a : Int) (w : World) (h : ProgAt w v p) (hs : OkP p) (hO : HasO w) (ht' : HasT w) (ha0 : 0 ≤ a) (ha : a ≤ 255) : Calls Tryz.prog 5 #[v, .int .u8 a] w fun e w' => e = .returned (.bool true) ∧ Below w.heap.size w w' := by
  obtain ⟨vt, vc, rfl, ht, hc⟩ := id h
  have hwb : Below w.heap.size w (w.alloc (.cells (progC vt p vc) 25)) := (Below.refl _ _).alloc (Nat.le_refl _) _
  have HK := keep_new h
  obtain ⟨x, c, rfl, -, -, -⟩ := id ht.elems
  obtain ⟨x', c', rfl, q1, q2, -⟩ := id hc
  unfold maxLen at q2
  obtain ⟨aN, rfl⟩ : ∃ aN : Nat, a = aN := ⟨a.toNat, by omega⟩
  exact plonce_at w _ p aN x x' c c' _ rfl (Lib.hid HK) (Lib.hid hwb) (Lib.hid fun w1 hb => plalive_n w1 (hO.below hb)) (Lib.hid fun w1 h1 hb1 => sound_n _ p w1 _ h1 hs (ht'.below hb1) rfl) (by omega) q1 (Lib.hid hs.ins) (Lib.hid fun hsd w1 h1 hb => best_post h1 hs (hO.below hb) (sound_parts hsd).2.2.1) (Lib.hid fun hsd w1 h1 hb => rcheck_n _ p _ 0 w1 h1 hs (ht'.below hb) rfl (by rw [(sound_parts hsd).2.2.1]; rfl)) (Lib.hid fun w1 hb1 => h.below hb1) (Lib.hid hs) (by omega) (Lib.hid fun hsd w1 s vo vt hb1 hst hz hu => rstepU_n _ p w1 s vo vt (h.below hb1) hs (ht'.below hb1) hst hz (fun _ => hu))
end Go.Proofs.YtapjgobkpehgfaaGreatDoor
