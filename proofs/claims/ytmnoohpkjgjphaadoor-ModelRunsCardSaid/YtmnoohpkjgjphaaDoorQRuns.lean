/-
  What came in: a number of eight bits.
  The document's Run: its contract.
  ModelRuns: the walk.
-/
import Derived.Test.YtmnoohpkjgjphaaDoorZAll
import Derived.Test.YtmnoohpkjgjphaaDoorQC
import Derived.Test.YtmnoohpkjgjphaaDoorMLawT
import Derived.Test.YtmnoohpkjgjphaaDoorPRun

/- What came in: a number of eight bits. -/
namespace Go.Proofs.YtmnoohpkjgjphaaDoor
set_option linter.unusedSimpArgs false
set_option linter.unusedVariables false
open Go.RowKit Go.ChangeShapes Go.WideShapes Go.Deep Go.Joins

theorem of_wf_i8 {n : Int} (h : (Lit.int .i8 n).wf = true) : -128 ≤ n ∧ n ≤ 127 := by
  have e1 : IntKind.min .i8 = -128 := by decide
  have e2 : IntKind.max .i8 = 127 := by decide
  simp only [Lit.wf, Bool.and_eq_true, decide_eq_true_eq, e1, e2] at h
  exact h
section
variable {H : Type} {enc : TypeId × Value → H} {w : World} {base : Nat} {spare : Nat → Bool} {held : Bool}
set_option maxRecDepth 100000 in
theorem open_i8 {r : Reach} {b0 : Nat} {v : Value} {d : DataW H} {ps : List MemPlace} (hv : Value.okWide Tryd.prog w r b0 43 v) (h : DataW.Trod enc Tryd.prog w base spare held 43 v d ps) : ∃ n : Int, v = .int .i8 n ∧ d = .lit (.int .i8 n) ∧ ps = [] ∧ -128 ≤ n ∧ n ≤ 127 := by
  obtain ⟨n, e, e2, e3, hw⟩ := open_int Tryd.underlying43 hv h
  exact ⟨n, e, e2, e3, (of_wf_i8 hw).1, (of_wf_i8 hw).2⟩
end
end Go.Proofs.YtmnoohpkjgjphaaDoor

/- The document's Run: its contract. -/
namespace Go.Proofs.YtmnoohpkjgjphaaDoor
set_option linter.unusedSimpArgs false
set_option linter.unusedVariables false
open Go.RowKit

/-- The world in the document's Run: the program's block, the state's. -/
structure LrW (w wr : World) (b : Nat) (vt' vc : Value) (p : PProg) (s : PSt) (vo vt : Value) : Prop where
  below : Below w.heap.size w wr
  prog : blk wr w.heap.size (progC vt' p vc) 25
  st : blk wr b (stC s vo vt) 35
  at' : StN wr vo vt s
theorem LrW.put {w wr : World} {b : Nat} {vt' vc : Value} {p : PProg} {s t : PSt} {vo vt vo2 vt2 : Value} (h : LrW w wr b vt' vc p s vo vt) (ht : StN wr vo2 vt2 t) (hne : b ≠ w.heap.size) (hge : w.heap.size ≤ b) : LrW w (putB wr b (stC t vo2 vt2) 35) b vt' vc p t vo2 vt2 :=
  ⟨h.below.trans (putB_below _ hge _ _), by unfold blk; rw [putB_ne _ (fun e => hne e.symm)]; exact h.prog, putB_at h.st _ _, ht.putT h.st (by decide)⟩
theorem LrW.next {w wr w' : World} {b : Nat} {vt' vc : Value} {p : PProg} {s : PSt} {vo vt : Value} (h : LrW w wr b vt' vc p s vo vt) (hb : Below wr.heap.size wr w') : LrW w w' b vt' vc p s vo vt :=
  ⟨h.below.trans (hb.mono h.below.size), blk_below h.prog hb, blk_below h.st hb, h.at'.below hb⟩
theorem rrun_bad (w : World) (C : Array Value) (z e fuel : Int) (hC : Hid (C.size = 4))
    (HCK : Hid (∀ w1, Below w.heap.size w w1 → Calls Tryd.prog 18 #[.agg C] w1 (ChkPost w1 z e))) (he : (e != 0) = true ∨ ((e != 0) = false ∧ fuel < 0)) :
    Calls Tryd.prog 16 #[.agg C, .int .i64 fuel] w (RunPost w [] 2) := by
  have HB := Lib.hid ((Below.refl w.heap.size w).alloc (Nat.le_refl _) (.cells C 25))
  have KP := Lib.hid (blk_new w C 25)
  rcases he with he | ⟨he, hf⟩
  all_goals
    go_enter Tryd.func16, Tryd.ntmps16
    go_wp2_with (first
      | (refine wpList_loadB rfl 25 _ rfl w.heap.size C rfl 25 KP.out _ Tryd.underlying25 rfl (by rw [hC.out]; exact prog_info) ?_)
      | (go_at_call 18; refine (HCK.out _ HB.out).mono ?_; rintro e1 w1 ⟨rfl, hb⟩; have HB := Lib.hid (HB.out.trans (hb.mono HB.out.size)); clear hb))
    go_ret2
    exact ⟨_, rfl, rowN_nil _, HB.out⟩
set_option maxRecDepth 100000 in
set_option maxHeartbeats 8000000 in
theorem rrun_at (w W0 : World) (p : PProg) (fuel : Nat) (l : List Int) (z : Nat) (x x' : Option Addr) (k k' : Nat)
    (hW0 : W0 = w.alloc (.cells (progC (.slice x p.types.length k) p (.slice x' p.code.length k')) 25)) (KP : Hid (blk W0 w.heap.size (progC (.slice x p.types.length k) p (.slice x' p.code.length k')) 25)) (HS : Hid (Below w.heap.size w W0))
    (HCK : Hid (∀ w1, Below w.heap.size w w1 → Calls Tryd.prog 18 #[.agg (progC (.slice x p.types.length k) p (.slice x' p.code.length k'))] w1 (ChkPost w1 (-1) 0)))
    (HST : Hid (∀ w1 s vo vt ts n, Below w.heap.size w w1 → StN w1 vo vt s → SizeOk s → n ≤ 1000000 → RunOk p s ts n → Calls Tryd.prog 13 #[.agg (progC (.slice x p.types.length k) p (.slice x' p.code.length k')), .agg (stC s vo vt)] w1 (StepPost w1 (stepL p s))))
    (ha : fuel ≤ 255) (HOK : Hid (OkP p)) (hc : (checkL p).2 = 0) (HG : Hid (l = (goL p fuel st0).1.out ∧ z = (goL p fuel st0).2)) :
    Calls Tryd.prog 16 #[.agg (progC (.slice x p.types.length k) p (.slice x' p.code.length k')), .int .i64 fuel] w (RunPost w l z) := by
  have HC := Lib.hid hc
  clear hc
  go_enter Tryd.func16, Tryd.ntmps16
  go_upto_region 1 with (fail)
  rw [← hW0]
  clear hW0
  go_upto_region 5 with (first
    | (refine wpList_loadB rfl 25 _ rfl w.heap.size (progC (.slice x p.types.length k) p (.slice x' p.code.length k')) rfl 25 KP.out _ Tryd.underlying25 rfl prog_info ?_)
    | (go_at_call 18; refine (HCK.out _ HS.out).mono ?_; rintro e1 w3 ⟨rfl, hb⟩; have HBW := Lib.hid (HS.out.trans (hb.mono HS.out.size)); have KP3 := Lib.hid (blk_below KP.out hb); clear hb))
  have HW0 : Hid (LrW w (w3.alloc (.cells zeroS 35)) w3.heap.size (.slice x p.types.length k) (.slice x' p.code.length k') p st0 (.slice none 0 0) (.slice none 0 0)) := Lib.hid ⟨HBW.out.alloc HBW.out.size _, blk_alloc KP3.out _, blk_new _ _ _, st0_n _⟩
  have hbne : w3.heap.size ≠ w.heap.size := by have := blk_lt KP3.out; omega
  have hbge : w.heap.size ≤ w3.heap.size := HBW.out.size
  obtain ⟨wb, hwb⟩ : ∃ wb, wb = w3.alloc (.cells zeroS 35) := ⟨_, rfl⟩
  obtain ⟨b, hb'⟩ : ∃ b, b = w3.heap.size := ⟨_, rfl⟩
  rw [← hwb] at HW0 ⊢
  rw [← hb'] at HW0 hbne hbge ⊢
  clear hwb hb' KP KP3 HBW HS HCK
  go_wp2_with (fail)
  go_loopw [9] (fun i wr => ∃ (n : Nat) (s : PSt) (ts : List Nat) (vo vt : Value), n ≤ fuel + 1 ∧ i = .int .i64 n ∧ Hid (LrW w wr b (.slice x p.types.length k) (.slice x' p.code.length k') p s vo vt) ∧
      Hid ((n ≤ fuel ∧ RunOk p s ts n ∧ goL p (fuel - n) s = goL p fuel st0) ∨ (n = fuel + 1 ∧ goL p fuel st0 = (s, 10)))) (fun i _ => fuel + 1 - (intOf i).toNat)
  case atStart => exact ⟨0, st0, [], _, _, Nat.zero_le _, rfl, HW0, Lib.hid (.inl ⟨Nat.zero_le _, run_0 p, rfl⟩)⟩
  case round =>
    obtain ⟨n, s, ts, vo, vt, hn, rfl, HW, HQ⟩ := hrel
    clear HW0
    rcases HQ.out with ⟨hnf, hr, hg⟩ | ⟨rfl, hg⟩
    · have HSP : Hid (∀ w1, Below w.heap.size w w1 → StN w1 vo vt s → Calls Tryd.prog 13 #[.agg (progC (.slice x p.types.length k) p (.slice x' p.code.length k')), .agg (stC s vo vt)] w1 (StepPost w1 (stepL p s))) := Lib.hid fun w1 hb1 hs1 =>
        HST.out w1 s vo vt ts n hb1 hs1 (size_run HC.out hr (by omega)) (by omega) hr
      have hcase : (∃ (d : Bool) (z' : Nat), stepL p s = (s, d, z') ∧ (d = true ∨ z' ≠ 0) ∧ l = s.out ∧ z = z') ∨
          (∃ t ts', stepL p s = (t, false, 0) ∧ RunOk p t ts' (n + 1) ∧ (n < fuel → goL p (fuel - (n + 1)) t = goL p fuel st0) ∧ (n = fuel → goL p fuel st0 = (s, 10))) := by
        obtain ⟨hl, hz⟩ := HG.out
        rcases step_one HC.out hr with ⟨_, he⟩ | ⟨i, hi, _, ⟨hd, he⟩ | ⟨t, hd, he⟩⟩
        · have hgo := go_end (fuel - n) he
          rw [hg] at hgo
          exact .inl ⟨true, 0, he, .inl rfl, by rw [hl, hgo], by rw [hz, hgo]⟩
        · have hgo := go_zero (fuel - n) he
          rw [hg] at hgo
          exact .inl ⟨false, 9, he, .inr (by decide), by rw [hl, hgo], by rw [hz, hgo]⟩
        · obtain ⟨ts', hrn, _⟩ := run_next HC.out HOK.out.ins (by omega) hr hi hd
          refine .inr ⟨t, ts', he, hrn, fun hlt => ?_, fun heq => ?_⟩
          · rw [← hg, show fuel - n = (fuel - (n + 1)) + 1 by omega, go_step' _ he]
          · rw [heq, Nat.sub_self] at hg
            rw [← hg]; exact go_fuel he
      clear hr hg HQ
      obtain ⟨av, cv, hvt, -, -⟩ := rowN_form HW.out.at'.out
      subst hvt
      rcases hcase with ⟨d, z', hs, hdz, hl, hz⟩ | ⟨t, ts', hs, hrn, hlt', heq'⟩
      · rw [hs] at HSP
        subst hl hz
        have HDZ := Lib.hid hdz
        clear hs hdz
        rcases d with _ | _
        · have ez : ((z : Int) != 0) = true := by have := HDZ.out.resolve_left (by decide); simp; omega
          go_wp2_with (first
          | (refine wpList_loadB rfl 25 _ rfl w.heap.size (progC (.slice x p.types.length k) p (.slice x' p.code.length k')) rfl 25 HW.out.prog _ Tryd.underlying25 rfl prog_info ?_)
          | (refine wpList_loadB rfl 35 _ rfl b (stC s vo (.slice av s.out.length cv)) rfl 35 HW.out.st _ Tryd.underlying35 rfl (rstate_size HW.out.at'.len) ?_)
          | (go_at_call 13; refine (HSP.out _ HW.out.below HW.out.at').mono ?_; rintro e1 w4 ⟨vo2, vt2, rfl, hst2, hb⟩; have HT := Lib.hid hst2; have HW := Lib.hid (HW.out.next hb); clear hb hst2)
          | (have HBT : Hid (Below w4.heap.size w4 (putB (w4.alloc (.cells zeroS 35)) w4.heap.size (stC s vo2 vt2) 35)) := Lib.hid (((Below.refl _ _).alloc (Nat.le_refl _) _).trans (putB_below _ (Nat.le_refl _) _ _))
             refine wpList_putB rfl 35 _ _ rfl w4.heap.size (stC s vo2 vt2) rfl rfl 35 zeroS (blk_new w4 zeroS 35) (rstate_size HT.out.len) (by rw [stC_size HT.out.len]; rfl) HT.out.one ?_
             have HW := Lib.hid (HW.out.next HBT.out)
             have HT := Lib.hid (HT.out.below HBT.out)
             have KT := Lib.hid (putB_at (blk_new w4 zeroS 35) (stC s vo2 vt2) 35)
             clear HBT
             have c21 := blk_cell HW.out.st _ _ (stC_rest (vo := vo) (vt := (.slice av s.out.length cv)) HW.out.at'.len).2.1))
          go_ret2
          exact ⟨_, rfl, HW.out.at'.out, HW.out.below⟩
        · go_wp2_with (first
          | (refine wpList_loadB rfl 25 _ rfl w.heap.size (progC (.slice x p.types.length k) p (.slice x' p.code.length k')) rfl 25 HW.out.prog _ Tryd.underlying25 rfl prog_info ?_)
          | (refine wpList_loadB rfl 35 _ rfl b (stC s vo (.slice av s.out.length cv)) rfl 35 HW.out.st _ Tryd.underlying35 rfl (rstate_size HW.out.at'.len) ?_)
          | (go_at_call 13; refine (HSP.out _ HW.out.below HW.out.at').mono ?_; rintro e1 w4 ⟨vo2, vt2, rfl, hst2, hb⟩; have HT := Lib.hid hst2; have HW := Lib.hid (HW.out.next hb); clear hb hst2)
          | (have HBT : Hid (Below w4.heap.size w4 (putB (w4.alloc (.cells zeroS 35)) w4.heap.size (stC s vo2 vt2) 35)) := Lib.hid (((Below.refl _ _).alloc (Nat.le_refl _) _).trans (putB_below _ (Nat.le_refl _) _ _))
             refine wpList_putB rfl 35 _ _ rfl w4.heap.size (stC s vo2 vt2) rfl rfl 35 zeroS (blk_new w4 zeroS 35) (rstate_size HT.out.len) (by rw [stC_size HT.out.len]; rfl) HT.out.one ?_
             have HW := Lib.hid (HW.out.next HBT.out)
             have HT := Lib.hid (HT.out.below HBT.out)
             have KT := Lib.hid (putB_at (blk_new w4 zeroS 35) (stC s vo2 vt2) 35)
             clear HBT
             have c21 := blk_cell HW.out.st _ _ (stC_rest (vo := vo) (vt := (.slice av s.out.length cv)) HW.out.at'.len).2.1))
          go_ret2
          exact ⟨_, rfl, HW.out.at'.out, HW.out.below⟩
      · rw [hs] at HSP
        clear hs
        have HRN := Lib.hid hrn
        have HLT := Lib.hid hlt'
        have HEQ := Lib.hid heq'
        clear hrn hlt' heq'
        by_cases hnf' : n = fuel
        · go_wp2_with (first
          | (refine wpList_loadB rfl 25 _ rfl w.heap.size (progC (.slice x p.types.length k) p (.slice x' p.code.length k')) rfl 25 HW.out.prog _ Tryd.underlying25 rfl prog_info ?_)
          | (refine wpList_loadB rfl 35 _ rfl b (stC s vo (.slice av s.out.length cv)) rfl 35 HW.out.st _ Tryd.underlying35 rfl (rstate_size HW.out.at'.len) ?_)
          | (go_at_call 13; refine (HSP.out _ HW.out.below HW.out.at').mono ?_; rintro e1 w4 ⟨vo2, vt2, rfl, hst2, hb⟩; have HT := Lib.hid hst2; have HW := Lib.hid (HW.out.next hb); clear hb hst2)
          | (have HBT : Hid (Below w4.heap.size w4 (putB (w4.alloc (.cells zeroS 35)) w4.heap.size (stC t vo2 vt2) 35)) := Lib.hid (((Below.refl _ _).alloc (Nat.le_refl _) _).trans (putB_below _ (Nat.le_refl _) _ _))
             refine wpList_putB rfl 35 _ _ rfl w4.heap.size (stC t vo2 vt2) rfl rfl 35 zeroS (blk_new w4 zeroS 35) (rstate_size HT.out.len) (by rw [stC_size HT.out.len]; rfl) HT.out.one ?_
             have HW := Lib.hid (HW.out.next HBT.out)
             have HT := Lib.hid (HT.out.below HBT.out)
             have KT := Lib.hid (putB_at (blk_new w4 zeroS 35) (stC t vo2 vt2) 35)
             clear HBT
             have c21 := blk_cell HW.out.st _ _ (stC_rest (vo := vo) (vt := (.slice av s.out.length cv)) HW.out.at'.len).2.1))
          have HQ2 : Hid ((n + 1 ≤ fuel ∧ RunOk p s ts (n + 1) ∧ goL p (fuel - (n + 1)) s = goL p fuel st0) ∨ (n + 1 = fuel + 1 ∧ goL p fuel st0 = (s, 10))) := Lib.hid (.inr ⟨by omega, HEQ.out hnf'⟩)
          go_roundw
          case rel => exact ⟨n + 1, s, ts, _, _, by omega, by go_num, HW, HQ2⟩
          case measure => simp [intOf]; omega
        · have hnl : n < fuel := by omega
          go_wp2_with (first
          | (refine wpList_loadB rfl 25 _ rfl w.heap.size (progC (.slice x p.types.length k) p (.slice x' p.code.length k')) rfl 25 HW.out.prog _ Tryd.underlying25 rfl prog_info ?_)
          | (refine wpList_loadB rfl 35 _ rfl b (stC s vo (.slice av s.out.length cv)) rfl 35 HW.out.st _ Tryd.underlying35 rfl (rstate_size HW.out.at'.len) ?_)
          | (go_at_call 13; refine (HSP.out _ HW.out.below HW.out.at').mono ?_; rintro e1 w4 ⟨vo2, vt2, rfl, hst2, hb⟩; have HT := Lib.hid hst2; have HW := Lib.hid (HW.out.next hb); clear hb hst2)
          | (have HBT : Hid (Below w4.heap.size w4 (putB (w4.alloc (.cells zeroS 35)) w4.heap.size (stC t vo2 vt2) 35)) := Lib.hid (((Below.refl _ _).alloc (Nat.le_refl _) _).trans (putB_below _ (Nat.le_refl _) _ _))
             refine wpList_putB rfl 35 _ _ rfl w4.heap.size (stC t vo2 vt2) rfl rfl 35 zeroS (blk_new w4 zeroS 35) (rstate_size HT.out.len) (by rw [stC_size HT.out.len]; rfl) HT.out.one ?_
             have HW := Lib.hid (HW.out.next HBT.out)
             have HT := Lib.hid (HT.out.below HBT.out)
             have KT := Lib.hid (putB_at (blk_new w4 zeroS 35) (stC t vo2 vt2) 35)
             clear HBT
             have c21 := blk_cell HW.out.st _ _ (stC_rest (vo := vo) (vt := (.slice av s.out.length cv)) HW.out.at'.len).2.1)
          | (refine wpList_loadB rfl 35 _ rfl w4.heap.size (stC t vo2 vt2) rfl 35 KT.out _ Tryd.underlying35 rfl (rstate_size HT.out.len) ?_)
          | (refine wpList_putB rfl 35 _ _ rfl b (stC t vo2 vt2) rfl rfl 35 _ HW.out.st (rstate_size HT.out.len) (by rw [stC_size HW.out.at'.len, stC_size HT.out.len]) HT.out.one ?_; have HW := Lib.hid (HW.out.put HT.out hbne hbge); clear HT KT))
          have HQ2 : Hid ((n + 1 ≤ fuel ∧ RunOk p t ts' (n + 1) ∧ goL p (fuel - (n + 1)) t = goL p fuel st0) ∨ (n + 1 = fuel + 1 ∧ goL p fuel st0 = (t, 10))) := Lib.hid (.inl ⟨by omega, HRN.out, HLT.out (by omega)⟩)
          go_roundw
          case rel => exact ⟨n + 1, t, ts', _, _, by omega, by go_num, HW, HQ2⟩
          case measure => simp [intOf]; omega
    · clear HQ
      obtain ⟨hl, hz⟩ := HG.out
      rw [hg] at hl hz
      subst hl hz
      obtain ⟨av, cv, hvt, -, -⟩ := rowN_form HW.out.at'.out
      subst hvt
      have c21 := blk_cell HW.out.st _ _ (stC_rest (vo := vo) (vt := (.slice av s.out.length cv)) HW.out.at'.len).2.1
      go_wp2
      go_ret2
      exact ⟨_, rfl, HW.out.at'.out, HW.out.below⟩
theorem rrun_n (v : Value) (p : PProg) (w : World) (fuel : Int) (h : ProgAt w v p) (hs : OkP p) (ht : HasT w) (hf : fuel ≤ 255) : Calls Tryd.prog 16 #[v, .int .i64 fuel] w (RunPost w (runL p fuel).1 (runL p fuel).2) := by
  obtain ⟨vt', vc, rfl, htl, hcc⟩ := id h
  obtain ⟨x, k, rfl, -, -, -⟩ := id htl.elems
  obtain ⟨x', k', rfl, g1, g2, g3⟩ := id hcc
  have hwb : Below w.heap.size w (w.alloc (.cells (progC (.slice x p.types.length k) p (.slice x' p.code.length k')) 25)) := (Below.refl _ _).alloc (Nat.le_refl _) _
  have HCK : ∀ z e : Int, (checkL p).1 = z → ((checkL p).2 : Int) = e → ∀ w1, Below w.heap.size w w1 → Calls Tryd.prog 18 #[.agg (progC (.slice x p.types.length k) p (.slice x' p.code.length k'))] w1 (ChkPost w1 z e) := fun z e h1 h2 w1 hb1 =>
    rcheck_n _ p z e w1 (h.below hb1) hs (ht.below hb1) h1 h2
  by_cases hc0 : (checkL p).2 ≠ 0 ∨ fuel < 0
  · unfold runL
    rw [if_pos hc0]
    refine rrun_bad w _ _ _ fuel (Lib.hid rfl) (Lib.hid (HCK _ _ rfl rfl)) ?_
    by_cases hc1 : (checkL p).2 = 0
    · exact .inr ⟨by simp [hc1], by omega⟩
    · exact .inl (by simp; omega)
  · have hc1 : (checkL p).2 = 0 := by omega
    obtain ⟨n, rfl⟩ : ∃ n : Nat, fuel = n := ⟨fuel.toNat, by omega⟩
    unfold runL
    rw [if_neg hc0, Int.toNat_natCast]
    exact rrun_at w _ p n _ _ x x' k k' rfl (Lib.hid (blk_new _ _ _)) (Lib.hid hwb) (Lib.hid (HCK (-1) 0 (by rw [(check_ok hc1).2.2.2.2]) (by rw [hc1]; rfl)))
      (Lib.hid fun w1 s vo vt ts m hb1 hs1 hz hm hr => rstep_n _ p w1 s vo vt ts m (h.below hb1) hs (ht.below hb1) hs1 hz hm (fun _ => hr)) (by omega) (Lib.hid hs) hc1 (Lib.hid ⟨rfl, rfl⟩)
end Go.Proofs.YtmnoohpkjgjphaaDoor

/- ModelRuns: the walk. -/
namespace Go.Proofs.YtmnoohpkjgjphaaDoor
set_option linter.unusedSimpArgs false
set_option linter.unusedVariables false
open Go.RowKit

set_option maxRecDepth 100000 in
set_option maxHeartbeats 4000000 in
theorem runs_at (w W0 : World) (p : PProg) (fuel : Int) (l : List Int) (z : Nat) (f : Bool) (x x' : Option Addr) (k k' : Nat)
    (hW0 : W0 = w.alloc (.cells #[.slice x p.types.length k, str p.locals, str p.globs, .slice x' p.code.length k'] 25))
    (KP : Hid (Keep W0 w.heap.size (.slice x p.types.length k) (.slice x' p.code.length k') p)) (HS : Hid (Below w.heap.size w W0))
    (HAL : Hid (∀ w1, Below W0.heap.size W0 w1 → Calls Tryd.prog 11 #[] w1 (AggPost w1 (.bool true))))
    (HF : Hid (∀ w1, Below W0.heap.size W0 w1 → Calls Tryd.prog 10 #[.agg (progC (.slice x p.types.length k) p (.slice x' p.code.length k'))] w1 (AggPost w1 (.bool f))))
    (HR1 : Hid (∀ w1, Below W0.heap.size W0 w1 → Calls Tryd.prog 15 #[.agg (progC (.slice x p.types.length k) p (.slice x' p.code.length k')), .int .i64 fuel] w1 (RunPost w1 l z)))
    (HR2 : Hid (∀ w1, Below W0.heap.size W0 w1 → Calls Tryd.prog 16 #[.agg (progC (.slice x p.types.length k) p (.slice x' p.code.length k')), .int .i64 fuel] w1 (RunPost w1 l z)))
    (h0 : -128 ≤ fuel) (h1 : fuel ≤ 127) :
    Calls Tryd.prog 4 #[.agg (progC (.slice x p.types.length k) p (.slice x' p.code.length k')), .int .i8 fuel] w (AggPost w (.bool true)) := by
  have HB := Lib.hid (Below.refl W0.heap.size W0)
  go_enter Tryd.func4, Tryd.ntmps4
  go_wp2_with (fail)
  rw [← hW0]
  clear hW0
  rcases f with _ | _
  · go_wp2_with (first
      | (refine wpList_loadB rfl 25 _ rfl w.heap.size (progC (.slice x p.types.length k) p (.slice x' p.code.length k')) rfl 25 KP.out.blk _ Tryd.underlying25 rfl prog_info ?_)
      | (go_at_call 11; refine (HAL.out _ HB.out).mono ?_; rintro e1 w1 ⟨rfl, hb⟩; have HB := Lib.hid (HB.out.trans (hb.mono HB.out.size)); have KP := Lib.hid (KP.out.below hb); clear hb)
      | (go_at_call 10; refine (HF.out _ HB.out).mono ?_; rintro e1 w2 ⟨rfl, hb⟩; have HB := Lib.hid (HB.out.trans (hb.mono HB.out.size)); have KP := Lib.hid (KP.out.below hb); clear hb))
    go_ret
    exact ⟨rfl, HS.out.trans (HB.out.mono HS.out.size)⟩
  go_wp2_with (first
    | (refine wpList_loadB rfl 25 _ rfl w.heap.size (progC (.slice x p.types.length k) p (.slice x' p.code.length k')) rfl 25 KP.out.blk _ Tryd.underlying25 rfl prog_info ?_)
    | (go_at_call 11; refine (HAL.out _ HB.out).mono ?_; rintro e1 w1 ⟨rfl, hb⟩; have HB := Lib.hid (HB.out.trans (hb.mono HB.out.size)); have KP := Lib.hid (KP.out.below hb); clear hb)
    | (go_at_call 10; refine (HF.out _ HB.out).mono ?_; rintro e1 w2 ⟨rfl, hb⟩; have HB := Lib.hid (HB.out.trans (hb.mono HB.out.size)); have KP := Lib.hid (KP.out.below hb); clear hb)
    | (go_at_call 15; refine (HR1.out _ HB.out).mono ?_; rintro e1 w3 ⟨v1, rfl, hn1, hb⟩; clear HR1; have HB := Lib.hid (HB.out.trans (hb.mono HB.out.size)); have KP := Lib.hid (KP.out.below hb); have HN1 := Lib.hid hn1; clear hb hn1)
    | (go_at_call 16; refine (HR2.out _ HB.out).mono ?_; rintro e1 w4 ⟨v2, rfl, hn2, hb⟩; clear HR2; have HB := Lib.hid (HB.out.trans (hb.mono HB.out.size)); have HN1 := Lib.hid (HN1.out.below hb); have HN2 := Lib.hid hn2; clear hb hn2)
    | (go_at_call 17; refine (nums_n _ _ l l true _ HN1.out.1 HN2.out.1 (by simp)).mono ?_; rintro e1 w5 ⟨rfl, hb⟩; have HB := Lib.hid (HB.out.trans (hb.mono HB.out.size)); clear hb))
  go_ret
  exact ⟨by simp, HS.out.trans (HB.out.mono HS.out.size)⟩
theorem runs_walk (v : Value) (p : PProg) (a : Int) (w : World) (h : ProgAt w v p) (hs : OkP p) (ha0 : -128 ≤ a) (ha : a ≤ 127) (ho : HasO w) (ht' : HasT w) : Calls Tryd.prog 4 #[v, .int .i8 a] w fun e w' => e = .returned (.bool true) ∧ Below w.heap.size w w' := by
  obtain ⟨vt, vc, rfl, ht, hc⟩ := id h
  have hwb : Below w.heap.size w (w.alloc (.cells (progC vt p vc) 25)) := (Below.refl _ _).alloc (Nat.le_refl _) _
  have HK := keep_new h
  obtain ⟨x, c, rfl, -, -, -⟩ := id ht.elems
  obtain ⟨x', c', rfl, -, -, -⟩ := id hc
  exact runs_at w _ p a (runL p a).1 (runL p a).2 (fewP p) x x' c c' rfl (Lib.hid HK) (Lib.hid hwb) (Lib.hid fun w1 hb1 => malive_n w1 ((ho.below hwb).below hb1)) (Lib.hid fun w1 hb1 => few_b _ p _ w1 ((h.below hwb).below hb1) hs rfl)
    (Lib.hid fun w1 hb1 => mrun_n _ p w1 a ((h.below hwb).below hb1) hs ((ho.below hwb).below hb1) (by omega)) (Lib.hid fun w1 hb1 => rrun_n _ p w1 a ((h.below hwb).below hb1) hs ((ht'.below hwb).below hb1) (by omega)) ha0 ha
end Go.Proofs.YtmnoohpkjgjphaaDoor
