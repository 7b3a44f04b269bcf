/-
  ModelPieces: the walk.
-/
import Derived.Test.YtmnoohpkjgjphaaDoorMLaw1
import Derived.Deep.LoopGhost
import Derived.Deep.CutBlock
namespace Go.Proofs.YtmnoohpkjgjphaaDoor
set_option linter.unusedSimpArgs false
set_option linter.unusedVariables false
open Go.RowKit

theorem state_size {s : PSt} {vo vt : Value} (h : LenS s) : (Tryd.prog.info? 34).map (·.size) = some (stC s vo vt).size := by rw [stC_size h]; exact state_info
theorem GridN.form {w : World} {v : Value} {xss : List (List Int)} (h : GridN w v xss) : ∃ a c, v = .slice a xss.length c ∧ xss.length ≤ c ∧ c ≤ 9223372036854775807 := by
  obtain ⟨rows, h1, ⟨⟨a, c, rfl, g1, g2, _⟩, _, _⟩, _⟩ := h
  unfold maxLen at g2
  exact ⟨a, c, by rw [h1], by omega, by omega⟩
theorem StN.one {w : World} {vo vt : Value} {s : PSt} (h : StN w vo vt s) : (stC s vo vt).all (·.oneCell') = true := by
  obtain ⟨a, c, rfl, _⟩ := h.objs.form
  obtain ⟨a', c', rfl, _⟩ := rowN_form h.out
  exact stC_one s rfl rfl
theorem size_run {p : PProg} {s : PSt} {ts : List Nat} {k : Nat} (hc : (checkL p).2 = 0) (h : RunOk p s ts k) (hk : k ≤ 1000000) : SizeOk s := by
  obtain ⟨hh, h1, h2, _⟩ := check_ok hc
  have hl := h.inv.lo
  have h3 := h.lt
  have h4 := h.lo
  refine ⟨by omega, by omega, fun xs hx => ?_, by have := h.pc; omega⟩
  obtain ⟨j, hj⟩ := List.getElem?_of_mem hx
  have hlt := (List.getElem?_eq_some_iff.1 hj).1
  have := h.inv.os j (by omega)
  rw [List.getD_eq_getElem?_getD, hj] at this
  have h6 : sizeP p.types (ts.getD j 0 : Nat) ≤ 6 := sizeI_le.2
  simp only [Option.getD_some] at this
  omega
theorem size_0 : SizeOk st0 := ⟨by decide, by decide, fun xs hx => by simp [st0] at hx, by decide⟩
/-- The world in a law that goes step by step: the program's block, the state's. -/
structure LwW (w wr : World) (b : Nat) (vt' vc : Value) (p : PProg) (s : PSt) (vo vt : Value) : Prop where
  below : Below w.heap.size w wr
  prog : blk wr w.heap.size (progC vt' p vc) 25
  st : blk wr b (stC s vo vt) 34
  at' : StN wr vo vt s
theorem LwW.put {w wr : World} {b : Nat} {vt' vc : Value} {p : PProg} {s t : PSt} {vo vt vo2 vt2 : Value} (h : LwW w wr b vt' vc p s vo vt) (ht : StN wr vo2 vt2 t) (hne : b ≠ w.heap.size) (hge : w.heap.size ≤ b) : LwW w (putB wr b (stC t vo2 vt2) 34) b vt' vc p t vo2 vt2 :=
  ⟨h.below.trans (putB_below _ hge _ _), by unfold blk; rw [putB_ne _ (fun e => hne e.symm)]; exact h.prog, putB_at h.st _ _, ht.putS h.st⟩
theorem LwW.next {w wr w' : World} {b : Nat} {vt' vc : Value} {p : PProg} {s : PSt} {vo vt : Value} (h : LwW w wr b vt' vc p s vo vt) (hb : Below wr.heap.size wr w') : LwW w w' b vt' vc p s vo vt :=
  ⟨h.below.trans (hb.mono h.below.size), blk_below h.prog hb, blk_below h.st hb, h.at'.below hb⟩
set_option maxRecDepth 100000 in
set_option maxHeartbeats 4000000 in
theorem pieces_at (w W0 : World) (p : PProg) (fuel : Nat) (l : List Int) (z : Nat) (f : Bool) (x x' : Option Addr) (k k' : Nat)
    (hW0 : W0 = w.alloc (.cells #[.slice x p.types.length k, str p.locals, str p.globs, .slice x' p.code.length k'] 25))
    (KP : Hid (Keep W0 w.heap.size (.slice x p.types.length k) (.slice x' p.code.length k') p)) (HS : Hid (Below w.heap.size w W0))
    (HAL : Hid (∀ w1, Below W0.heap.size W0 w1 → Calls Tryd.prog 11 #[] w1 (AggPost w1 (.bool true))))
    (HF : Hid (∀ w1, Below W0.heap.size W0 w1 → Calls Tryd.prog 10 #[.agg (progC (.slice x p.types.length k) p (.slice x' p.code.length k'))] w1 (AggPost w1 (.bool f))))
    (HR1 : Hid (∀ w1, Below W0.heap.size W0 w1 → Calls Tryd.prog 15 #[.agg (progC (.slice x p.types.length k) p (.slice x' p.code.length k')), .int .i64 fuel] w1 (RunPost w1 l z)))
    (HST : Hid (∀ w1 s vo vt ts n, Below w.heap.size w w1 → StN w1 vo vt s → SizeOk s → n ≤ 1000000 → ((checkL p).2 = 0 → RunOk p s ts n) → Calls Tryd.prog 12 #[.agg (progC (.slice x p.types.length k) p (.slice x' p.code.length k')), .agg (stC s vo vt)] w1 (StepPost w1 (stepL p s))))
    (ha : fuel ≤ 255) (HOK : Hid (OkP p)) (HG : Hid (((checkL p).2 = 0 → l = (goL p fuel st0).1.out ∧ z = (goL p fuel st0).2) ∧ ((checkL p).2 ≠ 0 → l = [] ∧ z = 2))) :
    Calls Tryd.prog 8 #[.agg (progC (.slice x p.types.length k) p (.slice x' p.code.length k')), .int .u8 fuel] w (AggPost w (.bool true)) := by
  have HB := Lib.hid (Below.refl W0.heap.size W0)
  go_enter Tryd.func8, Tryd.ntmps8
  go_wp2_with (fail)
  rw [← hW0]
  clear hW0
  rcases f with _ | _
  · go_wp2_with (first
      | (refine wpList_loadB rfl 25 _ rfl w.heap.size (progC (.slice x p.types.length k) p (.slice x' p.code.length k')) rfl 25 KP.out.blk _ Tryd.underlying25 rfl prog_info ?_)
      | (go_at_call 11; refine (HAL.out _ HB.out).mono ?_; rintro e1 w1 ⟨rfl, hb⟩; have HB := Lib.hid (HB.out.trans (hb.mono HB.out.size)); have KP := Lib.hid (KP.out.below hb); clear hb)
      | (go_at_call 10; refine (HF.out _ HB.out).mono ?_; rintro e1 w1 ⟨rfl, hb⟩; have HB := Lib.hid (HB.out.trans (hb.mono HB.out.size)); clear hb))
    go_ret
    exact ⟨rfl, HS.out.trans (HB.out.mono HS.out.size)⟩
  go_upto_region 6 with (first
    | (refine wpList_loadB rfl 25 _ rfl w.heap.size (progC (.slice x p.types.length k) p (.slice x' p.code.length k')) rfl 25 KP.out.blk _ Tryd.underlying25 rfl prog_info ?_)
    | (go_at_call 11; refine (HAL.out _ HB.out).mono ?_; rintro e1 w1 ⟨rfl, hb⟩; have HB := Lib.hid (HB.out.trans (hb.mono HB.out.size)); have KP := Lib.hid (KP.out.below hb); clear hb)
    | (go_at_call 10; refine (HF.out _ HB.out).mono ?_; rintro e1 w2 ⟨rfl, hb⟩; have HB := Lib.hid (HB.out.trans (hb.mono HB.out.size)); have KP := Lib.hid (KP.out.below hb); clear hb)
    | (go_at_call 15; refine (HR1.out _ HB.out).mono ?_; rintro e1 w3 ⟨v1, rfl, hn1, hb⟩; clear HR1; have HB := Lib.hid (HB.out.trans (hb.mono HB.out.size)); have KP := Lib.hid (KP.out.below hb); clear hb; obtain ⟨a1, c1, hv1, g1, g2⟩ := rowN_form hn1; subst hv1; have HN1 := Lib.hid hn1; clear hn1))
  have HBW := Lib.hid (HS.out.trans (HB.out.mono HS.out.size))
  clear HAL HF HB HS
  have HW0 : Hid (LwW w (w3.alloc (.cells zeroS 34)) w3.heap.size (.slice x p.types.length k) (.slice x' p.code.length k') p st0 (.slice none 0 0) (.slice none 0 0)) := Lib.hid ⟨HBW.out.alloc HBW.out.size _, blk_alloc KP.out.blk _, blk_new _ _ _, st0_n _⟩
  have HN0 : Hid (RowN (w3.alloc (.cells zeroS 34)) (.slice a1 l.length c1) (i64s l)) := Lib.hid (HN1.out.below ((Below.refl _ _).alloc (Nat.le_refl _) _))
  have hbne : w3.heap.size ≠ w.heap.size := by have := blk_lt KP.out.blk; omega
  have hbge : w.heap.size ≤ w3.heap.size := HBW.out.size
  obtain ⟨b, hb⟩ : ∃ b, b = w3.heap.size := ⟨_, rfl⟩
  go_upto_block 0 with (fail)
  rw [← hb] at HW0 hbne hbge ⊢
  obtain ⟨wb, hwb⟩ : ∃ wb, wb = w3.alloc (.cells zeroS 34) := ⟨_, rfl⟩
  rw [← hwb] at HW0 HN0 ⊢
  clear hb hwb KP HBW HN1
  go_wp2_with (fail)
  go_loopw [8, 9] (fun e i wr => ∃ (n : Nat) (s : PSt) (ts : List Nat) (vo vt : Value), n ≤ fuel + 1 ∧ i = .int .i64 n ∧ e = .int .i64 10 ∧ Hid (LwW w wr b (.slice x p.types.length k) (.slice x' p.code.length k') p s vo vt) ∧ Hid (RowN wr (.slice a1 l.length c1) (i64s l)) ∧
      Hid ((n ≤ fuel ∧ ((checkL p).2 ≠ 0 → n = 0 ∧ s = st0) ∧ ((checkL p).2 = 0 → RunOk p s ts n ∧ goL p (fuel - n) s = goL p fuel st0)) ∨ (n = fuel + 1 ∧ (checkL p).2 = 0 ∧ goL p fuel st0 = (s, 10) ∧ s.steps ≤ fuel))) (fun e i _ => fuel + 1 - (intOf i).toNat)
  case atStart => exact ⟨0, st0, [], _, _, Nat.zero_le _, rfl, rfl, HW0, HN0, Lib.hid (.inl ⟨Nat.zero_le _, fun _ => ⟨rfl, rfl⟩, fun _ => ⟨run_0 p, rfl⟩⟩)⟩
  case round =>
    obtain ⟨n, s, ts, vo, vt, hn, rfl, rfl, HW, HN, HQ⟩ := hrel
    clear HW0 HN0
    rcases HQ.out with ⟨hnf, hbad, hok⟩ | ⟨rfl, hc, hg, hsf⟩
    · have HSP : Hid (∀ w1, Below w.heap.size w w1 → StN w1 vo vt s → Calls Tryd.prog 12 #[.agg (progC (.slice x p.types.length k) p (.slice x' p.code.length k')), .agg (stC s vo vt)] w1 (StepPost w1 (stepL p s))) := Lib.hid fun w1 hb1 hs1 => by
        by_cases hc : (checkL p).2 = 0
        · exact HST.out w1 s vo vt ts n hb1 hs1 (size_run hc (hok hc).1 (by omega)) (by omega) (fun _ => (hok hc).1)
        · obtain ⟨_, rfl⟩ := hbad hc
          exact HST.out w1 st0 vo vt [] 0 hb1 hs1 size_0 (by omega) (fun h => absurd h hc)
      have hcase : (∃ (d : Bool) (z' : Nat), stepL p s = (s, d, z') ∧ (d = true ∨ z' ≠ 0) ∧ l = s.out ∧ z = z' ∧ s.steps ≤ fuel) ∨
          (∃ t ts', stepL p s = (t, false, 0) ∧ (checkL p).2 = 0 ∧ RunOk p t ts' (n + 1) ∧ (n < fuel → goL p (fuel - (n + 1)) t = goL p fuel st0) ∧ (n = fuel → goL p fuel st0 = (s, 10) ∧ s.steps ≤ fuel)) := by
        by_cases hc : (checkL p).2 = 0
        · obtain ⟨hr, hg⟩ := hok hc
          obtain ⟨hl, hz⟩ := HG.out.1 hc
          have hst := hr.st
          rcases step_one hc hr with ⟨_, he⟩ | ⟨i, hi, _, ⟨hd, he⟩ | ⟨t, hd, he⟩⟩
          · have hgo := go_end (fuel - n) he
            rw [hg] at hgo
            exact .inl ⟨true, 0, he, .inl rfl, by rw [hl, hgo], by rw [hz, hgo], by omega⟩
          · have hgo := go_zero (fuel - n) he
            rw [hg] at hgo
            exact .inl ⟨false, 9, he, .inr (by decide), by rw [hl, hgo], by rw [hz, hgo], by omega⟩
          · obtain ⟨ts', hrn, _⟩ := run_next hc HOK.out.ins (by omega) hr hi hd
            refine .inr ⟨t, ts', he, hc, hrn, fun hlt => ?_, fun heq => ?_⟩
            · rw [← hg, show fuel - n = (fuel - (n + 1)) + 1 by omega, go_step' _ he]
            · rw [heq, Nat.sub_self] at hg
              exact ⟨by rw [← hg]; exact go_fuel he, by omega⟩
        · obtain ⟨_, rfl⟩ := hbad hc
          obtain ⟨hl, hz⟩ := HG.out.2 hc
          exact .inl ⟨false, 2, step_bad hc, .inr (by decide), hl, hz, Nat.zero_le _⟩
      clear hbad hok HQ
      obtain ⟨av, cv, hvt, -, -⟩ := rowN_form HW.out.at'.out
      subst hvt
      have hsi : ∀ h : s.steps ≤ fuel, (s.steps : Int) ≤ (fuel : Int) := fun h => by omega
      rcases hcase with ⟨d, z', hs, hdz, hl, hz, hsf⟩ | ⟨t, ts', hs, hc, hrn, hlt', heq'⟩
      · rw [hs] at HSP
        subst hl hz
        have hsi := hsi hsf
        have HDZ := Lib.hid hdz
        clear hs hdz
        rcases d with _ | _
        · have ez : ((z : Int) != 0) = true := by have := HDZ.out.resolve_left (by decide); simp; omega
          go_wp2_with (first
          | (refine wpList_loadB rfl 25 _ rfl w.heap.size (progC (.slice x p.types.length k) p (.slice x' p.code.length k')) rfl 25 HW.out.prog _ Tryd.underlying25 rfl prog_info ?_)
          | (refine wpList_loadB rfl 34 _ rfl b (stC s vo (.slice av s.out.length cv)) rfl 34 HW.out.st _ Tryd.underlying34 rfl (state_size HW.out.at'.len) ?_)
          | (go_at_call 12; refine (HSP.out _ (HW.out.below) HW.out.at').mono ?_; rintro e1 w4 ⟨vo2, vt2, rfl, hst2, hb⟩; have HT := Lib.hid hst2; have HW := Lib.hid (HW.out.next hb); have HN := Lib.hid (HN.out.below hb); clear hb hst2)
          | (have HBT : Hid (Below w4.heap.size w4 (putB (w4.alloc (.cells zeroS 34)) w4.heap.size (stC s vo2 vt2) 34)) := Lib.hid (((Below.refl _ _).alloc (Nat.le_refl _) _).trans (putB_below _ (Nat.le_refl _) _ _))
             refine wpList_putB rfl 34 _ _ rfl w4.heap.size (stC s vo2 vt2) rfl rfl 34 zeroS (blk_new w4 zeroS 34) (state_size HT.out.len) (by rw [stC_size HT.out.len]; rfl) HT.out.one ?_
             have HW := Lib.hid (HW.out.next HBT.out)
             have HN := Lib.hid (HN.out.below HBT.out)
             have HT := Lib.hid (HT.out.below HBT.out)
             have KT := Lib.hid (putB_at (blk_new w4 zeroS 34) (stC s vo2 vt2) 34)
             clear HBT
             obtain ⟨-, c21, -, c23⟩ := stC_rest (vo := vo) (vt := .slice av s.out.length cv) HW.out.at'.len
             have c21 := blk_cell HW.out.st _ _ c21
             have c23 := blk_cell HW.out.st _ _ c23)
          | (go_at_call 17; refine (nums_n _ _ s.out s.out true _ HN.out.1 HW.out.at'.out.1 (by simp)).mono ?_; rintro e1 w5 ⟨rfl, hb⟩; have HW := Lib.hid (HW.out.next hb); clear hb c21 c23; obtain ⟨-, c21, -, c23⟩ := stC_rest (vo := vo) (vt := .slice av s.out.length cv) HW.out.at'.len; have c23 := blk_cell HW.out.st _ _ c23))
          go_ret
          exact ⟨rfl, HW.out.below⟩
        · go_wp2_with (first
          | (refine wpList_loadB rfl 25 _ rfl w.heap.size (progC (.slice x p.types.length k) p (.slice x' p.code.length k')) rfl 25 HW.out.prog _ Tryd.underlying25 rfl prog_info ?_)
          | (refine wpList_loadB rfl 34 _ rfl b (stC s vo (.slice av s.out.length cv)) rfl 34 HW.out.st _ Tryd.underlying34 rfl (state_size HW.out.at'.len) ?_)
          | (go_at_call 12; refine (HSP.out _ (HW.out.below) HW.out.at').mono ?_; rintro e1 w4 ⟨vo2, vt2, rfl, hst2, hb⟩; have HT := Lib.hid hst2; have HW := Lib.hid (HW.out.next hb); have HN := Lib.hid (HN.out.below hb); clear hb hst2)
          | (have HBT : Hid (Below w4.heap.size w4 (putB (w4.alloc (.cells zeroS 34)) w4.heap.size (stC s vo2 vt2) 34)) := Lib.hid (((Below.refl _ _).alloc (Nat.le_refl _) _).trans (putB_below _ (Nat.le_refl _) _ _))
             refine wpList_putB rfl 34 _ _ rfl w4.heap.size (stC s vo2 vt2) rfl rfl 34 zeroS (blk_new w4 zeroS 34) (state_size HT.out.len) (by rw [stC_size HT.out.len]; rfl) HT.out.one ?_
             have HW := Lib.hid (HW.out.next HBT.out)
             have HN := Lib.hid (HN.out.below HBT.out)
             have HT := Lib.hid (HT.out.below HBT.out)
             have KT := Lib.hid (putB_at (blk_new w4 zeroS 34) (stC s vo2 vt2) 34)
             clear HBT
             obtain ⟨-, c21, -, c23⟩ := stC_rest (vo := vo) (vt := .slice av s.out.length cv) HW.out.at'.len
             have c21 := blk_cell HW.out.st _ _ c21
             have c23 := blk_cell HW.out.st _ _ c23)
          | (go_at_call 17; refine (nums_n _ _ s.out s.out true _ HN.out.1 HW.out.at'.out.1 (by simp)).mono ?_; rintro e1 w5 ⟨rfl, hb⟩; have HW := Lib.hid (HW.out.next hb); clear hb c21 c23; obtain ⟨-, c21, -, c23⟩ := stC_rest (vo := vo) (vt := .slice av s.out.length cv) HW.out.at'.len; have c23 := blk_cell HW.out.st _ _ c23))
          go_ret
          exact ⟨rfl, HW.out.below⟩
      · rw [hs] at HSP
        clear hs hsi
        have HRN := Lib.hid hrn
        have HLT := Lib.hid hlt'
        have HEQ := Lib.hid heq'
        have HC := Lib.hid hc
        clear hrn hlt' heq' hc
        by_cases hnf' : n = fuel
        · go_wp2_with (first
          | (refine wpList_loadB rfl 25 _ rfl w.heap.size (progC (.slice x p.types.length k) p (.slice x' p.code.length k')) rfl 25 HW.out.prog _ Tryd.underlying25 rfl prog_info ?_)
          | (refine wpList_loadB rfl 34 _ rfl b (stC s vo (.slice av s.out.length cv)) rfl 34 HW.out.st _ Tryd.underlying34 rfl (state_size HW.out.at'.len) ?_)
          | (go_at_call 12; refine (HSP.out _ (HW.out.below) HW.out.at').mono ?_; rintro e1 w4 ⟨vo2, vt2, rfl, hst2, hb⟩; have HT := Lib.hid hst2; have HW := Lib.hid (HW.out.next hb); have HN := Lib.hid (HN.out.below hb); clear hb hst2)
          | (have HBT : Hid (Below w4.heap.size w4 (putB (w4.alloc (.cells zeroS 34)) w4.heap.size (stC t vo2 vt2) 34)) := Lib.hid (((Below.refl _ _).alloc (Nat.le_refl _) _).trans (putB_below _ (Nat.le_refl _) _ _))
             refine wpList_putB rfl 34 _ _ rfl w4.heap.size (stC t vo2 vt2) rfl rfl 34 zeroS (blk_new w4 zeroS 34) (state_size HT.out.len) (by rw [stC_size HT.out.len]; rfl) HT.out.one ?_
             have HW := Lib.hid (HW.out.next HBT.out)
             have HN := Lib.hid (HN.out.below HBT.out)
             have HT := Lib.hid (HT.out.below HBT.out)
             have KT := Lib.hid (putB_at (blk_new w4 zeroS 34) (stC t vo2 vt2) 34)
             clear HBT
             obtain ⟨-, c21, -, c23⟩ := stC_rest (vo := vo) (vt := .slice av s.out.length cv) HW.out.at'.len
             have c21 := blk_cell HW.out.st _ _ c21
             have c23 := blk_cell HW.out.st _ _ c23))
          obtain ⟨hge, hse⟩ := HEQ.out hnf'
          have HQ2 : Hid ((n + 1 ≤ fuel ∧ ((checkL p).2 ≠ 0 → n + 1 = 0 ∧ s = st0) ∧ ((checkL p).2 = 0 → RunOk p s ts (n + 1) ∧ goL p (fuel - (n + 1)) s = goL p fuel st0)) ∨ (n + 1 = fuel + 1 ∧ (checkL p).2 = 0 ∧ goL p fuel st0 = (s, 10) ∧ s.steps ≤ fuel)) := Lib.hid (.inr ⟨by omega, HC.out, hge, hse⟩)
          go_roundw
          case rel => exact ⟨n + 1, s, ts, _, _, by omega, by go_num, rfl, HW, HN, HQ2⟩
          case measure => simp [intOf]; omega
        · have hnl : n < fuel := by omega
          go_wp2_with (first
          | (refine wpList_loadB rfl 25 _ rfl w.heap.size (progC (.slice x p.types.length k) p (.slice x' p.code.length k')) rfl 25 HW.out.prog _ Tryd.underlying25 rfl prog_info ?_)
          | (refine wpList_loadB rfl 34 _ rfl b (stC s vo (.slice av s.out.length cv)) rfl 34 HW.out.st _ Tryd.underlying34 rfl (state_size HW.out.at'.len) ?_)
          | (go_at_call 12; refine (HSP.out _ (HW.out.below) HW.out.at').mono ?_; rintro e1 w4 ⟨vo2, vt2, rfl, hst2, hb⟩; have HT := Lib.hid hst2; have HW := Lib.hid (HW.out.next hb); have HN := Lib.hid (HN.out.below hb); clear hb hst2)
          | (have HBT : Hid (Below w4.heap.size w4 (putB (w4.alloc (.cells zeroS 34)) w4.heap.size (stC t vo2 vt2) 34)) := Lib.hid (((Below.refl _ _).alloc (Nat.le_refl _) _).trans (putB_below _ (Nat.le_refl _) _ _))
             refine wpList_putB rfl 34 _ _ rfl w4.heap.size (stC t vo2 vt2) rfl rfl 34 zeroS (blk_new w4 zeroS 34) (state_size HT.out.len) (by rw [stC_size HT.out.len]; rfl) HT.out.one ?_
             have HW := Lib.hid (HW.out.next HBT.out)
             have HN := Lib.hid (HN.out.below HBT.out)
             have HT := Lib.hid (HT.out.below HBT.out)
             have KT := Lib.hid (putB_at (blk_new w4 zeroS 34) (stC t vo2 vt2) 34)
             clear HBT
             obtain ⟨-, c21, -, c23⟩ := stC_rest (vo := vo) (vt := .slice av s.out.length cv) HW.out.at'.len
             have c21 := blk_cell HW.out.st _ _ c21
             have c23 := blk_cell HW.out.st _ _ c23)
          | (refine wpList_loadB rfl 34 _ rfl w4.heap.size (stC t vo2 vt2) rfl 34 KT.out _ Tryd.underlying34 rfl (state_size HT.out.len) ?_)
          | (refine wpList_putB rfl 34 _ _ rfl b (stC t vo2 vt2) rfl rfl 34 _ HW.out.st (state_size HT.out.len) (by rw [stC_size HW.out.at'.len, stC_size HT.out.len]) HT.out.one ?_; have HWB := Lib.hid HW.out.st; have HW := Lib.hid (HW.out.put HT.out hbne hbge); have HN := Lib.hid (HN.out.putS (xs' := stC t vo2 vt2) HWB.out); clear HT KT))
          have HQ2 : Hid ((n + 1 ≤ fuel ∧ ((checkL p).2 ≠ 0 → n + 1 = 0 ∧ t = st0) ∧ ((checkL p).2 = 0 → RunOk p t ts' (n + 1) ∧ goL p (fuel - (n + 1)) t = goL p fuel st0)) ∨ (n + 1 = fuel + 1 ∧ (checkL p).2 = 0 ∧ goL p fuel st0 = (t, 10) ∧ t.steps ≤ fuel)) := Lib.hid (.inl ⟨by omega, fun h => absurd HC.out h, fun _ => ⟨HRN.out, HLT.out (by omega)⟩⟩)
          go_roundw
          case rel => exact ⟨n + 1, t, ts', _, _, by omega, by go_num, rfl, HW, HN, HQ2⟩
          case measure => simp [intOf]; omega
    · clear HQ
      obtain ⟨hl, hz⟩ := HG.out.1 hc
      rw [hg] at hl hz
      subst hl hz
      obtain ⟨av, cv, hvt, -, -⟩ := rowN_form HW.out.at'.out
      subst hvt
      have hsi : (s.steps : Int) ≤ (fuel : Int) := by omega
      obtain ⟨-, c21, -, c23⟩ := stC_rest (vo := vo) (vt := .slice av s.out.length cv) HW.out.at'.len
      have c21 := blk_cell HW.out.st _ _ c21
      have c23 := blk_cell HW.out.st _ _ c23
      go_wp2_with (go_at_call 17; refine (nums_n _ _ s.out s.out true _ HN.out.1 HW.out.at'.out.1 (by simp)).mono ?_; rintro e1 w5 ⟨rfl, hb⟩; have HW := Lib.hid (HW.out.next hb); clear hb c21 c23; obtain ⟨-, c21, -, c23⟩ := stC_rest (vo := vo) (vt := .slice av s.out.length cv) HW.out.at'.len; have c23 := blk_cell HW.out.st _ _ c23)
      go_ret
      exact ⟨rfl, HW.out.below⟩
theorem pieces_walk (v : Value) (p : PProg) (a : Int) (w : World) (h : ProgAt w v p) (hs : OkP p) (ha0 : 0 ≤ a) (ha : a ≤ 255) (ho : HasO w) : Calls Tryd.prog 8 #[v, .int .u8 a] w fun e w' => e = .returned (.bool true) ∧ Below w.heap.size w w' := by
  obtain ⟨vt, vc, rfl, ht, hc⟩ := id h
  have hwb : Below w.heap.size w (w.alloc (.cells (progC vt p vc) 25)) := (Below.refl _ _).alloc (Nat.le_refl _) _
  have HK := keep_new h
  obtain ⟨x, c, rfl, -, -, -⟩ := id ht.elems
  obtain ⟨x', c', rfl, -, -, -⟩ := id hc
  obtain ⟨ka, rfl⟩ : ∃ ka : Nat, a = ka := ⟨a.toNat, by omega⟩
  have ho' : ∀ {w1}, Below (w.alloc (.cells (progC (.slice x p.types.length c) p (.slice x' p.code.length c')) 25)).heap.size (w.alloc (.cells (progC (.slice x p.types.length c) p (.slice x' p.code.length c')) 25)) w1 → HasO w1 := fun hb1 => (ho.below hwb).below hb1
  have hp' : ∀ {w1}, Below (w.alloc (.cells (progC (.slice x p.types.length c) p (.slice x' p.code.length c')) 25)).heap.size (w.alloc (.cells (progC (.slice x p.types.length c) p (.slice x' p.code.length c')) 25)) w1 → ProgAt w1 _ p := fun hb1 => (h.below hwb).below hb1
  refine pieces_at w _ p ka (runL p ka).1 (runL p ka).2 (fewP p) x x' c c' rfl (Lib.hid HK) (Lib.hid hwb) (Lib.hid fun w1 hb1 => malive_n w1 (ho' hb1)) (Lib.hid fun w1 hb1 => few_b _ p _ w1 (hp' hb1) hs rfl)
    (Lib.hid fun w1 hb1 => run_z _ p w1 ka _ _ (hp' hb1) hs (ho' hb1) (by omega) rfl) (Lib.hid fun w1 s vo vt ts n hb1 hs1 hz hn hr => mstep_n _ p w1 s vo vt ts n (h.below hb1) hs (ho.below hb1) hs1 hz hn hr) (by omega) (Lib.hid hs) (Lib.hid ⟨fun hc0 => ?_, fun hc0 => ?_⟩)
  · unfold runL
    rw [if_neg (by omega), Int.toNat_natCast]
    exact ⟨rfl, rfl⟩
  · unfold runL
    rw [if_pos (.inl hc0)]
    exact ⟨rfl, rfl⟩
end Go.Proofs.YtmnoohpkjgjphaaDoor
