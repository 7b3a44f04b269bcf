/-
  FullTrue: the walk.
-/
import Derived.Test.YtbpijfncjboamaaDoorUAlive
import Derived.Test.YtbpijfncjboamaaDoorURun
import Derived.Deep.LoopGhost
import Derived.Deep.RegionHeld3
import Derived.Deep.CutRange
import Derived.Deep.CutBlock
import Derived.Deep.QuietTactic
namespace Go.Proofs.YtbpijfncjboamaaDoor
set_option linter.unusedSimpArgs false
set_option linter.unusedVariables false
open Go.RowKit

set_option maxRecDepth 100000 in
set_option maxHeartbeats 8000000 in
theorem utrue_at (w W0 : World) (p : PProg) (a0 : Nat) (x : Option Addr) (bb o kx kx' : Nat)
    (hW0 : W0 = w.alloc (.cells (progC (.slice x p.types.length kx) p (.slice (some ⟨bb, o, none⟩) p.code.length kx')) 25)) (KP : Hid (Keep W0 w.heap.size (.slice x p.types.length kx) (.slice (some ⟨bb, o, none⟩) p.code.length kx') p)) (HB : Hid (Below w.heap.size w W0))
    (HAL : Hid (∀ w1, Calls Tryd.prog 8 #[] w1 (AggPost w1 (.bool true))))
    (HSO : Hid (∀ w1, ProgAt w1 (.agg (progC (.slice x p.types.length kx) p (.slice (some ⟨bb, o, none⟩) p.code.length kx'))) p → Below w.heap.size w w1 → Calls Tryd.prog 9 #[.agg (progC (.slice x p.types.length kx) p (.slice (some ⟨bb, o, none⟩) p.code.length kx'))] w1 (AggPost w1 (.bool (soundB p)))))
    (g2 : kx' ≤ 9223372036854775807) (g1 : p.code.length ≤ kx') (ha0 : a0 ≤ 255) (HOK : Hid (OkP p))
    (HLA : Hid (soundB p = true → ∀ (w1 : World) (k : Int), ProgAt w1 (.agg (progC (.slice x p.types.length kx) p (.slice (some ⟨bb, o, none⟩) p.code.length kx'))) p → Calls Tryd.prog 11 #[.agg #[.slice x p.types.length kx, str p.locals, str p.globs, .slice (some ⟨bb, o, none⟩) p.code.length kx'], .int .i64 k] w1 (AggPost w1 (.int .i64 (lastV p k)))))
    (HLO : Hid (∀ (w1 : World) (a : Int), 0 ≤ a → a ≤ 255 → ProgAt w1 (.agg (progC (.slice x p.types.length kx) p (.slice (some ⟨bb, o, none⟩) p.code.length kx'))) p → soundB p = true → Calls Tryd.prog 15 #[.agg #[.slice x p.types.length kx, str p.locals, str p.globs, .slice (some ⟨bb, o, none⟩) p.code.length kx'], .int .u8 a] w1 (AggPost w1 (.int .i64 (localI p a)))))
    (HSZ : Hid (∀ (w1 : World) (t : Int), Below w.heap.size w w1 → Calls Tryd.prog 14 #[.slice x p.types.length kx, .int .i64 t] w1 fun e w' => e = .returned (.int .i64 (sizeP p.types t)) ∧ w1 = w'))
    (HSA : Hid (∀ (w1 : World) (k : Int), ProgAt w1 (.agg (progC (.slice x p.types.length kx) p (.slice (some ⟨bb, o, none⟩) p.code.length kx'))) p → Calls Tryd.prog 13 #[.agg #[.slice x p.types.length kx, str p.locals, str p.globs, .slice (some ⟨bb, o, none⟩) p.code.length kx'], .int .i64 k] w1 (AggPost w1 (.bool (safeV p k)))))
    (HCO : Hid (∀ w1, Below w.heap.size w w1 → ∀ m i, p.code[m]? = some i → w1.rangeAt bb (o + m * 5) (insC i).toList))
    (HPA : Hid (∀ w1, Below w.heap.size w w1 → ProgAt w1 (.agg (progC (.slice x p.types.length kx) p (.slice (some ⟨bb, o, none⟩) p.code.length kx'))) p))
    (HST : Hid (soundB p = true → ∀ w1 s vo vt ts n, Below w.heap.size w w1 → StN w1 vo vt s → SizeOk s → n ≤ 1000000 → RunOk p s ts n → Calls Tryd.prog 16 #[.agg (progC (.slice x p.types.length kx) p (.slice (some ⟨bb, o, none⟩) p.code.length kx')), .agg (stC s vo vt)] w1 (StepPost w1 (stepL p s)))) :
    Calls Tryd.prog 4 #[.agg (progC (.slice x p.types.length kx) p (.slice (some ⟨bb, o, none⟩) p.code.length kx')), .int .u8 a0] w (AggPost w (.bool true)) := by
  go_enter Tryd.func4, Tryd.ntmps4
  go_upto_region 1 with (fail)
  rw [← hW0]
  clear hW0
  rcases hsd : soundB p with _ | _
  · rw [hsd] at HSO
    go_wp2_with (first
      | (refine wpList_loadB rfl 25 _ rfl w.heap.size (progC (.slice x p.types.length kx) p (.slice (some ⟨bb, o, none⟩) p.code.length kx')) rfl 25 KP.out.blk _ Tryd.underlying25 rfl prog_info ?_)
      | (go_at_call 8; ((with_reducible refine (HAL.out _).mono ?_); rintro e w1 ⟨rfl, hb⟩; have KP := Lib.hid (KP.out.below hb); have HB := Lib.hid (HB.out.trans (hb.mono HB.out.size)); clear hb))
      | (go_at_call 9; ((with_reducible refine (HSO.out _ KP.out.at' HB.out).mono ?_); rintro e w2 ⟨rfl, hb⟩; have KP := Lib.hid (KP.out.below hb); have HB := Lib.hid (HB.out.trans (hb.mono HB.out.size)); clear hb)))
    go_ret
    exact ⟨rfl, HB.out⟩
  have HLA := Lib.hid (HLA.out hsd)
  have HLO := Lib.hid (fun w1 a h0 h1 hp => HLO.out w1 a h0 h1 hp hsd)
  have HST := Lib.hid (HST.out hsd)
  obtain ⟨hfw, hl60, hck, hin0, hl1⟩ := sound_parts hsd
  have HIN := Lib.hid hin0
  have HCK := Lib.hid hck
  rw [hsd] at HSO
  clear hin0 hck hsd
  go_upto_region 3 with (first
    | (refine wpList_loadB rfl 25 _ rfl w.heap.size (progC (.slice x p.types.length kx) p (.slice (some ⟨bb, o, none⟩) p.code.length kx')) rfl 25 KP.out.blk _ Tryd.underlying25 rfl prog_info ?_)
    | (refine wpList_loadBw (by rfl) 25 _ rfl w.heap.size (progC (.slice x p.types.length kx) p (.slice (some ⟨bb, o, none⟩) p.code.length kx')) rfl 25 KP.out.blk _ Tryd.underlying25 rfl prog_info ?_)
    | (go_at_call 8; ((with_reducible refine (HAL.out _).mono ?_); rintro e w1 ⟨rfl, hb⟩; have KP := Lib.hid (KP.out.below hb); have HB := Lib.hid (HB.out.trans (hb.mono HB.out.size)); clear hb))
    | (go_at_call 9; ((with_reducible refine (HSO.out _ KP.out.at' HB.out).mono ?_); rintro e w2 ⟨rfl, hb⟩; have KP := Lib.hid (KP.out.below hb); have HB := Lib.hid (HB.out.trans (hb.mono HB.out.size)); clear hb)))
  have hmm := @run_makeMap_plain Tryd.prog
  clear HSO HAL
  go_upto_region 6 with (fail)
  have hw0 := TuW.start HB.out KP.out.blk
  generalize hwb : (w1.alloc (.cells zeroS 36)).alloc (.map #[] 0) = wb at hw0 ⊢
  clear hwb
  generalize hB : w1.heap.size + 1 = r0 at hw0 ⊢
  clear hB
  generalize hB : w1.heap.size = b at hw0 ⊢
  clear hB
  have HW0 := Lib.hid hw0
  have HR0 := Lib.hid (run_0 p)
  clear hw0 KP HB
  go_wp2_with (fail)
  go_loopw [6, 7, 8, 9, 25] (fun v6 v7 v8 v9 v25 wr => ∃ (n r : Nat) (s : PSt) (ts : List Nat) (vo vt : Value) (fr la a : Int) (had : List Bool), n ≤ a0 ∧ -1 ≤ fr ∧ fr ≤ 100 ∧ v6 = .int .i64 fr ∧ v7 = .int .i64 la ∧ v8 = .map (some r) ∧ v9 = .int .u8 a ∧ v25 = .int .i64 n ∧ Hid (TuW w wr b r (progC (.slice x p.types.length kx) p (.slice (some ⟨bb, o, none⟩) p.code.length kx')) s vo vt had) ∧ Hid (RunOk p s ts n) ∧ Hid (ActU p s fr la a had)) (fun _ _ _ _ v25 _ => a0 - (intOf v25).toNat)
  case atStart => exact ⟨0, r0, st0, [], _, _, -1, -1, 0, nought6, Nat.zero_le _, by omega, by omega, rfl, rfl, rfl, rfl, rfl, HW0, HR0, Lib.hid (.inl rfl)⟩
  case round =>
    clear HW0 HR0
    obtain ⟨n, r, s, ts, vo, vt, fr, la, a, had, hn, hf0, hf1, rfl, rfl, rfl, rfl, rfl, HW, HR, HA⟩ := hrel
    by_cases hna : n < a0
    · have hni : (n : Int) < (a0 : Int) := by omega
      have hpc := HR.out.pc
      have p3 : wr.cell? ⟨w.heap.size, 3, none⟩ = some (.slice (some ⟨bb, o, none⟩) p.code.length kx') := blk_cell HW.out.prog 3 _ rfl
      have c22 : wr.cell? ⟨b, 22, none⟩ = some (.int .i64 (s.pc : Int)) := blk_cell HW.out.st _ _ (stC_rest (vo := vo) (vt := vt) HW.out.at'.len).2.2.1
      by_cases hpl : p.code.length ≤ s.pc
      · have hpi : (p.code.length : Int) ≤ (s.pc : Int) := by omega
        clear hmm
        go_wp2
        go_ret
        exact ⟨rfl, HW.out.below⟩
      have hpi : ¬ ((p.code.length : Int) ≤ (s.pc : Int)) := by omega
      have hpj : (s.pc : Int) < (p.code.length : Int) := by omega
      have hp0 : (0 : Int) ≤ (s.pc : Int) := by omega
      obtain ⟨i, hi⟩ : ∃ i, p.code[s.pc]? = some i := ⟨_, List.getElem?_eq_getElem (by omega)⟩
      have hrg := HCO.out _ HW.out.below s.pc i hi
      have HII := Lib.hid hi
      obtain ⟨op, ia, bI, cI, nI⟩ := i
      obtain ⟨d0, d1, d2, d3, d4⟩ : (wr.cell? ⟨bb, o + s.pc * 5, none⟩ = some (.int .u8 op)) ∧ wr.cell? ⟨bb, o + s.pc * 5 + 1, none⟩ = some (.int .u8 ia) ∧ wr.cell? ⟨bb, o + s.pc * 5 + 2, none⟩ = some (.int .u8 bI) ∧ wr.cell? ⟨bb, o + s.pc * 5 + 3, none⟩ = some (.int .u8 cI) ∧ wr.cell? ⟨bb, o + s.pc * 5 + 4, none⟩ = some (.int .i64 nI) := ⟨hrg 0 _ rfl, hrg 1 _ rfl, hrg 2 _ rfl, hrg 3 _ rfl, hrg 4 _ rfl⟩
      clear hrg hi
      go_upto_region 12 with (fail)
      clear d0 d1 d2 d3 d4 p3 c22
      have hab : Below wr.heap.size wr (wr.alloc (.cells (insC ⟨op, ia, bI, cI, nI⟩) 39)) := (Below.refl _ _).alloc (Nat.le_refl _) _
      have HW := Lib.hid (HW.out.next hab)
      have HI : Hid (blk (wr.alloc (.cells (insC ⟨op, ia, bI, cI, nI⟩) 39)) wr.heap.size (insC ⟨op, ia, bI, cI, nI⟩) 39) := Lib.hid (blk_new _ _ _)
      obtain ⟨I, hI⟩ : ∃ I, I = wr.heap.size := ⟨_, rfl⟩
      obtain ⟨wa, hwa⟩ : ∃ wa, wa = wr.alloc (.cells (insC ⟨op, ia, bI, cI, nI⟩) 39) := ⟨_, rfl⟩
      rw [← hwa] at HW HI ⊢
      rw [← hI] at HI ⊢
      clear hab hwa hI
      go_upto_if 40 with (fail)
      go_cut [6, 7] from 39 to 116 (fun v6 v7 wx => ∃ (fr2 la2 : Int) (had2 : List Bool), -1 ≤ fr2 ∧ fr2 ≤ 100 ∧ v6 = .int .i64 fr2 ∧ v7 = .int .i64 la2 ∧ Hid (TuW w wx b r (progC (.slice x p.types.length kx) p (.slice (some ⟨bb, o, none⟩) p.code.length kx')) s vo vt had2) ∧ Hid (blk wx I (insC ⟨op, ia, bI, cI, nI⟩) 39) ∧ Hid (PstU p s ⟨op, ia, bI, cI, nI⟩ fr2 la2 a had2) ∧ Hid (op = 5 → la2 = -1))
      case first =>
        clear hmm HST HLA
        rcases HA.out with rfl | ⟨k, nn, i0, hla, hia0, rfl, hk1, hk2, hfr, hpa, hhad⟩
        · go_wp2
          go_meet
          exact ⟨fr, -1, had, hf0, hf1, rfl, rfl, HW, HI, Lib.hid (.inl rfl), Lib.hid fun _ => rfl⟩
        have hor := act_ins (fr := fr) hla hia0 hk1 hk2 HII.out
        have hnn0 : (0 : Int) ≤ (nn : Int) := by omega
        have hnn1 : ¬ ((nn : Int) < 0) := by omega
        have hlen := hla.len
        have h60 : (s.pc : Int) ≤ 60 := by omega
        have h1 : ¬ ((s.pc : Int) ≤ fr) := by omega
        have h2 : ¬ ((nn : Int) < (s.pc : Int)) := by omega
        have hopS : op ≠ 3 ∧ op ≠ 4 ∧ op ≠ 5 ∧ op ≠ 8 ∧ op ≠ 10 ∧ op ≠ 12 ∧ op ≠ 13 := by
          rcases hor with h | ⟨_, h⟩
          · have := (puts_iff.1 h).1; simp only at this; omega
          · have := pass_iff.1 h; simp only at this; omega
        have hsl : safeL p s.pc = false := by
          unfold safeL; rw [HII.out]; simp [hopS.1, hopS.2.1, hopS.2.2.1]
        have hsv : safeV p (s.pc : Int) = false := by unfold safeV; simp [hsl]
        have HSF : Hid (∀ w1, ProgAt w1 (.agg (progC (.slice x p.types.length kx) p (.slice (some ⟨bb, o, none⟩) p.code.length kx'))) p → Calls Tryd.prog 13 #[.agg #[.slice x p.types.length kx, str p.locals, str p.globs, .slice (some ⟨bb, o, none⟩) p.code.length kx'], .int .i64 s.pc] w1 (AggPost w1 (.bool false))) := Lib.hid fun w1 h1 => by rw [← hsv]; exact HSA.out w1 s.pc h1
        have q8 : (op == 8) = false := by simpa using hopS.2.2.2.1
        have q10 : (op == 10) = false := by simpa using hopS.2.2.2.2.1
        have q12 : (op == 12) = false := by simpa using hopS.2.2.2.2.2.1
        have q13 : (op == 13) = false := by simpa using hopS.2.2.2.2.2.2
        have H5 : Hid (op = 5 → False) := Lib.hid hopS.2.2.1
        have HLT := Lib.hid hla
        have HFR := Lib.hid hfr
        have HPP := Lib.hid hpa
        have HHD := Lib.hid hhad
        have HOR := Lib.hid hor
        have HIA := Lib.hid hia0
        clear hla hfr hpa hhad hor hia0 hopS hsl hsv HSA HA
        have c0 : wa.cell? ⟨I, 0, none⟩ = some (.int .u8 op) := blk_cell HI.out 0 _ rfl
        have c1 : wa.cell? ⟨I, 1, none⟩ = some (.int .u8 ia) := blk_cell HI.out 1 _ rfl
        have c4 : wa.cell? ⟨I, 4, none⟩ = some (.int .i64 nI) := blk_cell HI.out 4 _ rfl
        have c22 : wa.cell? ⟨b, 22, none⟩ = some (.int .i64 (s.pc : Int)) := blk_cell HW.out.st _ _ (stC_rest (vo := vo) (vt := vt) HW.out.at'.len).2.2.1
        go_upto_region 15 with (first
          | (refine wpList_loadB rfl 25 _ rfl w.heap.size (progC (.slice x p.types.length kx) p (.slice (some ⟨bb, o, none⟩) p.code.length kx')) rfl 25 HW.out.prog _ Tryd.underlying25 rfl prog_info ?_)
          | (go_at_call 13; ((with_reducible refine (HSF.out _ (HPA.out _ HW.out.below)).mono ?_); rintro e ws ⟨rfl, hb⟩; have HW := Lib.hid (HW.out.next hb); have HI := Lib.hid (blk_below HI.out hb); clear hb c0 c1 c4 c22; have c0 : ws.cell? ⟨I, 0, none⟩ = some (.int .u8 op) := blk_cell HI.out 0 _ rfl; have c1 : ws.cell? ⟨I, 1, none⟩ = some (.int .u8 ia) := blk_cell HI.out 1 _ rfl; have c4 : ws.cell? ⟨I, 4, none⟩ = some (.int .i64 nI) := blk_cell HI.out 4 _ rfl; have c22 : ws.cell? ⟨b, 22, none⟩ = some (.int .i64 (s.pc : Int)) := blk_cell HW.out.st _ _ (stC_rest (vo := vo) (vt := vt) HW.out.at'.len).2.2.1)))
        clear HSF q8 q10 q12 q13
        by_cases hpu : putsI ⟨op, ia, bI, cI, nI⟩ a = true
        · obtain ⟨ho, hia⟩ := puts_iff.1 hpu
          simp only at ho hia
          have h6 := puts_six HCK.out HOK.out.ins (List.mem_of_getElem? HII.out) hpu
          simp only at h6
          obtain ⟨nN, rfl⟩ : ∃ nN : Nat, nI = nN := ⟨nI.toNat, by omega⟩
          have hn6 : nN < had.length := by have := HW.out.len; omega
          obtain ⟨es, ce, HU, hm2⟩ := setc_put HW.out.set hn6
          have HW2 := Lib.hid (HW.out.mark (c := ce) hm2 (by rw [List.length_set]; exact HW.out.len))
          have hIr : I ≠ r := HW.out.set.ne HI.out
          have HI2 : Hid (blk (putO ws r (.map es ce)) I (insC ⟨op, ia, bI, cI, (nN : Int)⟩) 39) := Lib.hid (by unfold blk; rw [putO_ne _ hIr]; exact HI.out)
          have HES := Lib.hid hm2
          have HHD2 : Hid (had.set nN true = hadL a nought6 (segL p k (s.pc + 1))) := Lib.hid (by
            rw [seg_next HII.out hk1, hadL_snoc, if_pos hpu, ← HHD.out]; simp)
          have HES2 : Hid ((putO ws r (.map es ce)).heap[r]? = some (.map es ce)) := Lib.hid (by
            obtain ⟨e9, c9, h9, -⟩ := HW.out.set
            exact putO_at (Array.getElem?_eq_some_iff.1 h9).1 _)
          subst hia
          clear hpu h6 hm2 HW HI hn6 hIr HOR
          have HW := HW2
          have HI := HI2
          clear HW2 HI2
          have hq : ((op == 9) = true ∨ ((op == 9) = false ∧ (op == 11) = true)) := by
            rcases ho with h | h
            · exact .inl (by simpa using h)
            · exact .inr ⟨by simp; omega, by simpa using h⟩
          have HQO : Hid (op = 9 ∨ op = 11) := Lib.hid ho
          clear ho
          have e5 : (fr + 1 != (s.pc : Int)) = false := by have := HFR.out; simp; omega
          have hf2 : -1 ≤ fr + 1 ∧ fr + 1 ≤ 100 := by have := HFR.out; omega
          have HLO1 := Lib.hid (fun w1 => HLO.out w1 ia)
          rcases hq with q9 | ⟨q9, q11⟩
          all_goals
            go_upto_region 17 with (fail)
            clear HU c0 c1 c4 c22
            generalize putO ws r (.map es ce) = wm at HW HI HES2 ⊢
            have c22 : wm.cell? ⟨b, 22, none⟩ = some (.int .i64 (s.pc : Int)) := blk_cell HW.out.st _ _ (stC_rest (vo := vo) (vt := vt) HW.out.at'.len).2.2.1
            by_cases hpn : s.pc = nn
            · have hall := HLT.out.all
              rw [HIA.out, ← hpn, ← HHD2.out, ← HES.out.2.2] at hall
              have h07 := a_seven HCK.out HOK.out.ins (List.mem_of_getElem? HLT.out.hi) HLT.out.h5
              rw [HIA.out] at h07
              have HLO2 := Lib.hid (fun w1 => HLO1.out w1 (by omega) (by omega))
              have HSA2 := Lib.hid (fun w1 => HSZ.out w1 (localI p ia))
              generalize sizeP p.types (localI p ia) = S at hall HSA2
              generalize localI p ia = lt at HLO2 HSA2
              have e9 : ((es.size : Int) != S) = false := by simp; omega
              have eq9 : ((s.pc : Int) == (nn : Int)) = true := by simp; omega
              have hlm := fun (ty : TypeId) (w' : World) (h : w'.heap[r]? = some (.map es ce)) => run_len_map (P := Tryd.prog) (w := w') 37 ty r es ce (by kernel_rfl) h
              have HFA : Hid (∀ w', TuW w w' b r (progC (.slice x p.types.length kx) p (.slice (some ⟨bb, o, none⟩) p.code.length kx')) s vo vt (had.set nN true) → Below wm.heap.size wm w' → w'.heap[r]? = some (.map es ce) ∧ w'.cell? ⟨w.heap.size, 0, none⟩ = some (.slice x p.types.length kx) ∧ w'.cell? ⟨w.heap.size, 1, none⟩ = some (str p.locals) ∧ w'.cell? ⟨w.heap.size, 2, none⟩ = some (str p.globs) ∧ w'.cell? ⟨w.heap.size, 3, none⟩ = some (.slice (some ⟨bb, o, none⟩) p.code.length kx')) := Lib.hid fun w' hq hb9 => ⟨by rw [hb9.block _ (Array.getElem?_eq_some_iff.1 HES2.out).1]; exact HES2.out, blk_cell hq.prog 0 _ rfl, blk_cell hq.prog 1 _ rfl, blk_cell hq.prog 2 _ rfl, blk_cell hq.prog 3 _ rfl⟩
              have HMW := Lib.hid (Below.refl wm.heap.size wm)
              clear HES HHD2 HHD HPP HLT HII hall h07 HLO1 HLO HSZ H5 hpn
              go_upto_region 18 with (fail)
              clear c22
              obtain ⟨hmp, p0, p1, p2, p3⟩ := HFA.out _ HW.out HMW.out
              have HW := Lib.hid (HW.out.next (Below.refl _ _).drew)
              have HI := Lib.hid (blk_below HI.out (Below.refl _ _).drew)
              have HMW := Lib.hid (HMW.out.drew)
              go_region_held3 (fun w' => w'.heap[r]? = some (.map es ce) ∧ w'.cell? ⟨w.heap.size, 0, none⟩ = some (.slice x p.types.length kx) ∧ w'.cell? ⟨w.heap.size, 1, none⟩ = some (str p.locals) ∧ w'.cell? ⟨w.heap.size, 2, none⟩ = some (str p.globs) ∧ w'.cell? ⟨w.heap.size, 3, none⟩ = some (.slice (some ⟨bb, o, none⟩) p.code.length kx')) (first | exact ⟨hmp, by go_keep⟩ | go_keep) (first
                | (go_at_call 15; ((with_reducible refine (HLO2.out _ (HPA.out _ HW.out.below)).mono ?_); rintro e wy ⟨rfl, hb⟩; have HI := Lib.hid (blk_below HI.out hb); have HMW := Lib.hid (HMW.out.trans (hb.mono HMW.out.size)); have HW := Lib.hid (HW.out.next hb); clear hb hmp p0 p1 p2 p3; obtain ⟨hmp, p0, p1, p2, p3⟩ := HFA.out _ HW.out HMW.out))
                | (go_at_call 14; ((with_reducible refine (HSA2.out _ HW.out.below).mono ?_); rintro e wz ⟨rfl, rfl⟩)))
              all_goals
                clear hmp p0 p1 p2 p3 HFA HLO2 HSA2
                have c22 : wy.cell? ⟨b, 22, none⟩ = some (.int .i64 (s.pc : Int)) := blk_cell HW.out.st _ _ (stC_rest (vo := vo) (vt := vt) HW.out.at'.len).2.2.1
                go_wp2
                go_meet
                exact ⟨fr + 1, -1, had.set nN true, hf2.1, hf2.2, by go_num, rfl, HW, HI, Lib.hid (.inl rfl), Lib.hid fun _ => rfl⟩
            · have hpl2 : s.pc < nn := by omega
              have eq9 : ((s.pc : Int) == (nn : Int)) = false := by simp; omega
              have HPS : Hid (PstU p s ⟨op, ia, bI, cI, (nN : Int)⟩ (fr + 1) (nn : Int) ia (had.set nN true)) := Lib.hid (.inr ⟨k, nn, i0, HLT.out, HIA.out, rfl, hpl2, by have := HFR.out; omega, HHD2.out, .inr ⟨hk1, fun h => H5.out h, HPP.out, .inl (by unfold putsI; simp only [Bool.and_eq_true, decide_eq_true_eq]; exact ⟨HQO.out, trivial⟩)⟩⟩)
              clear HES HES2 HHD2 HHD HPP HLT HII HLO1 HLO HSZ hpn
              go_wp2
              go_meet
              exact ⟨fr + 1, (nn : Int), had.set nN true, hf2.1, hf2.2, by go_num, rfl, HW, HI, HPS, Lib.hid fun h => (H5.out h).elim⟩
        · have hpas : s.pc < nn ∧ passI ⟨op, ia, bI, cI, nI⟩ a = true := HOR.out.resolve_left hpu
          have hpo := pass_iff.1 hpas.2
          simp only at hpo
          have q9 : (op == 9) = false := by simp; omega
          have q11 : (op == 11) = false := by simp; omega
          have e5 : (fr + 1 != (s.pc : Int)) = false := by have := HFR.out; simp; omega
          have hf2 : -1 ≤ fr + 1 ∧ fr + 1 ≤ 100 := by have := HFR.out; omega
          have eq9 : ((s.pc : Int) == (nn : Int)) = false := by simp; omega
          have HPS : Hid (PstU p s ⟨op, ia, bI, cI, nI⟩ (fr + 1) (nn : Int) a had) := Lib.hid (.inr ⟨k, nn, i0, HLT.out, HIA.out, rfl, hpas.1, by have := HFR.out; omega, by rw [seg_next HII.out hk1, hadL_snoc, if_neg hpu]; exact HHD.out, .inr ⟨hk1, fun h => H5.out h, HPP.out, .inr hpas.2⟩⟩)
          clear HHD HPP HLT HII HLO HSZ hpas hpo hpu HOR
          go_wp2
          go_meet
          exact ⟨fr + 1, (nn : Int), had, hf2.1, hf2.2, by go_num, rfl, HW, HI, HPS, Lib.hid fun h => (H5.out h).elim⟩
      case rest =>
        obtain ⟨fr2, la2, had2, hg0, hg1, rfl, rfl, HW, HI, HPS, H5L⟩ := hcut
        clear HA HLO HSZ HSA
        have HLM : Hid (∀ w1, ProgAt w1 (.agg (progC (.slice x p.types.length kx) p (.slice (some ⟨bb, o, none⟩) p.code.length kx'))) p → Calls Tryd.prog 11 #[.agg #[.slice x p.types.length kx, str p.locals, str p.globs, .slice (some ⟨bb, o, none⟩) p.code.length kx'], .int .i64 s.pc] w1 (AggPost w1 (.int .i64 (lastL p s.pc)))) := Lib.hid fun w1 h1 => by rw [← lastV_nat (by omega)]; exact HLA.out w1 s.pc h1
        have h60 : (s.pc : Int) ≤ 60 := by omega
        have c0 : wc.cell? ⟨I, 0, none⟩ = some (.int .u8 op) := blk_cell HI.out 0 _ rfl
        have c1 : wc.cell? ⟨I, 1, none⟩ = some (.int .u8 ia) := blk_cell HI.out 1 _ rfl
        have c4 : wc.cell? ⟨I, 4, none⟩ = some (.int .i64 nI) := blk_cell HI.out 4 _ rfl
        have c22 : wc.cell? ⟨b, 22, none⟩ = some (.int .i64 (s.pc : Int)) := blk_cell HW.out.st _ _ (stC_rest (vo := vo) (vt := vt) HW.out.at'.len).2.2.1
        go_upto_if 119 with (fail)
        go_cut [6, 7, 8, 9] from 117 to 128 (fun v6 v7 v8 v9 wx => ∃ (fr3 la3 a3 : Int) (r3 : Nat) (had3 : List Bool), -1 ≤ fr3 ∧ fr3 ≤ 100 ∧ v6 = .int .i64 fr3 ∧ v7 = .int .i64 la3 ∧ v8 = .map (some r3) ∧ v9 = .int .u8 a3 ∧ Hid (TuW w wx b r3 (progC (.slice x p.types.length kx) p (.slice (some ⟨bb, o, none⟩) p.code.length kx')) s vo vt had3) ∧ Hid (PstU p s ⟨op, ia, bI, cI, nI⟩ fr3 la3 a3 had3))
        case first =>
          clear HST
          by_cases h5 : op = 5
          · have q5 : (op == 5) = true := by simpa using h5
            have HPN : Hid (PstU p s ⟨op, ia, bI, cI, nI⟩ (s.pc : Int) (lastL p s.pc) ia nought6) := Lib.hid (by
              rcases lastL_or (q := p) s.pc with hl | ⟨n', hl, hl1, hl2⟩
              · exact .inl hl
              · obtain ⟨i9, h9⟩ := last_at HCK.out HOK.out.ins hl
                have e9 : i9 = ⟨op, ia, bI, cI, nI⟩ := Option.some.inj (h9.hi.symm.trans HII.out)
                exact .inr ⟨s.pc, n', i9, h9, by rw [e9], hl, hl1, rfl, by rw [seg_0]; rfl, .inl ⟨rfl, h5⟩⟩)
            generalize lastL p s.pc = z at HLM HPN
            clear h5 HPS H5L HLA HII
            have HFA : Hid (∀ w', TuW w w' b r (progC (.slice x p.types.length kx) p (.slice (some ⟨bb, o, none⟩) p.code.length kx')) s vo vt had2 → blk w' I (insC ⟨op, ia, bI, cI, nI⟩) 39 → w'.cell? ⟨b, 22, none⟩ = some (.int .i64 (s.pc : Int)) ∧ w'.cell? ⟨I, 1, none⟩ = some (.int .u8 ia) ∧ w'.cell? ⟨w.heap.size, 0, none⟩ = some (.slice x p.types.length kx) ∧ w'.cell? ⟨w.heap.size, 1, none⟩ = some (str p.locals) ∧ w'.cell? ⟨w.heap.size, 2, none⟩ = some (str p.globs) ∧ w'.cell? ⟨w.heap.size, 3, none⟩ = some (.slice (some ⟨bb, o, none⟩) p.code.length kx')) := Lib.hid fun w' hq hi9 => ⟨blk_cell hq.st _ _ (stC_rest (vo := vo) (vt := vt) hq.at'.len).2.2.1, blk_cell hi9 1 _ rfl, blk_cell hq.prog 0 _ rfl, blk_cell hq.prog 1 _ rfl, blk_cell hq.prog 2 _ rfl, blk_cell hq.prog 3 _ rfl⟩
            go_upto_region 25 with (fail)
            clear c0 c1 c4 c22
            obtain ⟨c22, c1, p0, p1, p2, p3⟩ := HFA.out _ HW.out HI.out
            have HW := Lib.hid (HW.out.next (Below.refl _ _).drew)
            have HI := Lib.hid (blk_below HI.out (Below.refl _ _).drew)
            go_region_held3 (fun w' => w'.cell? ⟨b, 22, none⟩ = some (.int .i64 (s.pc : Int)) ∧ w'.cell? ⟨I, 1, none⟩ = some (.int .u8 ia) ∧ w'.cell? ⟨w.heap.size, 0, none⟩ = some (.slice x p.types.length kx) ∧ w'.cell? ⟨w.heap.size, 1, none⟩ = some (str p.locals) ∧ w'.cell? ⟨w.heap.size, 2, none⟩ = some (str p.globs) ∧ w'.cell? ⟨w.heap.size, 3, none⟩ = some (.slice (some ⟨bb, o, none⟩) p.code.length kx')) (go_keep) (first
              | (go_at_call 11; ((with_reducible refine (HLM.out _ (HPA.out _ HW.out.below)).mono ?_); rintro e wy ⟨rfl, hb⟩; have HI := Lib.hid (blk_below HI.out hb); have HW := Lib.hid (HW.out.next hb); clear hb c22 c1 p0 p1 p2 p3; obtain ⟨c22, c1, p0, p1, p2, p3⟩ := HFA.out _ HW.out HI.out)))
            all_goals
              clear c22 c1 p0 p1 p2 p3 HFA HLM
              have HWN := Lib.hid HW.out.newM
              go_wp2
              go_meet
              exact ⟨(s.pc : Int), z, ia, _, nought6, by omega, by omega, rfl, rfl, rfl, rfl, HWN, HPN⟩
          · have q5 : (op == 5) = false := by simpa using h5
            clear h5 HLA HLM hmm HII H5L
            go_wp2
            go_meet
            exact ⟨fr2, la2, a, r, had2, hg0, hg1, rfl, rfl, rfl, rfl, HW, HPS⟩
        case rest =>
          obtain ⟨fr3, la3, a3, r3, had3, hg2, hg3, rfl, rfl, rfl, rfl, HW, HPS⟩ := hcut
          clear HI HLM HLA H5L c0 c1 c4 c22 hmm
          have hsz := size_run HCK.out HR.out (by omega)
          have HSP : Hid (∀ w1, Below w.heap.size w w1 → StN w1 vo vt s → Calls Tryd.prog 16 #[.agg (progC (.slice x p.types.length kx) p (.slice (some ⟨bb, o, none⟩) p.code.length kx')), .agg (stC s vo vt)] w1 (StepPost w1 (stepL p s))) := Lib.hid fun w1 hb1 hs1 => HST.out w1 s vo vt ts n hb1 hs1 hsz (by omega) HR.out
          have hcase : (la3 = -1 ∧ ∃ (d : Bool) (z : Nat), stepL p s = (s, d, z) ∧ (d = true ∨ z ≠ 0)) ∨ ∃ t ts', stepL p s = (t, false, 0) ∧ RunOk p t ts' (n + 1) ∧ ActU p t fr3 la3 a3 had3 := by
            rcases pst_step HCK.out HOK.out.ins HR.out.inv.lp HII.out HPS.out with ⟨hl, hall⟩ | ⟨t, hd, ha⟩
            · rcases step_one HCK.out HR.out with ⟨_, he⟩ | ⟨i, hi, _, ⟨hd, he⟩ | ⟨t, hd, he⟩⟩
              · exact .inl ⟨hl, true, 0, he, .inl rfl⟩
              · exact .inl ⟨hl, false, 9, he, .inr (by decide)⟩
              · obtain ⟨ts', hrn, _⟩ := run_next HCK.out HOK.out.ins (by omega) HR.out hi hd
                exact .inr ⟨t, ts', he, hrn, hall t⟩
            · obtain ⟨ts', hrn, _⟩ := run_next HCK.out HOK.out.ins (by omega) HR.out HII.out hd
              have he := step_at HCK.out HII.out
              rw [hd] at he
              exact .inr ⟨t, ts', he, hrn, ha⟩
          have HCA := Lib.hid hcase
          clear hcase hsz HST HII HPS
          rcases HCA.out with ⟨rfl, d, z, hs', hdz⟩ | ⟨t, ts', hs', hrn, han⟩
          · rw [hs'] at HSP
            clear hs' HCA
            rcases d with _ | _
            · have ez : ((z : Int) != 0) = true := by have := hdz.resolve_left (by decide); simp; omega
              have ez2 : ((z : Int) == 0) = false := by have := hdz.resolve_left (by decide); simp; omega
              clear hdz
              go_wp2_with (first
                | (refine wpList_loadB rfl 25 _ rfl w.heap.size (progC (.slice x p.types.length kx) p (.slice (some ⟨bb, o, none⟩) p.code.length kx')) rfl 25 HW.out.prog _ Tryd.underlying25 rfl prog_info ?_)
                | (refine wpList_loadB rfl 36 _ rfl b (stC s vo vt) rfl 36 HW.out.st _ Tryd.underlying36 rfl (rstate_size HW.out.at'.len) ?_)
                | (go_at_call 16; refine (HSP.out _ HW.out.below HW.out.at').mono ?_; rintro e1 w4 ⟨vo2, vt2, rfl, hst2, hb⟩; have HT := Lib.hid hst2; have HW := Lib.hid (HW.out.next hb); clear hb hst2)
                | ((have HBT : Hid (Below w4.heap.size w4 (putB (w4.alloc (.cells zeroS 36)) w4.heap.size (stC s vo2 vt2) 36)) := Lib.hid (((Below.refl _ _).alloc (Nat.le_refl _) _).trans (putB_below _ (Nat.le_refl _) _ _))); refine wpList_putB rfl 36 _ _ rfl w4.heap.size (stC s vo2 vt2) rfl rfl 36 zeroS (blk_new w4 zeroS 36) (rstate_size HT.out.len) (by rw [stC_size HT.out.len]; rfl) HT.out.one ?_; (have HW := Lib.hid (HW.out.next HBT.out)); (have HT := Lib.hid (HT.out.below HBT.out)); (have KT := Lib.hid (putB_at (blk_new w4 zeroS 36) (stC s vo2 vt2) 36)); clear HBT))
              go_ret
              exact ⟨rfl, HW.out.below⟩
            · clear hdz
              by_cases hz : z = 0
              · subst hz
                go_wp2_with (first
                  | (refine wpList_loadB rfl 25 _ rfl w.heap.size (progC (.slice x p.types.length kx) p (.slice (some ⟨bb, o, none⟩) p.code.length kx')) rfl 25 HW.out.prog _ Tryd.underlying25 rfl prog_info ?_)
                  | (refine wpList_loadB rfl 36 _ rfl b (stC s vo vt) rfl 36 HW.out.st _ Tryd.underlying36 rfl (rstate_size HW.out.at'.len) ?_)
                  | (go_at_call 16; refine (HSP.out _ HW.out.below HW.out.at').mono ?_; rintro e1 w4 ⟨vo2, vt2, rfl, hst2, hb⟩; have HT := Lib.hid hst2; have HW := Lib.hid (HW.out.next hb); clear hb hst2)
                  | ((have HBT : Hid (Below w4.heap.size w4 (putB (w4.alloc (.cells zeroS 36)) w4.heap.size (stC s vo2 vt2) 36)) := Lib.hid (((Below.refl _ _).alloc (Nat.le_refl _) _).trans (putB_below _ (Nat.le_refl _) _ _))); refine wpList_putB rfl 36 _ _ rfl w4.heap.size (stC s vo2 vt2) rfl rfl 36 zeroS (blk_new w4 zeroS 36) (rstate_size HT.out.len) (by rw [stC_size HT.out.len]; rfl) HT.out.one ?_; (have HW := Lib.hid (HW.out.next HBT.out)); (have HT := Lib.hid (HT.out.below HBT.out)); (have KT := Lib.hid (putB_at (blk_new w4 zeroS 36) (stC s vo2 vt2) 36)); clear HBT))
                go_ret
                exact ⟨rfl, HW.out.below⟩
              · have ez2 : ((z : Int) == 0) = false := by simp; omega
                go_wp2_with (first
                  | (refine wpList_loadB rfl 25 _ rfl w.heap.size (progC (.slice x p.types.length kx) p (.slice (some ⟨bb, o, none⟩) p.code.length kx')) rfl 25 HW.out.prog _ Tryd.underlying25 rfl prog_info ?_)
                  | (refine wpList_loadB rfl 36 _ rfl b (stC s vo vt) rfl 36 HW.out.st _ Tryd.underlying36 rfl (rstate_size HW.out.at'.len) ?_)
                  | (go_at_call 16; refine (HSP.out _ HW.out.below HW.out.at').mono ?_; rintro e1 w4 ⟨vo2, vt2, rfl, hst2, hb⟩; have HT := Lib.hid hst2; have HW := Lib.hid (HW.out.next hb); clear hb hst2)
                  | ((have HBT : Hid (Below w4.heap.size w4 (putB (w4.alloc (.cells zeroS 36)) w4.heap.size (stC s vo2 vt2) 36)) := Lib.hid (((Below.refl _ _).alloc (Nat.le_refl _) _).trans (putB_below _ (Nat.le_refl _) _ _))); refine wpList_putB rfl 36 _ _ rfl w4.heap.size (stC s vo2 vt2) rfl rfl 36 zeroS (blk_new w4 zeroS 36) (rstate_size HT.out.len) (by rw [stC_size HT.out.len]; rfl) HT.out.one ?_; (have HW := Lib.hid (HW.out.next HBT.out)); (have HT := Lib.hid (HT.out.below HBT.out)); (have KT := Lib.hid (putB_at (blk_new w4 zeroS 36) (stC s vo2 vt2) 36)); clear HBT))
                go_ret
                exact ⟨rfl, HW.out.below⟩
          · rw [hs'] at HSP
            have HRN := Lib.hid hrn
            have HAN := Lib.hid han
            clear hs' hrn han HCA
            go_wp2_with (first
              | (refine wpList_loadB rfl 25 _ rfl w.heap.size (progC (.slice x p.types.length kx) p (.slice (some ⟨bb, o, none⟩) p.code.length kx')) rfl 25 HW.out.prog _ Tryd.underlying25 rfl prog_info ?_)
              | (refine wpList_loadB rfl 36 _ rfl b (stC s vo vt) rfl 36 HW.out.st _ Tryd.underlying36 rfl (rstate_size HW.out.at'.len) ?_)
              | (go_at_call 16; refine (HSP.out _ HW.out.below HW.out.at').mono ?_; rintro e1 w4 ⟨vo2, vt2, rfl, hst2, hb⟩; have HT := Lib.hid hst2; have HW := Lib.hid (HW.out.next hb); clear hb hst2)
              | ((have HBT : Hid (Below w4.heap.size w4 (putB (w4.alloc (.cells zeroS 36)) w4.heap.size (stC t vo2 vt2) 36)) := Lib.hid (((Below.refl _ _).alloc (Nat.le_refl _) _).trans (putB_below _ (Nat.le_refl _) _ _))); refine wpList_putB rfl 36 _ _ rfl w4.heap.size (stC t vo2 vt2) rfl rfl 36 zeroS (blk_new w4 zeroS 36) (rstate_size HT.out.len) (by rw [stC_size HT.out.len]; rfl) HT.out.one ?_; (have HW := Lib.hid (HW.out.next HBT.out)); (have HT := Lib.hid (HT.out.below HBT.out)); (have KT := Lib.hid (putB_at (blk_new w4 zeroS 36) (stC t vo2 vt2) 36)); clear HBT)
              | (refine wpList_loadB rfl 36 _ rfl w4.heap.size (stC t vo2 vt2) rfl 36 KT.out _ Tryd.underlying36 rfl (rstate_size HT.out.len) ?_)
              | (refine wpList_putB rfl 36 _ _ rfl b (stC t vo2 vt2) rfl rfl 36 _ HW.out.st (rstate_size HT.out.len) (by rw [stC_size HW.out.at'.len, stC_size HT.out.len]) HT.out.one ?_; (have HW := Lib.hid (HW.out.put HT.out))))
            go_roundw
            case rel => exact ⟨n + 1, r3, t, ts', vo2, vt2, fr3, la3, a3, had3, by omega, hg2, hg3, rfl, rfl, rfl, rfl, by go_num, HW, HRN, HAN⟩
            case measure => simp [intOf]; omega
    · have hnn : ¬ ((n : Int) < (a0 : Int)) := by omega
      clear hmm
      go_wp2
      go_ret
      exact ⟨rfl, HW.out.below⟩
set_option maxRecDepth 100000 in
set_option maxHeartbeats 8000000 in
theorem utrue_bad (w W0 : World) (p : PProg) (a0 : Nat) (x x' : Option Addr) (kx kx' : Nat)
    (hW0 : W0 = w.alloc (.cells (progC (.slice x p.types.length kx) p (.slice x' p.code.length kx')) 25)) (KP : Hid (Keep W0 w.heap.size (.slice x p.types.length kx) (.slice x' p.code.length kx') p)) (HB : Hid (Below w.heap.size w W0))
    (HAL : Hid (∀ w1, Calls Tryd.prog 8 #[] w1 (AggPost w1 (.bool true))))
    (HSO : Hid (∀ w1, ProgAt w1 (.agg (progC (.slice x p.types.length kx) p (.slice x' p.code.length kx'))) p → Below w.heap.size w w1 → Calls Tryd.prog 9 #[.agg (progC (.slice x p.types.length kx) p (.slice x' p.code.length kx'))] w1 (AggPost w1 (.bool (soundB p)))))
    (g2 : kx' ≤ 9223372036854775807) (g1 : p.code.length ≤ kx') (hsd : soundB p = false) :
    Calls Tryd.prog 4 #[.agg (progC (.slice x p.types.length kx) p (.slice x' p.code.length kx')), .int .u8 a0] w (AggPost w (.bool true)) := by
  go_enter Tryd.func4, Tryd.ntmps4
  go_upto_region 1 with (fail)
  rw [← hW0]
  clear hW0
  rw [hsd] at HSO
  go_wp2_with (first
    | (refine wpList_loadB rfl 25 _ rfl w.heap.size (progC (.slice x p.types.length kx) p (.slice x' p.code.length kx')) rfl 25 KP.out.blk _ Tryd.underlying25 rfl prog_info ?_)
    | (go_at_call 8; ((with_reducible refine (HAL.out _).mono ?_); rintro e w1 ⟨rfl, hb⟩; have KP := Lib.hid (KP.out.below hb); have HB := Lib.hid (HB.out.trans (hb.mono HB.out.size)); clear hb))
    | (go_at_call 9; ((with_reducible refine (HSO.out _ KP.out.at' HB.out).mono ?_); rintro e w2 ⟨rfl, hb⟩; have KP := Lib.hid (KP.out.below hb); have HB := Lib.hid (HB.out.trans (hb.mono HB.out.size)); clear hb)))
  go_ret
  exact ⟨rfl, HB.out⟩
theorem utrue_walk (v : Value) (p : PProg) (a : Int) (w : World) (h : ProgAt w v p) (hs : OkP p) (ha0 : 0 ≤ a) (ha : a ≤ 255) (ht' : HasT w) : Calls Tryd.prog 4 #[v, .int .u8 a] w fun e w' => e = .returned (.bool true) ∧ Below w.heap.size w w' := by
  obtain ⟨vt, vc, rfl, ht, hc⟩ := id h
  have hwb : Below w.heap.size w (w.alloc (.cells (progC vt p vc) 25)) := (Below.refl _ _).alloc (Nat.le_refl _) _
  have HK := keep_new h
  obtain ⟨x, c, rfl, -, -, -⟩ := id ht.elems
  obtain ⟨x', c', rfl, q1, q2, q3⟩ := id hc
  unfold maxLen at q2
  obtain ⟨ka, rfl⟩ : ∃ ka : Nat, a = ka := ⟨a.toNat, by omega⟩
  rcases hsd : soundB p with _ | _
  · exact utrue_bad w _ p ka x x' c c' rfl (Lib.hid HK) (Lib.hid hwb) (Lib.hid fun w1 => ualive_n w1) (Lib.hid fun w1 h1 hb1 => sound_n _ p w1 _ h1 hs (ht'.below hb1) rfl) (by omega) q1 hsd
  · have hl1 := (sound_parts hsd).2.2.2.2
    obtain ⟨i0, hi0⟩ : ∃ i0, p.code[0]? = some i0 := ⟨_, List.getElem?_eq_getElem (by omega)⟩
    obtain ⟨bb, o, rfl, hbb, -⟩ := q3 0 i0 hi0
    exact utrue_at w _ p ka x bb o c c' rfl (Lib.hid HK) (Lib.hid hwb) (Lib.hid fun w1 => ualive_n w1) (Lib.hid fun w1 h1 hb1 => sound_n _ p w1 _ h1 hs (ht'.below hb1) rfl) (by omega) q1 (by omega) (Lib.hid hs) (Lib.hid fun hsd w1 k h1 => ulast_n _ p w1 k h1 hs (sound_parts hsd).2.2.1) (Lib.hid fun w1 a h0 h1 hp hsd => rlocal_n _ p a _ w1 hp hs (by have := (head_parts (check_ok (sound_parts hsd).2.2.1).1).2.2.1; omega) h0 h1 rfl) (Lib.hid fun w1 t hb => rsize_n _ (tsP p.types) t _ w1 (ts_of (ht.below hb) hs.ty) (Lib.hid rfl)) (Lib.hid fun w1 k h1 => rsafe_n _ p w1 k _ h1 rfl) (Lib.hid fun w1 hb1 m i hi => by
      obtain ⟨b2, o2, e2, h2, h3⟩ := q3 m i hi
      cases e2
      exact rangeAt_below h3 h2 hb1) (Lib.hid fun w1 hb1 => h.below hb1) (Lib.hid fun hsd w1 s vo vt ts n hb1 hst hz hn hr => rstepU_n _ p w1 s vo vt (h.below hb1) hs (ht'.below hb1) hst hz (fun _ => UseOk.of_run (sound_parts hsd).2.2.1 hs.ins hr hn))
end Go.Proofs.YtbpijfncjboamaaDoor
