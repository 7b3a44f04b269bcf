/-
  PlanKinds: the walk.
-/
import Derived.Test.YtapjgobkpehgfaaGreatDoorUBM
import Derived.Deep.LoopGhost
import Derived.Deep.RegionHeld3
import Derived.Deep.CutRange
import Derived.Deep.CutBlock
import Derived.Deep.QuietTactic
namespace Go.Proofs.YtapjgobkpehgfaaGreatDoor
set_option linter.unusedSimpArgs false
set_option linter.unusedVariables false
open Go.RowKit

set_option maxRecDepth 100000 in
set_option maxHeartbeats 8000000 in
theorem plkinds_at (w W0 : World) (p : PProg) (x x' : Option Addr) (kx kx' : Nat)
    (hW0 : W0 = w.alloc (.cells (progC (.slice x p.types.length kx) p (.slice x' p.code.length kx')) 25)) (KP : Hid (Keep W0 w.heap.size (.slice x p.types.length kx) (.slice x' p.code.length kx') p)) (HB : Hid (Below w.heap.size w W0))
    (HAL : Hid (∀ w1, Below w.heap.size w w1 → Calls Tryz.prog 7 #[] w1 (AggPost w1 (.bool true))))
    (HSO : Hid (∀ w1, ProgAt w1 (.agg (progC (.slice x p.types.length kx) p (.slice x' p.code.length kx'))) p → Below w.heap.size w w1 → Calls Tryz.prog 8 #[(.agg (progC (.slice x p.types.length kx) p (.slice x' p.code.length kx')))] w1 (AggPost w1 (.bool (soundB p)))))
    (g2 : kx' ≤ 9223372036854775807) (g1 : p.code.length ≤ kx') (hok : Hid (∀ i ∈ p.code, OkI i))
    (HBE : Hid (soundB p = true → ∀ w1, ProgAt w1 (.agg (progC (.slice x p.types.length kx) p (.slice x' p.code.length kx'))) p → Below w.heap.size w w1 → Calls Tryz.prog 9 #[(.agg (progC (.slice x p.types.length kx) p (.slice x' p.code.length kx')))] w1 (BestPost w1 p)))
    (HLO : Hid (soundB p = true → ∀ w1 (k : Nat) r, k < p.code.length → ProgAt w1 (.agg (progC (.slice x p.types.length kx) p (.slice x' p.code.length kx'))) p → loopL p k = r → Calls Tryz.prog 14 #[(.agg (progC (.slice x p.types.length kx) p (.slice x' p.code.length kx'))), .int .i64 k] w1 (AggPost w1 (.bool r)))) :
    Calls Tryz.prog 6 #[(.agg (progC (.slice x p.types.length kx) p (.slice x' p.code.length kx')))] w (AggPost w (.bool true)) := by
  go_enter Tryz.func6, Tryz.ntmps6
  go_upto_region 1 with (fail)
  rw [← hW0]
  clear hW0
  rcases hsd : soundB p with _ | _
  · rw [hsd] at HSO
    go_wp2_with (first
      | (refine wpList_loadB rfl 25 _ rfl w.heap.size (progC (.slice x p.types.length kx) p (.slice x' p.code.length kx')) rfl 25 KP.out.blk _ Tryz.underlying25 rfl prog_info ?_)
      | (go_at_call 7; ((with_reducible refine (HAL.out _ HB.out).mono ?_); rintro e w1 ⟨rfl, hb⟩; have KP := Lib.hid (KP.out.below hb); have HB := Lib.hid (HB.out.trans (hb.mono HB.out.size)); clear hb))
      | (go_at_call 8; ((with_reducible refine (HSO.out _ KP.out.at' HB.out).mono ?_); rintro e w2 ⟨rfl, hb⟩; have KP := Lib.hid (KP.out.below hb); have HB := Lib.hid (HB.out.trans (hb.mono HB.out.size)); clear hb)))
    go_ret
    exact ⟨rfl, HB.out⟩
  obtain ⟨hfw, hl60, hck, hin0, hl1⟩ := sound_parts hsd
  have HCK := Lib.hid hck
  have HIN := Lib.hid hin0
  have HBE := Lib.hid (HBE.out hsd)
  have HLO := Lib.hid (HLO.out hsd)
  rw [hsd] at HSO
  clear hin0 hck hsd
  go_upto_region 6 with (first
    | (refine wpList_loadB rfl 25 _ rfl w.heap.size (progC (.slice x p.types.length kx) p (.slice x' p.code.length kx')) rfl 25 KP.out.blk _ Tryz.underlying25 rfl prog_info ?_)
    | (go_at_call 7; ((with_reducible refine (HAL.out _ HB.out).mono ?_); rintro e w1 ⟨rfl, hb⟩; have KP := Lib.hid (KP.out.below hb); have HB := Lib.hid (HB.out.trans (hb.mono HB.out.size)); clear hb))
    | (go_at_call 8; ((with_reducible refine (HSO.out _ KP.out.at' HB.out).mono ?_); rintro e w2 ⟨rfl, hb⟩; have KP := Lib.hid (KP.out.below hb); have HB := Lib.hid (HB.out.trans (hb.mono HB.out.size)); clear hb))
    | (go_at_call 9; ((with_reducible refine (HBE.out _ KP.out.at' HB.out).mono ?_); rintro e wm ⟨xm, cm, rfl, hc1, hc2, hm, hb⟩; have KP := Lib.hid (KP.out.below hb); have HB := Lib.hid (HB.out.trans (hb.mono HB.out.size)); clear hb; have HM := Lib.hid hm; clear hm)))
  clear HSO HAL HBE
  have HK : Hid (PK w wm xm cm x x' kx kx' p) := Lib.hid ⟨KP.out, HB.out, HM.out⟩
  obtain ⟨sN, rN, qN, hsv, hsum, hs60⟩ := saved_nums p HCK.out hok.out
  have HSV := Lib.hid hsv
  have p3 := HK.out.keep.cells.2.2.2
  have e1 : (((p.code.length : Nat) : Int) != ((p.code.length : Nat) : Int)) = false := by simp
  clear HM KP HB hsv
  go_wp2_with (fail)
  clear p3 e1
  go_loopw [33] (fun v33 wr => ∃ k : Nat, k ≤ p.code.length ∧ v33 = .int .i64 k ∧ Hid (PK w wr xm cm x x' kx kx' p)) (fun v33 _ => p.code.length - (intOf v33).toNat)
  case atStart => exact ⟨0, Nat.zero_le _, rfl, HK⟩
  case round =>
    obtain ⟨k, hk, rfl, HK⟩ := hrel
    by_cases hkl : k < p.code.length
    · have hki : (k : Int) < (p.code.length : Int) := by omega
      have hk0 : (0 : Int) ≤ (k : Int) := by omega
      obtain ⟨i, hi⟩ : ∃ i, p.code[k]? = some i := ⟨_, List.getElem?_eq_getElem hkl⟩
      obtain ⟨bb, o, rfl, hbb, hrg⟩ := prog_ins HK.out.keep.at' hi
      obtain ⟨bf, of, rfl, f0, f1, f2⟩ := facts_cell HK.out.facts (best_get hi)
      have hcs := best_cases (q := p) (k := k) (i := i)
      generalize bestI p k i = f at f0 f1 f2 hcs
      obtain ⟨st, ra, pl⟩ := f
      simp only at f0 f1 f2 hcs
      obtain ⟨op, ia, ib, ic, iN⟩ := i
      simp only at hcs
      go_upto_region 11 with (fail)
      have hab : Below wr.heap.size wr (wr.alloc (.cells #[.bool st, .bool ra, .bool pl] 35)) := (Below.refl _ _).alloc (Nat.le_refl _) _
      have HK := Lib.hid (HK.out.next hab)
      have HF : Hid (blk (wr.alloc (.cells #[.bool st, .bool ra, .bool pl] 35)) wr.heap.size #[.bool st, .bool ra, .bool pl] 35) := Lib.hid (blk_new _ _ _)
      have hrg := rangeAt_below hrg hbb hab
      obtain ⟨F, hF⟩ : ∃ F, F = wr.heap.size := ⟨_, rfl⟩
      obtain ⟨wq, hwq⟩ : ∃ wq, wq = wr.alloc (.cells #[.bool st, .bool ra, .bool pl] 35) := ⟨_, rfl⟩
      rw [← hwq] at HK HF hrg ⊢
      rw [← hF] at HF ⊢
      clear hab hwq hF f0 f1 f2 hi
      have p3 := HK.out.keep.cells.2.2.2
      obtain ⟨d0, d1, d2, d3, d4⟩ : (wq.cell? ⟨bb, o + k * 5, none⟩ = some (.int .u8 op)) ∧ wq.cell? ⟨bb, o + k * 5 + 1, none⟩ = some (.int .u8 ia) ∧ wq.cell? ⟨bb, o + k * 5 + 2, none⟩ = some (.int .u8 ib) ∧ wq.cell? ⟨bb, o + k * 5 + 3, none⟩ = some (.int .u8 ic) ∧ wq.cell? ⟨bb, o + k * 5 + 4, none⟩ = some (.int .i64 iN) := ⟨hrg 0 _ rfl, hrg 1 _ rfl, hrg 2 _ rfl, hrg 3 _ rfl, hrg 4 _ rfl⟩
      clear hrg
      go_upto_region 12 with (fail)
      have hab : Below wq.heap.size wq (wq.alloc (.cells (insC ⟨op, ia, ib, ic, iN⟩) 46)) := (Below.refl _ _).alloc (Nat.le_refl _) _
      have HK := Lib.hid (HK.out.next hab)
      have HF := Lib.hid (blk_below HF.out hab)
      have HI : Hid (blk (wq.alloc (.cells (insC ⟨op, ia, ib, ic, iN⟩) 46)) wq.heap.size (insC ⟨op, ia, ib, ic, iN⟩) 46) := Lib.hid (blk_new _ _ _)
      obtain ⟨I, hI⟩ : ∃ I, I = wq.heap.size := ⟨_, rfl⟩
      obtain ⟨wa, hwa⟩ : ∃ wa, wa = wq.alloc (.cells (insC ⟨op, ia, ib, ic, iN⟩) 46) := ⟨_, rfl⟩
      rw [← hwa] at HK HF HI ⊢
      rw [← hI] at HI ⊢
      clear hab hwa hI d0 d1 d2 d3 d4
      clear p3
      have c0 : wa.cell? ⟨I, 0, none⟩ = some (.int .u8 op) := blk_cell HI.out 0 _ rfl
      have b0 : wa.cell? ⟨F, 0, none⟩ = some (.bool st) := blk_cell HF.out 0 _ rfl
      have b1 : wa.cell? ⟨F, 1, none⟩ = some (.bool ra) := blk_cell HF.out 1 _ rfl
      have b2 : wa.cell? ⟨F, 2, none⟩ = some (.bool pl) := blk_cell HF.out 2 _ rfl
      rcases hcs with ⟨rfl, rfl, rfl⟩ | ⟨rfl, rfl, rfl, rfl⟩ | ⟨rfl, rfl, rfl, rfl⟩ | ⟨rfl, rfl, rfl, hlf⟩
      · go_wp2_with (fail)
        go_roundw
        case rel => exact ⟨k + 1, by omega, by go_num, HK⟩
        case measure => simp [intOf]; omega
      · go_wp2_with (fail)
        go_roundw
        case rel => exact ⟨k + 1, by omega, by go_num, HK⟩
        case measure => simp [intOf]; omega
      · go_wp2_with (fail)
        go_roundw
        case rel => exact ⟨k + 1, by omega, by go_num, HK⟩
        case measure => simp [intOf]; omega
      · have HLF := Lib.hid hlf
        clear hlf
        go_wp2_with (first
          | (refine wpList_loadBw (by rfl) 25 _ rfl w.heap.size (progC (.slice x p.types.length kx) p (.slice (some ⟨bb, o, none⟩) p.code.length kx')) rfl 25 HK.out.keep.blk _ Tryz.underlying25 rfl prog_info ?_)
          | (go_at_call 14; ((with_reducible refine (HLO.out _ k _ hkl HK.out.keep.at' HLF.out).mono ?_); rintro e w5 ⟨rfl, hb⟩; have HK := Lib.hid (HK.out.next hb); clear hb)))
        go_roundw
        case rel => exact ⟨k + 1, by omega, by go_num, HK⟩
        case measure => simp [intOf]; omega
    · have hkn : ¬ ((k : Int) < (p.code.length : Int)) := by omega
      have hsa : (sN : Int) + (rN : Int) + (qN : Int) ≤ 2 * (p.code.length : Int) := by omega
      have hs0 : (0 : Int) ≤ (sN : Int) := by omega
      have hr0 : (0 : Int) ≤ (rN : Int) := by omega
      have hq0 : (0 : Int) ≤ (qN : Int) := by omega
      go_wp2_with (first
        | (go_at_call 15; ((with_reducible refine (HSV.out _ _ HK.out.facts).mono ?_); rintro e w6 ⟨rfl, hb⟩; have HK := Lib.hid (HK.out.next hb); clear hb)))
      go_ret
      exact ⟨rfl, HK.out.below⟩
theorem plkinds_walk (v : Value) (p : PProg) (w : World) (h : ProgAt w v p) (hs : OkP p) (hO : HasO w) (ht' : HasT w) : Calls Tryz.prog 6 #[v] w fun e w' => e = .returned (.bool true) ∧ Below w.heap.size w w' := by
  obtain ⟨vt, vc, rfl, ht, hc⟩ := id h
  have hwb : Below w.heap.size w (w.alloc (.cells (progC vt p vc) 25)) := (Below.refl _ _).alloc (Nat.le_refl _) _
  have HK := keep_new h
  obtain ⟨x, c, rfl, -, -, -⟩ := id ht.elems
  obtain ⟨x', c', rfl, q1, q2, -⟩ := id hc
  unfold maxLen at q2
  exact plkinds_at w _ p x x' c c' rfl (Lib.hid HK) (Lib.hid hwb) (Lib.hid fun w1 hb => plalive_n w1 (hO.below hb)) (Lib.hid fun w1 h1 hb1 => sound_n _ p w1 _ h1 hs (ht'.below hb1) rfl) (by omega) q1 (Lib.hid hs.ins) (Lib.hid fun hsd w1 h1 hb => best_post h1 hs (hO.below hb) (sound_parts hsd).2.2.1) (Lib.hid fun hsd w1 k r hk h1 hr => rloops_n _ p w1 k r h1 hs (sound_parts hsd).2.2.2.1 (by have := (sound_parts hsd).2.1; omega) (by rw [loopV_nat (by omega)]; exact hr))
end Go.Proofs.YtapjgobkpehgfaaGreatDoor
