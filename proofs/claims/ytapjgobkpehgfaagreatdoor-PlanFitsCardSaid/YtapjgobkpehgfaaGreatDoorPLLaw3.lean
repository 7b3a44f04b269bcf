/-
  PlanFits: the walk.
-/
import Derived.Test.YtapjgobkpehgfaaGreatDoorPLFits
import Derived.Deep.LoopGhost
import Derived.Deep.RegionHeld3
import Derived.Deep.CutRange
import Derived.Deep.CutBlock
import Derived.Deep.QuietTactic
namespace Go.Proofs.YtapjgobkpehgfaaGreatDoor
set_option linter.unusedSimpArgs false
set_option linter.unusedVariables false
open Go.RowKit

set_option maxRecDepth 100000 in
set_option maxHeartbeats 16000000 in
theorem plfitsl_at (w W0 : World) (p : PProg) (x x' : Option Addr) (kx kx' : Nat) (keep : List PFact) (ak : Option Addr) (ck a0 : Nat)
    (hW0 : W0 = w.alloc (.cells (progC (.slice x p.types.length kx) p (.slice x' p.code.length kx')) 25)) (KP : Hid (Keep W0 w.heap.size (.slice x p.types.length kx) (.slice x' p.code.length kx') p)) (HB : Hid (Below w.heap.size w W0))
    (HAL : Hid (∀ w1, Below w.heap.size w w1 → Calls Tryz.prog 7 #[] w1 (AggPost w1 (.bool true))))
    (HSO : Hid (∀ w1, ProgAt w1 (.agg (progC (.slice x p.types.length kx) p (.slice x' p.code.length kx'))) p → Below w.heap.size w w1 → Calls Tryz.prog 8 #[(.agg (progC (.slice x p.types.length kx) p (.slice x' p.code.length kx')))] w1 (AggPost w1 (.bool (soundB p)))))
    (g2 : kx' ≤ 9223372036854775807) (g1 : p.code.length ≤ kx') (hok : Hid (∀ i ∈ p.code, OkI i))
    (HBE : Hid (soundB p = true → ∀ w1, ProgAt w1 (.agg (progC (.slice x p.types.length kx) p (.slice x' p.code.length kx'))) p → Below w.heap.size w w1 → Calls Tryz.prog 9 #[(.agg (progC (.slice x p.types.length kx) p (.slice x' p.code.length kx')))] w1 (BestPost w1 p)))
    (HKE : Hid (FactsAt w (.slice ak keep.length ck) keep)) (gk : keep.length ≤ 9223372036854775807) (ha0 : a0 ≤ 255)
    (HFT : Hid (soundB p = true → ∀ w1 vl l r, Below w.heap.size w w1 → ProgAt w1 (.agg (progC (.slice x p.types.length kx) p (.slice x' p.code.length kx'))) p → FactsAt w1 vl l → fitsL l (bestL p) = r → Calls Tryz.prog 10 #[(.agg (progC (.slice x p.types.length kx) p (.slice x' p.code.length kx'))), vl] w1 (AggPost w1 (.bool r)))) :
    Calls Tryz.prog 3 #[(.agg (progC (.slice x p.types.length kx) p (.slice x' p.code.length kx'))), .slice ak keep.length ck, .int .u8 a0] w (AggPost w (.bool true)) := by
  go_enter Tryz.func3, Tryz.ntmps3
  go_upto_region 1 with (fail)
  rw [← hW0]
  clear hW0
  rcases hsd : soundB p with _ | _
  · rw [hsd] at HSO
    go_wp2_with (first
      | (refine wpList_loadB rfl 25 _ rfl w.heap.size (progC (.slice x p.types.length kx) p (.slice x' p.code.length kx')) rfl 25 KP.out.blk _ Tryz.underlying25 rfl prog_info ?_)
      | (go_at_call 7; ((with_reducible refine (HAL.out _ HB.out).mono ?_); rintro e w1 ⟨rfl, hb⟩; have KP := Lib.hid (KP.out.below hb); have HB := Lib.hid (HB.out.trans (hb.mono HB.out.size)); clear hb))
      | (go_at_call 8; ((with_reducible refine (HSO.out _ KP.out.at' HB.out).mono ?_); rintro e w2 ⟨rfl, hb⟩; have KP := Lib.hid (KP.out.below hb); have HB := Lib.hid (HB.out.trans (hb.mono HB.out.size)); clear hb)))
    go_ret
    exact ⟨rfl, HB.out⟩
  obtain ⟨hfw, hl60, hck, hin0, hl1⟩ := sound_parts hsd
  have HCK := Lib.hid hck
  have HIN := Lib.hid hin0
  have HBE := Lib.hid (HBE.out hsd)
  have HFT := Lib.hid (HFT.out hsd)
  rw [hsd] at HSO
  clear hin0 hck hsd
  obtain ⟨m, hm, hmm⟩ : ∃ m : Nat, m < p.code.length ∧ (a0 : Int) % (p.code.length : Int) = m := ⟨a0 % p.code.length, Nat.mod_lt a0 (by omega), rfl⟩
  have e1 : (((p.code.length : Nat) : Int) != ((p.code.length : Nat) : Int)) = false := by simp
  go_upto_region 6 with (first
    | (refine wpList_loadB rfl 25 _ rfl w.heap.size (progC (.slice x p.types.length kx) p (.slice x' p.code.length kx')) rfl 25 KP.out.blk _ Tryz.underlying25 rfl prog_info ?_)
    | (go_at_call 7; ((with_reducible refine (HAL.out _ HB.out).mono ?_); rintro e w1 ⟨rfl, hb⟩; have KP := Lib.hid (KP.out.below hb); have HB := Lib.hid (HB.out.trans (hb.mono HB.out.size)); clear hb))
    | (go_at_call 8; ((with_reducible refine (HSO.out _ KP.out.at' HB.out).mono ?_); rintro e w2 ⟨rfl, hb⟩; have KP := Lib.hid (KP.out.below hb); have HB := Lib.hid (HB.out.trans (hb.mono HB.out.size)); clear hb))
    | (go_at_call 9; ((with_reducible refine (HBE.out _ KP.out.at' HB.out).mono ?_); rintro e wm ⟨xm, cm, rfl, hc1, hc2, hm, hb⟩; have KP := Lib.hid (KP.out.below hb); have HB := Lib.hid (HB.out.trans (hb.mono HB.out.size)); clear hb; have HM := Lib.hid hm; clear hm)))
  clear HSO HAL HBE
  obtain ⟨b4, o4, rfl, -, -, -⟩ := facts_cell HM.out (best_get (List.getElem?_eq_getElem (show 0 < p.code.length by omega)))
  have p3 := KP.out.cells.2.2.2
  go_upto_region 8 with (first
    | (refine wpList_loadB rfl 25 _ rfl w.heap.size (progC (.slice x p.types.length kx) p (.slice x' p.code.length kx')) rfl 25 KP.out.blk _ Tryz.underlying25 rfl prog_info ?_)
    | (refine wpList_loadBw (by rfl) 25 _ rfl w.heap.size (progC (.slice x p.types.length kx) p (.slice x' p.code.length kx')) rfl 25 KP.out.blk _ Tryz.underlying25 rfl prog_info ?_)
    | (go_at_call 10; ((with_reducible refine (HFT.out _ _ _ _ HB.out KP.out.at' HM.out (fits_self _)).mono ?_); rintro e wf ⟨rfl, hb⟩; have KP := Lib.hid (KP.out.below hb); have HB := Lib.hid (HB.out.trans (hb.mono HB.out.size)); have HM := Lib.hid (HM.out.below hb); clear hb)))
  clear p3 e1
  have HK : Hid (PK w wf (some ⟨b4, o4, none⟩) cm x x' kx kx' p) := Lib.hid ⟨KP.out, HB.out, HM.out⟩
  have HKE := Lib.hid (HKE.out.below HB.out)
  clear KP HB
  have hbl' : (bestL p).length ≤ 60 := by rw [best_len]; exact hl60
  go_upto_region 9 with (first
    | (refine wpList_appendS (c := factC) (by rfl) _ _ rfl Tryz.underlying29 infoF' rfl (by decide) (by decide) factC_len factC_one wf.heap.size _ [] (bestL p) rfl (World.ownsRow_nil _ _ _ _) _ rfl HM.out (.inr ⟨_, _, _, rfl⟩) (by rw [List.length_nil]; omega) (Nat.le_refl _) ?_; intro v9 w4 hown hbl; rw [List.nil_append] at hown; obtain ⟨g, cap, rfl, hd1, hd2, hmx⟩ := MixW.of_own hbl hown (by rw [best_len]; omega); rw [best_len] at hd1; have HX : Hid (MixW wf w4 g cap (mixL (bestL p) keep 0)) := Lib.hid (by rw [mixL_0]; exact hmx); clear hmx hown hbl))
  rw [best_len]
  clear HM
  go_wp2_with (fail)
  go_loopw [45] (fun v45 wr => ∃ k : Nat, k ≤ p.code.length ∧ v45 = .int .i64 k ∧ Hid (MixW wf wr g cap (mixL (bestL p) keep k))) (fun v45 _ => p.code.length - (intOf v45).toNat)
  case atStart => exact ⟨0, Nat.zero_le _, rfl, HX⟩
  case round =>
    obtain ⟨k, hk, rfl, HX⟩ := hrel
    by_cases hkl : k < p.code.length
    · have hki : (k : Int) < (p.code.length : Int) := by omega
      have hk0 : (0 : Int) ≤ (k : Int) := by omega
      by_cases hke : k < keep.length
      · have hkk : (k : Int) < (keep.length : Int) := by omega
        obtain ⟨i, hi⟩ : ∃ i, p.code[k]? = some i := ⟨_, List.getElem?_eq_getElem hkl⟩
        have hbg := best_get hi
        obtain ⟨fk, hfk⟩ : ∃ f, keep[k]? = some f := ⟨_, List.getElem?_eq_getElem hke⟩
        obtain ⟨bk, ok, rfl, q0, q1, q2⟩ := facts_cell (HKE.out.below HX.out.below) hfk
        have HQ : Hid (∀ wx, Below wf.heap.size wf wx → wx.cell? ⟨bk, ok + k * 3, none⟩ = some (.bool fk.st) ∧ wx.cell? ⟨bk, ok + k * 3 + 1, none⟩ = some (.bool fk.ra) ∧ wx.cell? ⟨bk, ok + k * 3 + 2, none⟩ = some (.bool fk.pl)) := Lib.hid fun wx hb => by
          obtain ⟨b9, o9, e9, r0, r1, r2⟩ := facts_cell (HKE.out.below hb) hfk
          simp only [Option.some.injEq, Addr.mk.injEq] at e9
          obtain ⟨rfl, rfl, -⟩ := e9
          exact ⟨r0, r1, r2⟩
        have HNX : Hid ((mixL (bestL p) keep k).set k (mixF (bestI p k i) fk) = mixL (bestL p) keep (k + 1)) := Lib.hid (mixL_next hbg hfk)
        have hme := mixL_here (keep := keep) hbg
        have hlen9 : (mixL (bestL p) keep k).length = p.code.length := by rw [mixL_len, best_len]
        generalize mixL (bestL p) keep k = l0 at HX HNX hme hlen9
        generalize bestI p k i = bf at hbg hme HNX
        clear hi hbg hfk
        obtain ⟨bs, br, bp⟩ := bf
        obtain ⟨ks, kr, kp⟩ := fk
        simp only at q0 q1 q2 HQ
        obtain ⟨c0, c1, c2, fz⟩ := HX.out.cell hme
        have fz0 := fz (k * 3)
        have hme1 := fun x => List.getElem?_set_self (l := l0) (i := k) (a := x) (by omega)
        rcases bs with _ | _
        · go_upto_region 14 with (fail)
          have HX1 : Hid (MixW wf (wr.setCell ⟨g, k * 3, none⟩ (.bool false)) g cap (l0.set k ⟨false && ks, br, bp⟩)) := Lib.hid (by have h9 := HX.out.set (t := 0) false hme (by omega); exact h9)
          generalize wr.setCell ⟨g, k * 3, none⟩ (.bool false) = wx at HX1 ⊢
          clear c0 c1 c2 fz fz0 q0 q1 q2
          obtain ⟨q0, q1, q2⟩ := HQ.out _ HX1.out.below
          obtain ⟨c0, c1, c2, fz⟩ := HX1.out.cell (hme1 _)
          have fz1 := fz (k * 3 + 1)
          simp only at c0 c1 c2
          clear c0
          have c0 := True.intro
          rcases br with _ | _
          · go_upto_region 15 with (fail)
            have HX2 : Hid (MixW wf (wx.setCell ⟨g, k * 3 + 1, none⟩ (.bool false)) g cap (l0.set k ⟨false && ks, false && kr, bp⟩)) := Lib.hid (by have h9 := HX1.out.set (t := 1) false (hme1 _) (by omega); rw [List.set_set] at h9; exact h9)
            generalize wx.setCell ⟨g, k * 3 + 1, none⟩ (.bool false) = wy at HX2 ⊢
            clear c0 c1 c2 fz fz1 q0 q1 q2
            obtain ⟨q0, q1, q2⟩ := HQ.out _ HX2.out.below
            obtain ⟨c0, c1, c2, fz⟩ := HX2.out.cell (hme1 _)
            have fz2 := fz (k * 3 + 2)
            simp only at c0 c1 c2
            clear c0 c1
            have c0 := True.intro
            have c1 := True.intro
            rcases bp with _ | _
            · go_wp2_with (fail)
              have HX3 : Hid (MixW wf (wy.setCell ⟨g, k * 3 + 2, none⟩ (.bool false)) g cap (l0.set k ⟨false && ks, false && kr, false && kp⟩)) := Lib.hid (by have h9 := HX2.out.set (t := 2) false (hme1 _) (by omega); rw [List.set_set] at h9; exact h9)
              rw [show (⟨false && ks, false && kr, false && kp⟩ : PFact) = mixF ⟨false, false, false⟩ ⟨ks, kr, kp⟩ from rfl, HNX.out] at HX3
              go_roundw
              case rel => exact ⟨k + 1, by omega, by go_num, HX3⟩
              case measure => simp [intOf]; omega
            · go_wp2_with (fail)
              have HX3 : Hid (MixW wf (wy.setCell ⟨g, k * 3 + 2, none⟩ (.bool kp)) g cap (l0.set k ⟨false && ks, false && kr, true && kp⟩)) := Lib.hid (by have h9 := HX2.out.set (t := 2) kp (hme1 _) (by omega); rw [List.set_set] at h9; exact h9)
              rw [show (⟨false && ks, false && kr, true && kp⟩ : PFact) = mixF ⟨false, false, true⟩ ⟨ks, kr, kp⟩ from rfl, HNX.out] at HX3
              go_roundw
              case rel => exact ⟨k + 1, by omega, by go_num, HX3⟩
              case measure => simp [intOf]; omega
          · go_upto_region 15 with (fail)
            have HX2 : Hid (MixW wf (wx.setCell ⟨g, k * 3 + 1, none⟩ (.bool kr)) g cap (l0.set k ⟨false && ks, true && kr, bp⟩)) := Lib.hid (by have h9 := HX1.out.set (t := 1) kr (hme1 _) (by omega); rw [List.set_set] at h9; exact h9)
            generalize wx.setCell ⟨g, k * 3 + 1, none⟩ (.bool kr) = wy at HX2 ⊢
            clear c0 c1 c2 fz fz1 q0 q1 q2
            obtain ⟨q0, q1, q2⟩ := HQ.out _ HX2.out.below
            obtain ⟨c0, c1, c2, fz⟩ := HX2.out.cell (hme1 _)
            have fz2 := fz (k * 3 + 2)
            simp only at c0 c1 c2
            clear c0 c1
            have c0 := True.intro
            have c1 := True.intro
            rcases bp with _ | _
            · go_wp2_with (fail)
              have HX3 : Hid (MixW wf (wy.setCell ⟨g, k * 3 + 2, none⟩ (.bool false)) g cap (l0.set k ⟨false && ks, true && kr, false && kp⟩)) := Lib.hid (by have h9 := HX2.out.set (t := 2) false (hme1 _) (by omega); rw [List.set_set] at h9; exact h9)
              rw [show (⟨false && ks, true && kr, false && kp⟩ : PFact) = mixF ⟨false, true, false⟩ ⟨ks, kr, kp⟩ from rfl, HNX.out] at HX3
              go_roundw
              case rel => exact ⟨k + 1, by omega, by go_num, HX3⟩
              case measure => simp [intOf]; omega
            · go_wp2_with (fail)
              have HX3 : Hid (MixW wf (wy.setCell ⟨g, k * 3 + 2, none⟩ (.bool kp)) g cap (l0.set k ⟨false && ks, true && kr, true && kp⟩)) := Lib.hid (by have h9 := HX2.out.set (t := 2) kp (hme1 _) (by omega); rw [List.set_set] at h9; exact h9)
              rw [show (⟨false && ks, true && kr, true && kp⟩ : PFact) = mixF ⟨false, true, true⟩ ⟨ks, kr, kp⟩ from rfl, HNX.out] at HX3
              go_roundw
              case rel => exact ⟨k + 1, by omega, by go_num, HX3⟩
              case measure => simp [intOf]; omega
        · go_upto_region 14 with (fail)
          have HX1 : Hid (MixW wf (wr.setCell ⟨g, k * 3, none⟩ (.bool ks)) g cap (l0.set k ⟨true && ks, br, bp⟩)) := Lib.hid (by have h9 := HX.out.set (t := 0) ks hme (by omega); exact h9)
          generalize wr.setCell ⟨g, k * 3, none⟩ (.bool ks) = wx at HX1 ⊢
          clear c0 c1 c2 fz fz0 q0 q1 q2
          obtain ⟨q0, q1, q2⟩ := HQ.out _ HX1.out.below
          obtain ⟨c0, c1, c2, fz⟩ := HX1.out.cell (hme1 _)
          have fz1 := fz (k * 3 + 1)
          simp only at c0 c1 c2
          clear c0
          have c0 := True.intro
          rcases br with _ | _
          · go_upto_region 15 with (fail)
            have HX2 : Hid (MixW wf (wx.setCell ⟨g, k * 3 + 1, none⟩ (.bool false)) g cap (l0.set k ⟨true && ks, false && kr, bp⟩)) := Lib.hid (by have h9 := HX1.out.set (t := 1) false (hme1 _) (by omega); rw [List.set_set] at h9; exact h9)
            generalize wx.setCell ⟨g, k * 3 + 1, none⟩ (.bool false) = wy at HX2 ⊢
            clear c0 c1 c2 fz fz1 q0 q1 q2
            obtain ⟨q0, q1, q2⟩ := HQ.out _ HX2.out.below
            obtain ⟨c0, c1, c2, fz⟩ := HX2.out.cell (hme1 _)
            have fz2 := fz (k * 3 + 2)
            simp only at c0 c1 c2
            clear c0 c1
            have c0 := True.intro
            have c1 := True.intro
            rcases bp with _ | _
            · go_wp2_with (fail)
              have HX3 : Hid (MixW wf (wy.setCell ⟨g, k * 3 + 2, none⟩ (.bool false)) g cap (l0.set k ⟨true && ks, false && kr, false && kp⟩)) := Lib.hid (by have h9 := HX2.out.set (t := 2) false (hme1 _) (by omega); rw [List.set_set] at h9; exact h9)
              rw [show (⟨true && ks, false && kr, false && kp⟩ : PFact) = mixF ⟨true, false, false⟩ ⟨ks, kr, kp⟩ from rfl, HNX.out] at HX3
              go_roundw
              case rel => exact ⟨k + 1, by omega, by go_num, HX3⟩
              case measure => simp [intOf]; omega
            · go_wp2_with (fail)
              have HX3 : Hid (MixW wf (wy.setCell ⟨g, k * 3 + 2, none⟩ (.bool kp)) g cap (l0.set k ⟨true && ks, false && kr, true && kp⟩)) := Lib.hid (by have h9 := HX2.out.set (t := 2) kp (hme1 _) (by omega); rw [List.set_set] at h9; exact h9)
              rw [show (⟨true && ks, false && kr, true && kp⟩ : PFact) = mixF ⟨true, false, true⟩ ⟨ks, kr, kp⟩ from rfl, HNX.out] at HX3
              go_roundw
              case rel => exact ⟨k + 1, by omega, by go_num, HX3⟩
              case measure => simp [intOf]; omega
          · go_upto_region 15 with (fail)
            have HX2 : Hid (MixW wf (wx.setCell ⟨g, k * 3 + 1, none⟩ (.bool kr)) g cap (l0.set k ⟨true && ks, true && kr, bp⟩)) := Lib.hid (by have h9 := HX1.out.set (t := 1) kr (hme1 _) (by omega); rw [List.set_set] at h9; exact h9)
            generalize wx.setCell ⟨g, k * 3 + 1, none⟩ (.bool kr) = wy at HX2 ⊢
            clear c0 c1 c2 fz fz1 q0 q1 q2
            obtain ⟨q0, q1, q2⟩ := HQ.out _ HX2.out.below
            obtain ⟨c0, c1, c2, fz⟩ := HX2.out.cell (hme1 _)
            have fz2 := fz (k * 3 + 2)
            simp only at c0 c1 c2
            clear c0 c1
            have c0 := True.intro
            have c1 := True.intro
            rcases bp with _ | _
            · go_wp2_with (fail)
              have HX3 : Hid (MixW wf (wy.setCell ⟨g, k * 3 + 2, none⟩ (.bool false)) g cap (l0.set k ⟨true && ks, true && kr, false && kp⟩)) := Lib.hid (by have h9 := HX2.out.set (t := 2) false (hme1 _) (by omega); rw [List.set_set] at h9; exact h9)
              rw [show (⟨true && ks, true && kr, false && kp⟩ : PFact) = mixF ⟨true, true, false⟩ ⟨ks, kr, kp⟩ from rfl, HNX.out] at HX3
              go_roundw
              case rel => exact ⟨k + 1, by omega, by go_num, HX3⟩
              case measure => simp [intOf]; omega
            · go_wp2_with (fail)
              have HX3 : Hid (MixW wf (wy.setCell ⟨g, k * 3 + 2, none⟩ (.bool kp)) g cap (l0.set k ⟨true && ks, true && kr, true && kp⟩)) := Lib.hid (by have h9 := HX2.out.set (t := 2) kp (hme1 _) (by omega); rw [List.set_set] at h9; exact h9)
              rw [show (⟨true && ks, true && kr, true && kp⟩ : PFact) = mixF ⟨true, true, true⟩ ⟨ks, kr, kp⟩ from rfl, HNX.out] at HX3
              go_roundw
              case rel => exact ⟨k + 1, by omega, by go_num, HX3⟩
              case measure => simp [intOf]; omega
      · have hkk : ¬ ((k : Int) < (keep.length : Int)) := by omega
        rw [← mixL_skip (by omega)] at HX
        go_wp2_with (fail)
        go_roundw
        case rel => exact ⟨k + 1, by omega, by go_num, HX⟩
        case measure => simp [intOf]; omega
    · have hkn : ¬ ((k : Int) < (p.code.length : Int)) := by omega
      have hpl : (mixL (bestL p) keep k).length = p.code.length := by rw [mixL_len, best_len]
      have HLE : Hid (∀ j, j < (bestL p).length → leFact ((mixL (bestL p) keep k).getD j noFact) ((bestL p).getD j noFact) = true) := Lib.hid fun j hj => mixL_le hj
      have HFI : Hid (fitsL (mixL (bestL p) keep k) (bestL p) = true) := Lib.hid mixL_fits
      generalize mixL (bestL p) keep k = part at HX hpl HLE HFI
      have HPF : Hid (∀ wx, MixW wf wx g cap part → FactsAt wx (.slice (some ⟨g, 0, none⟩) p.code.length cap) part) := Lib.hid fun wx h => by have := h.facts; rwa [hpl] at this
      have HKX := Lib.hid fun wx (h : Below wf.heap.size wf wx) => HK.out.next h
      go_upto_region 19 with (first
        | (refine wpList_loadB rfl 25 _ rfl w.heap.size (progC (.slice x p.types.length kx) p (.slice x' p.code.length kx')) rfl 25 (HKX.out _ HX.out.below).keep.blk _ Tryz.underlying25 rfl prog_info ?_)
        | (go_at_call 10; ((with_reducible refine (HFT.out _ _ _ _ (HKX.out _ HX.out.below).below (HKX.out _ HX.out.below).keep.at' (HPF.out _ HX.out) HFI.out).mono ?_); rintro e wg ⟨rfl, hb⟩; have HX := Lib.hid (HX.out.next hb); clear hb)))
      have hmi : (m : Int) < (p.code.length : Int) := by omega
      have hm0 : (0 : Int) ≤ (m : Int) := by omega
      have hpos : ¬ ((p.code.length : Int) = 0) := by omega
      obtain ⟨i, hi⟩ : ∃ i, p.code[m]? = some i := ⟨_, List.getElem?_eq_getElem hm⟩
      have hbg := best_get hi
      obtain ⟨fm, hfm⟩ : ∃ f, part[m]? = some f := ⟨_, List.getElem?_eq_getElem (by omega)⟩
      have HMO := Lib.hid fun t => fits_more (best := bestL p) (by rw [hpl, best_len]) HLE.out hfm hbg t
      generalize bestI p m i = bm at hbg HMO
      have HBQ : Hid (∀ wx, Below wf.heap.size wf wx → wx.cell? ⟨b4, o4 + m * 3, none⟩ = some (.bool bm.st) ∧ wx.cell? ⟨b4, o4 + m * 3 + 1, none⟩ = some (.bool bm.ra) ∧ wx.cell? ⟨b4, o4 + m * 3 + 2, none⟩ = some (.bool bm.pl)) := Lib.hid fun wx hb => by
        obtain ⟨b9, o9, e9, r0, r1, r2⟩ := facts_cell (HKX.out wx hb).facts hbg
        simp only [Option.some.injEq, Addr.mk.injEq] at e9
        obtain ⟨rfl, rfl, -⟩ := e9
        exact ⟨r0, r1, r2⟩
      have hp60 : part.length ≤ 60 := by omega
      have HPL := Lib.hid hpl
      clear hi hbg HLE HFI hpl
      go_wp2_with (fail)
      rw [hmm]
      clear hmm
      go_loopw [110] (fun v110 wr => ∃ z : Int, (z = 0 ∨ z = 1 ∨ z = 2 ∨ z = 3) ∧ v110 = .int .i64 z ∧ Hid (MixW wf wr g cap part)) (fun v110 _ => 3 - (intOf v110).toNat)
      case atStart => exact ⟨0, .inl rfl, rfl, HX⟩
      case round =>
        obtain ⟨z, hz, rfl, HX⟩ := hrel
        rcases hz with rfl | rfl | rfl | rfl
        · go_upto_region 24 with (first
            | (refine wpList_appendS (c := factC) (by rfl) _ _ rfl Tryz.underlying29 infoF' rfl (by decide) (by decide) factC_len factC_one wr.heap.size _ [] part rfl (World.ownsRow_nil _ _ _ _) _ rfl (HPF.out _ HX.out) (.inr ⟨_, _, _, rfl⟩) (by rw [List.length_nil]; omega) (Nat.le_refl _) ?_; intro v13 w5 hown hbl; rw [List.nil_append] at hown; obtain ⟨g2, cap2, rfl, he1, he2, hmx⟩ := MixW.of_own hbl hown (by have := HPL.out; omega); have HY : Hid (MixW wr w5 g2 cap2 part) := Lib.hid hmx; have HX5 := Lib.hid (HX.out.next hbl); clear hmx hown hbl; rw [HPL.out] at he1 ⊢))
          obtain ⟨r0, r1, r2⟩ := HBQ.out _ HX5.out.below
          obtain ⟨c0, c1, c2, fz⟩ := HY.out.cell hfm
          have fz0 := fz (m * 3)
          have HMT : Hid (fitsL (part.set m (putF fm 0 true)) (bestL p) = bm.st) := Lib.hid (HMO.out 0)
          rcases hbit : bm.st with _ | _
          · rw [hbit] at r0 HMT
            clear hbit r1 r2 c1 c2 fz
            have HZ : Hid (MixW wr (w5.setCell ⟨g2, m * 3, none⟩ (.bool true)) g2 cap2 (part.set m (putF fm 0 true))) := Lib.hid (HY.out.set (t := 0) true hfm (by omega))
            have HX2 : Hid (MixW wf (w5.setCell ⟨g2, m * 3, none⟩ (.bool true)) g cap part) := Lib.hid (HX.out.next HZ.out.below)
            have HZF : Hid (FactsAt (w5.setCell ⟨g2, m * 3, none⟩ (.bool true)) (.slice (some ⟨g2, 0, none⟩) p.code.length cap2) (part.set m (putF fm 0 true))) := Lib.hid (by have h9 := HZ.out.facts; rwa [List.length_set, HPL.out] at h9)
            clear HX5 HY HPF HBQ HMO
            go_wp2_with (first
              | (refine wpList_loadB rfl 25 _ rfl w.heap.size (progC (.slice x p.types.length kx) p (.slice x' p.code.length kx')) rfl 25 (HKX.out _ HX2.out.below).keep.blk _ Tryz.underlying25 rfl prog_info ?_)
              | (go_at_call 10; ((with_reducible refine (HFT.out _ _ _ _ (HKX.out _ HX2.out.below).below (HKX.out _ HX2.out.below).keep.at' HZF.out HMT.out).mono ?_); rintro e wh ⟨rfl, hb⟩; have HX3 := Lib.hid (HX2.out.next hb); clear hb)))
            go_roundw
            case rel => exact ⟨1, by omega, by go_num, HX3⟩
            case measure => simp [intOf]
          · rw [hbit] at r0 HMT
            clear hbit r1 r2 c1 c2 fz
            have HZ : Hid (MixW wr (w5.setCell ⟨g2, m * 3, none⟩ (.bool true)) g2 cap2 (part.set m (putF fm 0 true))) := Lib.hid (HY.out.set (t := 0) true hfm (by omega))
            have HX2 : Hid (MixW wf (w5.setCell ⟨g2, m * 3, none⟩ (.bool true)) g cap part) := Lib.hid (HX.out.next HZ.out.below)
            have HZF : Hid (FactsAt (w5.setCell ⟨g2, m * 3, none⟩ (.bool true)) (.slice (some ⟨g2, 0, none⟩) p.code.length cap2) (part.set m (putF fm 0 true))) := Lib.hid (by have h9 := HZ.out.facts; rwa [List.length_set, HPL.out] at h9)
            clear HX5 HY HPF HBQ HMO
            go_wp2_with (first
              | (refine wpList_loadB rfl 25 _ rfl w.heap.size (progC (.slice x p.types.length kx) p (.slice x' p.code.length kx')) rfl 25 (HKX.out _ HX2.out.below).keep.blk _ Tryz.underlying25 rfl prog_info ?_)
              | (go_at_call 10; ((with_reducible refine (HFT.out _ _ _ _ (HKX.out _ HX2.out.below).below (HKX.out _ HX2.out.below).keep.at' HZF.out HMT.out).mono ?_); rintro e wh ⟨rfl, hb⟩; have HX3 := Lib.hid (HX2.out.next hb); clear hb)))
            go_roundw
            case rel => exact ⟨1, by omega, by go_num, HX3⟩
            case measure => simp [intOf]
        · go_upto_region 24 with (first
            | (refine wpList_appendS (c := factC) (by rfl) _ _ rfl Tryz.underlying29 infoF' rfl (by decide) (by decide) factC_len factC_one wr.heap.size _ [] part rfl (World.ownsRow_nil _ _ _ _) _ rfl (HPF.out _ HX.out) (.inr ⟨_, _, _, rfl⟩) (by rw [List.length_nil]; omega) (Nat.le_refl _) ?_; intro v13 w5 hown hbl; rw [List.nil_append] at hown; obtain ⟨g2, cap2, rfl, he1, he2, hmx⟩ := MixW.of_own hbl hown (by have := HPL.out; omega); have HY : Hid (MixW wr w5 g2 cap2 part) := Lib.hid hmx; have HX5 := Lib.hid (HX.out.next hbl); clear hmx hown hbl; rw [HPL.out] at he1 ⊢))
          obtain ⟨r0, r1, r2⟩ := HBQ.out _ HX5.out.below
          obtain ⟨c0, c1, c2, fz⟩ := HY.out.cell hfm
          have fz0 := fz (m * 3 + 1)
          have HMT : Hid (fitsL (part.set m (putF fm 1 true)) (bestL p) = bm.ra) := Lib.hid (HMO.out 1)
          rcases hbit : bm.ra with _ | _
          · rw [hbit] at r1 HMT
            clear hbit r0 r2 c0 c2 fz
            have HZ : Hid (MixW wr (w5.setCell ⟨g2, m * 3 + 1, none⟩ (.bool true)) g2 cap2 (part.set m (putF fm 1 true))) := Lib.hid (HY.out.set (t := 1) true hfm (by omega))
            have HX2 : Hid (MixW wf (w5.setCell ⟨g2, m * 3 + 1, none⟩ (.bool true)) g cap part) := Lib.hid (HX.out.next HZ.out.below)
            have HZF : Hid (FactsAt (w5.setCell ⟨g2, m * 3 + 1, none⟩ (.bool true)) (.slice (some ⟨g2, 0, none⟩) p.code.length cap2) (part.set m (putF fm 1 true))) := Lib.hid (by have h9 := HZ.out.facts; rwa [List.length_set, HPL.out] at h9)
            clear HX5 HY HPF HBQ HMO
            go_wp2_with (first
              | (refine wpList_loadB rfl 25 _ rfl w.heap.size (progC (.slice x p.types.length kx) p (.slice x' p.code.length kx')) rfl 25 (HKX.out _ HX2.out.below).keep.blk _ Tryz.underlying25 rfl prog_info ?_)
              | (go_at_call 10; ((with_reducible refine (HFT.out _ _ _ _ (HKX.out _ HX2.out.below).below (HKX.out _ HX2.out.below).keep.at' HZF.out HMT.out).mono ?_); rintro e wh ⟨rfl, hb⟩; have HX3 := Lib.hid (HX2.out.next hb); clear hb)))
            go_roundw
            case rel => exact ⟨2, by omega, by go_num, HX3⟩
            case measure => simp [intOf]
          · rw [hbit] at r1 HMT
            clear hbit r0 r2 c0 c2 fz
            have HZ : Hid (MixW wr (w5.setCell ⟨g2, m * 3 + 1, none⟩ (.bool true)) g2 cap2 (part.set m (putF fm 1 true))) := Lib.hid (HY.out.set (t := 1) true hfm (by omega))
            have HX2 : Hid (MixW wf (w5.setCell ⟨g2, m * 3 + 1, none⟩ (.bool true)) g cap part) := Lib.hid (HX.out.next HZ.out.below)
            have HZF : Hid (FactsAt (w5.setCell ⟨g2, m * 3 + 1, none⟩ (.bool true)) (.slice (some ⟨g2, 0, none⟩) p.code.length cap2) (part.set m (putF fm 1 true))) := Lib.hid (by have h9 := HZ.out.facts; rwa [List.length_set, HPL.out] at h9)
            clear HX5 HY HPF HBQ HMO
            go_wp2_with (first
              | (refine wpList_loadB rfl 25 _ rfl w.heap.size (progC (.slice x p.types.length kx) p (.slice x' p.code.length kx')) rfl 25 (HKX.out _ HX2.out.below).keep.blk _ Tryz.underlying25 rfl prog_info ?_)
              | (go_at_call 10; ((with_reducible refine (HFT.out _ _ _ _ (HKX.out _ HX2.out.below).below (HKX.out _ HX2.out.below).keep.at' HZF.out HMT.out).mono ?_); rintro e wh ⟨rfl, hb⟩; have HX3 := Lib.hid (HX2.out.next hb); clear hb)))
            go_roundw
            case rel => exact ⟨2, by omega, by go_num, HX3⟩
            case measure => simp [intOf]
        · go_upto_region 24 with (first
            | (refine wpList_appendS (c := factC) (by rfl) _ _ rfl Tryz.underlying29 infoF' rfl (by decide) (by decide) factC_len factC_one wr.heap.size _ [] part rfl (World.ownsRow_nil _ _ _ _) _ rfl (HPF.out _ HX.out) (.inr ⟨_, _, _, rfl⟩) (by rw [List.length_nil]; omega) (Nat.le_refl _) ?_; intro v13 w5 hown hbl; rw [List.nil_append] at hown; obtain ⟨g2, cap2, rfl, he1, he2, hmx⟩ := MixW.of_own hbl hown (by have := HPL.out; omega); have HY : Hid (MixW wr w5 g2 cap2 part) := Lib.hid hmx; have HX5 := Lib.hid (HX.out.next hbl); clear hmx hown hbl; rw [HPL.out] at he1 ⊢))
          obtain ⟨r0, r1, r2⟩ := HBQ.out _ HX5.out.below
          obtain ⟨c0, c1, c2, fz⟩ := HY.out.cell hfm
          have fz0 := fz (m * 3 + 2)
          have HMT : Hid (fitsL (part.set m (putF fm 2 true)) (bestL p) = bm.pl) := Lib.hid (HMO.out 2)
          rcases hbit : bm.pl with _ | _
          · rw [hbit] at r2 HMT
            clear hbit r0 r1 c0 c1 fz
            have HZ : Hid (MixW wr (w5.setCell ⟨g2, m * 3 + 2, none⟩ (.bool true)) g2 cap2 (part.set m (putF fm 2 true))) := Lib.hid (HY.out.set (t := 2) true hfm (by omega))
            have HX2 : Hid (MixW wf (w5.setCell ⟨g2, m * 3 + 2, none⟩ (.bool true)) g cap part) := Lib.hid (HX.out.next HZ.out.below)
            have HZF : Hid (FactsAt (w5.setCell ⟨g2, m * 3 + 2, none⟩ (.bool true)) (.slice (some ⟨g2, 0, none⟩) p.code.length cap2) (part.set m (putF fm 2 true))) := Lib.hid (by have h9 := HZ.out.facts; rwa [List.length_set, HPL.out] at h9)
            clear HX5 HY HPF HBQ HMO
            go_wp2_with (first
              | (refine wpList_loadB rfl 25 _ rfl w.heap.size (progC (.slice x p.types.length kx) p (.slice x' p.code.length kx')) rfl 25 (HKX.out _ HX2.out.below).keep.blk _ Tryz.underlying25 rfl prog_info ?_)
              | (go_at_call 10; ((with_reducible refine (HFT.out _ _ _ _ (HKX.out _ HX2.out.below).below (HKX.out _ HX2.out.below).keep.at' HZF.out HMT.out).mono ?_); rintro e wh ⟨rfl, hb⟩; have HX3 := Lib.hid (HX2.out.next hb); clear hb)))
            go_roundw
            case rel => exact ⟨3, by omega, by go_num, HX3⟩
            case measure => simp [intOf]
          · rw [hbit] at r2 HMT
            clear hbit r0 r1 c0 c1 fz
            have HZ : Hid (MixW wr (w5.setCell ⟨g2, m * 3 + 2, none⟩ (.bool true)) g2 cap2 (part.set m (putF fm 2 true))) := Lib.hid (HY.out.set (t := 2) true hfm (by omega))
            have HX2 : Hid (MixW wf (w5.setCell ⟨g2, m * 3 + 2, none⟩ (.bool true)) g cap part) := Lib.hid (HX.out.next HZ.out.below)
            have HZF : Hid (FactsAt (w5.setCell ⟨g2, m * 3 + 2, none⟩ (.bool true)) (.slice (some ⟨g2, 0, none⟩) p.code.length cap2) (part.set m (putF fm 2 true))) := Lib.hid (by have h9 := HZ.out.facts; rwa [List.length_set, HPL.out] at h9)
            clear HX5 HY HPF HBQ HMO
            go_wp2_with (first
              | (refine wpList_loadB rfl 25 _ rfl w.heap.size (progC (.slice x p.types.length kx) p (.slice x' p.code.length kx')) rfl 25 (HKX.out _ HX2.out.below).keep.blk _ Tryz.underlying25 rfl prog_info ?_)
              | (go_at_call 10; ((with_reducible refine (HFT.out _ _ _ _ (HKX.out _ HX2.out.below).below (HKX.out _ HX2.out.below).keep.at' HZF.out HMT.out).mono ?_); rintro e wh ⟨rfl, hb⟩; have HX3 := Lib.hid (HX2.out.next hb); clear hb)))
            go_roundw
            case rel => exact ⟨3, by omega, by go_num, HX3⟩
            case measure => simp [intOf]
        · go_wp2_with (fail)
          go_ret
          exact ⟨rfl, (HKX.out _ HX.out.below).below⟩
theorem plfits_walk (v vk : Value) (p : PProg) (keep : List PFact) (a0 : Int) (w : World) (h : ProgAt w v p) (hs : OkP p) (hO : HasO w) (ht' : HasT w) (hk : FactsAt w vk keep) (l0 : 0 ≤ a0) (l1 : a0 ≤ 255) : Calls Tryz.prog 3 #[v, vk, .int .u8 a0] w fun e w' => e = .returned (.bool true) ∧ Below w.heap.size w w' := by
  obtain ⟨vt, vc, rfl, ht, hc⟩ := id h
  have hwb : Below w.heap.size w (w.alloc (.cells (progC vt p vc) 25)) := (Below.refl _ _).alloc (Nat.le_refl _) _
  have HK := keep_new h
  obtain ⟨x, c, rfl, -, -, -⟩ := id ht.elems
  obtain ⟨x', c', rfl, q1, q2, -⟩ := id hc
  unfold maxLen at q2
  obtain ⟨aN, rfl⟩ : ∃ aN : Nat, a0 = aN := ⟨a0.toNat, by omega⟩
  obtain ⟨ak, ck, rfl, k1, k2⟩ := hk.form
  exact plfitsl_at w _ p x x' c c' keep ak ck aN rfl (Lib.hid HK) (Lib.hid hwb) (Lib.hid fun w1 hb => plalive_n w1 (hO.below hb)) (Lib.hid fun w1 h1 hb1 => sound_n _ p w1 _ h1 hs (ht'.below hb1) rfl) (by omega) q1 (Lib.hid hs.ins) (Lib.hid fun hsd w1 h1 hb => best_post h1 hs (hO.below hb) (sound_parts hsd).2.2.1) (Lib.hid hk) (by omega) (by omega) (Lib.hid fun hsd w1 vl l r hb h1 hl hr => by rw [← hr]; exact plfits_n _ vl p l w1 h1 hs (hO.below hb) (sound_parts hsd).2.2.1 hl)
end Go.Proofs.YtapjgobkpehgfaaGreatDoor
