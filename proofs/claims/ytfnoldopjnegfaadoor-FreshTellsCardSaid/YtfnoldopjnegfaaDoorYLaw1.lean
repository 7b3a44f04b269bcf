/-
  FreshTells: the walk.
-/
import Derived.Test.YtfnoldopjnegfaaDoorVPU
import Derived.Deep.LoopGhost
import Derived.Deep.RegionHeld3
import Derived.Deep.CutRange
import Derived.Deep.CutBlock
import Derived.Deep.QuietTactic
namespace Go.Proofs.YtfnoldopjnegfaaDoor
set_option linter.unusedSimpArgs false
set_option linter.unusedVariables false
open Go.RowKit

set_option maxRecDepth 100000 in
set_option maxHeartbeats 8000000 in
theorem ftells_at (w W0 : World) (p : PProg) (k : Int) (m : Nat) (x x' : Option Addr) (kx kx' : Nat)
    (hW0 : W0 = w.alloc (.cells (progC (.slice x p.types.length kx) p (.slice x' p.code.length kx')) 25)) (KP : Hid (Keep W0 w.heap.size (.slice x p.types.length kx) (.slice x' p.code.length kx') p)) (HB : Hid (Below w.heap.size w W0))
    (HAL : Hid (∀ w1, Calls Tryd.prog 10 #[] w1 (AggPost w1 (.bool true))))
    (HSO : Hid (∀ w1, ProgAt w1 (.agg (progC (.slice x p.types.length kx) p (.slice x' p.code.length kx'))) p → Below w.heap.size w w1 → Calls Tryd.prog 11 #[.agg (progC (.slice x p.types.length kx) p (.slice x' p.code.length kx'))] w1 (AggPost w1 (.bool (soundB p)))))
    (g2 : kx' ≤ 9223372036854775807) (g1 : p.code.length ≤ kx') (hm : m < 256)
    (HLI : Hid (soundB p = true → ∀ w1, ProgAt w1 (.agg (progC (.slice x p.types.length kx) p (.slice x' p.code.length kx'))) p → Calls Tryd.prog 12 #[.agg #[.slice x p.types.length kx, str p.locals, str p.globs, .slice x' p.code.length kx']] w1 (U8sPost w1 (freshL p))))
    (HRI : Hid (soundB p = true → ∀ w1, ProgAt w1 (.agg (progC (.slice x p.types.length kx) p (.slice x' p.code.length kx'))) p → Calls Tryd.prog 13 #[.agg #[.slice x p.types.length kx, str p.locals, str p.globs, .slice x' p.code.length kx']] w1 (U8sPost w1 (freshL p))))
    (HOU : Hid (∀ (w1 : World) (k : Int) (m : Nat), ProgAt w1 (.agg (progC (.slice x p.types.length kx) p (.slice x' p.code.length kx'))) p → m < 256 → Calls Tryd.prog 14 #[.agg #[.slice x p.types.length kx, str p.locals, str p.globs, .slice x' p.code.length kx'], .int .i64 k, .int .u8 (m : Int)] w1 (AggPost w1 (.int .u8 ((outV p k m : Nat) : Int)))))
    (HOR : Hid (∀ (w1 : World) (k : Int) (m : Nat), ProgAt w1 (.agg (progC (.slice x p.types.length kx) p (.slice x' p.code.length kx'))) p → m < 256 → Calls Tryd.prog 15 #[.agg #[.slice x p.types.length kx, str p.locals, str p.globs, .slice x' p.code.length kx'], .int .i64 k, .int .u8 (m : Int)] w1 (AggPost w1 (.int .u8 ((outV p k m : Nat) : Int))))) :
    Calls Tryd.prog 3 #[.agg (progC (.slice x p.types.length kx) p (.slice x' p.code.length kx')), .int .i64 k, .int .u8 (m : Int)] w (AggPost w (.bool true)) := by
  go_enter Tryd.func3, Tryd.ntmps3
  go_upto_region 1 with (fail)
  rw [← hW0]
  clear hW0
  rcases hsd : soundB p with _ | _
  · rw [hsd] at HSO
    go_wp2_with (first
      | (refine wpList_loadB rfl 25 _ rfl w.heap.size (progC (.slice x p.types.length kx) p (.slice x' p.code.length kx')) rfl 25 KP.out.blk _ Tryd.underlying25 rfl prog_info ?_)
      | (go_at_call 10; ((with_reducible refine (HAL.out _).mono ?_); rintro e w1 ⟨rfl, hb⟩; have KP := Lib.hid (KP.out.below hb); have HB := Lib.hid (HB.out.trans (hb.mono HB.out.size)); clear hb))
      | (go_at_call 11; ((with_reducible refine (HSO.out _ KP.out.at' HB.out).mono ?_); rintro e w2 ⟨rfl, hb⟩; have KP := Lib.hid (KP.out.below hb); have HB := Lib.hid (HB.out.trans (hb.mono HB.out.size)); clear hb)))
    go_ret
    exact ⟨rfl, HB.out⟩
  have HLI := Lib.hid (HLI.out hsd)
  have HRI := Lib.hid (HRI.out hsd)
  have hl60 := (sound_parts hsd).2.1
  rw [hsd] at HSO
  clear hsd
  go_upto_region 5 with (first
    | (refine wpList_loadB rfl 25 _ rfl w.heap.size (progC (.slice x p.types.length kx) p (.slice x' p.code.length kx')) rfl 25 KP.out.blk _ Tryd.underlying25 rfl prog_info ?_)
    | (go_at_call 10; ((with_reducible refine (HAL.out _).mono ?_); rintro e w1 ⟨rfl, hb⟩; have KP := Lib.hid (KP.out.below hb); have HB := Lib.hid (HB.out.trans (hb.mono HB.out.size)); clear hb))
    | (go_at_call 11; ((with_reducible refine (HSO.out _ KP.out.at' HB.out).mono ?_); rintro e w2 ⟨rfl, hb⟩; have KP := Lib.hid (KP.out.below hb); have HB := Lib.hid (HB.out.trans (hb.mono HB.out.size)); clear hb)))
  clear HSO HAL
  obtain ⟨p0, p1, p2, p3⟩ := KP.out.cells
  have KD : Hid (Keep w2.drew w.heap.size (.slice x p.types.length kx) (.slice x' p.code.length kx') p) := Lib.hid (KP.out.below (Below.refl _ _).drew)
  have HD : Hid (Below w.heap.size w w2.drew) := Lib.hid (HB.out.drew)
  go_cut [7, 8] from 6 (fun v7 v8 wx => ∃ b4 o4 c4 b5 o5 c5, v7 = .slice (some ⟨b4, o4, none⟩) (p.code.length + 1) c4 ∧ v8 = .slice (some ⟨b5, o5, none⟩) (p.code.length + 1) c5 ∧ TwoK w wx b4 o4 c4 b5 o5 c5 (freshL p) (freshL p) x x' kx kx' p)
  case first =>
    go_region_held3 (fun w' => w'.cell? ⟨w.heap.size, 0, none⟩ = some (.slice x p.types.length kx) ∧ w'.cell? ⟨w.heap.size, 1, none⟩ = some (str p.locals) ∧ w'.cell? ⟨w.heap.size, 2, none⟩ = some (str p.globs) ∧ w'.cell? ⟨w.heap.size, 3, none⟩ = some (.slice x' p.code.length kx')) (go_keep) (first
      | (go_at_call 12; ((with_reducible refine (HLI.out _ KD.out.at').mono ?_); rintro e w' ⟨v, rfl, hr, hb⟩; obtain ⟨b4, o4, c4, hv, hc4, hd4, hbx, hcell⟩ := u8A_cells hr fresh_n1; subst hv; (try (have H5 := Lib.hid (H5.out.next hb))); have H4 := Lib.hid (U8At.mk hbx hcell); have KD := Lib.hid (KD.out.below hb); have HD := Lib.hid (HD.out.trans (hb.mono HD.out.size)); clear hr hb hcell hbx p0 p1 p2 p3; obtain ⟨p0, p1, p2, p3⟩ := KD.out.cells))
      | (go_at_call 13; ((with_reducible refine (HRI.out _ KD.out.at').mono ?_); rintro e w' ⟨v, rfl, hr, hb⟩; obtain ⟨b5, o5, c5, hv, hc5, hd5, hbx, hcell⟩ := u8A_cells hr fresh_n1; subst hv; (try (have H4 := Lib.hid (H4.out.next hb))); have H5 := Lib.hid (U8At.mk hbx hcell); have KD := Lib.hid (KD.out.below hb); have HD := Lib.hid (HD.out.trans (hb.mono HD.out.size)); clear hr hb hcell hbx p0 p1 p2 p3; obtain ⟨p0, p1, p2, p3⟩ := KD.out.cells)))
    all_goals
      clear p0 p1 p2 p3
      go_wp2_with fail
      go_meet
      exact ⟨_, _, _, _, _, _, rfl, rfl, KD.out, HD.out, H4.out, H5.out, hc4, hc5, hd4, hd5⟩
  case rest =>
    obtain ⟨b4, o4, c4, b5, o5, c5, rfl, rfl, hq⟩ := hcut
    have e4 := hq.two.g4
    have e5 := hq.two.g5
    have f4 := hq.two.g6
    have f5 := hq.two.g7
    have HQ := Lib.hid hq
    clear hq KD HD KP HB HLI HRI p0 p1 p2 p3
    obtain ⟨p0, p1, p2, p3⟩ := HQ.out.keep.cells
    have HO1 : Hid (∀ w1, ProgAt w1 (.agg (progC (.slice x p.types.length kx) p (.slice x' p.code.length kx'))) p → Calls Tryd.prog 14 #[.agg #[.slice x p.types.length kx, str p.locals, str p.globs, .slice x' p.code.length kx'], .int .i64 k, .int .u8 (m : Int)] w1 (AggPost w1 (.int .u8 ((outV p k m : Nat) : Int)))) := Lib.hid fun w1 h1 => HOU.out w1 k m h1 hm
    have HO2 : Hid (∀ w1, ProgAt w1 (.agg (progC (.slice x p.types.length kx) p (.slice x' p.code.length kx'))) p → Calls Tryd.prog 15 #[.agg #[.slice x p.types.length kx, str p.locals, str p.globs, .slice x' p.code.length kx'], .int .i64 k, .int .u8 (m : Int)] w1 (AggPost w1 (.int .u8 ((outV p k m : Nat) : Int)))) := Lib.hid fun w1 h1 => HOR.out w1 k m h1 hm
    generalize outV p k m = z at HO1 HO2
    clear HOU HOR
    go_upto_region 6 with (fail)
    have HQ := Lib.hid (HQ.out.next (Below.refl _ _).drew)
    go_region_held3 (fun w' => w'.cell? ⟨w.heap.size, 0, none⟩ = some (.slice x p.types.length kx) ∧ w'.cell? ⟨w.heap.size, 1, none⟩ = some (str p.locals) ∧ w'.cell? ⟨w.heap.size, 2, none⟩ = some (str p.globs) ∧ w'.cell? ⟨w.heap.size, 3, none⟩ = some (.slice x' p.code.length kx')) (go_keep) (first
      | (go_at_call 14; ((with_reducible refine (HO1.out _ HQ.out.keep.at').mono ?_); rintro e wq ⟨rfl, hb⟩; have HQ := Lib.hid (HQ.out.next hb); clear hb p0 p1 p2 p3; obtain ⟨p0, p1, p2, p3⟩ := HQ.out.keep.cells))
      | (go_at_call 15; ((with_reducible refine (HO2.out _ HQ.out.keep.at').mono ?_); rintro e wq ⟨rfl, hb⟩; have HQ := Lib.hid (HQ.out.next hb); clear hb p0 p1 p2 p3; obtain ⟨p0, p1, p2, p3⟩ := HQ.out.keep.cells)))
    all_goals
      clear p0 p1 p2 p3
      go_wp2
      go_loopw [37] (fun v37 wx => ∃ t : Nat, t ≤ p.code.length + 1 ∧ v37 = .int .i64 t ∧ Hid (TwoK w wx b4 o4 c4 b5 o5 c5 (freshL p) (freshL p) x x' kx kx' p)) (fun v37 _ => p.code.length + 1 - (intOf v37).toNat)
      case atStart => exact ⟨0, Nat.zero_le _, rfl, HQ⟩
      case round =>
        obtain ⟨t, ht, rfl, HX⟩ := hrel
        by_cases htl : t ≤ p.code.length
        · have hti : (t : Int) < (p.code.length : Int) + 1 := by omega
          have q4 := HX.out.two.h4.c t htl
          have q5 := HX.out.two.h5.c t htl
          generalize (freshL p).getD t 0 = z at q4 q5
          go_upto_region 11 with (fail)
          go_quiet (fail)
          go_wp2
          go_roundw
          case rel => exact ⟨t + 1, by omega, by go_num, Lib.hid (HX.out.next (below8_draws (Below.refl _ _) _))⟩
          case measure => simp [intOf]; omega
        · have htn : ¬ ((t : Int) < (p.code.length : Int) + 1) := by omega
          go_wp2
          go_ret
          exact ⟨rfl, HX.out.two.below⟩
theorem ftells_walk (v : Value) (p : PProg) (k m : Int) (w : World) (h : ProgAt w v p) (hs : OkP p) (hm0 : 0 ≤ m) (hm : m ≤ 255) (ht' : HasT w) : Calls Tryd.prog 3 #[v, .int .i64 k, .int .u8 m] w fun e w' => e = .returned (.bool true) ∧ Below w.heap.size w w' := by
  obtain ⟨vt, vc, rfl, ht, hc⟩ := id h
  have hwb : Below w.heap.size w (w.alloc (.cells (progC vt p vc) 25)) := (Below.refl _ _).alloc (Nat.le_refl _) _
  have HK := keep_new h
  obtain ⟨x, c, rfl, -, -, -⟩ := id ht.elems
  obtain ⟨x', c', rfl, q1, q2, -⟩ := id hc
  unfold maxLen at q2
  obtain ⟨mn, rfl⟩ : ∃ mn : Nat, m = mn := ⟨m.toNat, by omega⟩
  exact ftells_at w _ p k mn x x' c c' rfl (Lib.hid HK) (Lib.hid hwb) (Lib.hid fun w1 => yalive_n w1) (Lib.hid fun w1 h1 hb1 => sound_n _ p w1 _ h1 hs (ht'.below hb1) rfl) (by omega) q1 (by omega) (Lib.hid fun hsd w1 h1 => yin_n _ p w1 h1 hs (sound_parts hsd).2.2.2.1 (by have := (sound_parts hsd).2.1; omega)) (Lib.hid fun hsd w1 h1 => rin9_n _ p w1 h1 hs (sound_parts hsd).2.2.2.1 (by have := (sound_parts hsd).2.1; omega)) (Lib.hid fun w1 k m h1 hm => yout_n _ p w1 k m h1 hs.ins hm) (Lib.hid fun w1 k m h1 hm => rout9_n _ p w1 k m h1 hs.ins hm)
end Go.Proofs.YtfnoldopjnegfaaDoor
