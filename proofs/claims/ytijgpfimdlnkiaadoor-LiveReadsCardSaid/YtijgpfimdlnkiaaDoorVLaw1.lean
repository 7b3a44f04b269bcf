/-
  LiveTells: the walk.
-/
import Derived.Test.YtijgpfimdlnkiaaDoorVPA
import Derived.Deep.LoopGhost
import Derived.Deep.RegionHeld3
import Derived.Deep.CutRange
import Derived.Deep.QuietTactic
namespace Go.Proofs.YtijgpfimdlnkiaaDoor
set_option linter.unusedSimpArgs false
set_option linter.unusedVariables false
open Go.RowKit

theorem ins_cells {w : World} {I : Nat} {op a b c n : Int} (h : blk w I (insC ⟨op, a, b, c, n⟩) 27) : w.cell? ⟨I, 0, none⟩ = some (.int .u8 op) ∧ w.cell? ⟨I, 1, none⟩ = some (.int .u8 a) ∧ w.cell? ⟨I, 2, none⟩ = some (.int .u8 b) ∧ w.cell? ⟨I, 3, none⟩ = some (.int .u8 c) ∧ w.cell? ⟨I, 4, none⟩ = some (.int .i64 n) :=
  ⟨blk_cell h 0 _ rfl, blk_cell h 1 _ rfl, blk_cell h 2 _ rfl, blk_cell h 3 _ rfl, blk_cell h 4 _ rfl⟩
/-- Two answers of In, at their places. -/
structure TwoR (w wx : World) (n b4 o4 c4 b5 o5 c5 : Nat) (l4 l5 : List Nat) : Prop where
  below : Below w.heap.size w wx
  h4 : U8At wx b4 o4 n l4
  h5 : U8At wx b5 o5 n l5
  g4 : n + 1 ≤ c4
  g5 : n + 1 ≤ c5
  g6 : c4 ≤ 9223372036854775807
  g7 : c5 ≤ 9223372036854775807
theorem below8_draws {B : Nat} {w w' : World} (h : Below B w w') (n : Nat) : Below B w (w'.drewN n) := ⟨h.os, h.tape, h.output, h.size, h.block⟩
set_option maxRecDepth 100000 in
set_option maxHeartbeats 8000000 in
theorem ltells_at (w W0 : World) (p : PProg) (op a b c n : Int) (x x' : Option Addr) (kx kx' uN sN : Nat)
    (hW0 : W0 = (w.alloc (.cells (progC (.slice x p.types.length kx) p (.slice x' p.code.length kx')) 25)).alloc (.cells (insC ⟨op, a, b, c, n⟩) 27)) (KI : Hid (blk W0 (w.heap.size + 1) (insC ⟨op, a, b, c, n⟩) 27)) (KP : Hid (Keep W0 w.heap.size (.slice x p.types.length kx) (.slice x' p.code.length kx') p)) (HB : Hid (Below w.heap.size w W0))
    (HAL : Hid (∀ w1, Calls Tryd.prog 9 #[] w1 (AggPost w1 (.bool true))))
    (HSO : Hid (∀ w1, ProgAt w1 (.agg (progC (.slice x p.types.length kx) p (.slice x' p.code.length kx'))) p → Below w.heap.size w w1 → Calls Tryd.prog 14 #[.agg (progC (.slice x p.types.length kx) p (.slice x' p.code.length kx'))] w1 (AggPost w1 (.bool (soundB p)))))
    (g2 : kx' ≤ 9223372036854775807) (g1 : p.code.length ≤ kx')
    (HU : Hid (∀ w1, Calls Tryd.prog 10 #[.agg #[.int .u8 op, .int .u8 a, .int .u8 b, .int .u8 c, .int .i64 n]] w1 (AggPost w1 (.int .u8 (uN : Int))))) (HUR : Hid (∀ w1, Calls Tryd.prog 11 #[.agg #[.int .u8 op, .int .u8 a, .int .u8 b, .int .u8 c, .int .i64 n]] w1 (AggPost w1 (.int .u8 (uN : Int)))))
    (HS : Hid (∀ w1, Calls Tryd.prog 12 #[.agg #[.int .u8 op, .int .u8 a, .int .u8 b, .int .u8 c, .int .i64 n]] w1 (AggPost w1 (.int .u8 (sN : Int))))) (HSR : Hid (∀ w1, Calls Tryd.prog 13 #[.agg #[.int .u8 op, .int .u8 a, .int .u8 b, .int .u8 c, .int .i64 n]] w1 (AggPost w1 (.int .u8 (sN : Int)))))
    (HLI : Hid (soundB p = true → ∀ w1, ProgAt w1 (.agg (progC (.slice x p.types.length kx) p (.slice x' p.code.length kx'))) p → Calls Tryd.prog 15 #[.agg #[.slice x p.types.length kx, str p.locals, str p.globs, .slice x' p.code.length kx']] w1 (U8sPost w1 (liveL p))))
    (HRI : Hid (soundB p = true → ∀ w1, ProgAt w1 (.agg (progC (.slice x p.types.length kx) p (.slice x' p.code.length kx'))) p → Calls Tryd.prog 16 #[.agg #[.slice x p.types.length kx, str p.locals, str p.globs, .slice x' p.code.length kx']] w1 (U8sPost w1 (liveL p)))) :
    Calls Tryd.prog 3 #[.agg (progC (.slice x p.types.length kx) p (.slice x' p.code.length kx')), .agg (insC ⟨op, a, b, c, n⟩)] w (AggPost w (.bool true)) := by
  go_enter Tryd.func3, Tryd.ntmps3
  go_upto_region 1 with (fail)
  rw [← hW0]
  clear hW0
  go_upto_region 3 with (go_at_call 9; ((with_reducible refine (HAL.out _).mono ?_); rintro e w1 ⟨rfl, hb⟩; have KI := Lib.hid (blk_below KI.out hb); have KP := Lib.hid (KP.out.below hb); have HB := Lib.hid (HB.out.trans (hb.mono HB.out.size)); clear hb))
  have KD : Hid (Keep w1.drew w.heap.size (.slice x p.types.length kx) (.slice x' p.code.length kx') p) := Lib.hid (KP.out.below (Below.refl _ _).drew)
  have HD : Hid (Below w.heap.size w w1.drew) := Lib.hid (HB.out.drew)
  have KI : Hid (blk w1.drew (w.heap.size + 1) (insC ⟨op, a, b, c, n⟩) 27) := Lib.hid (blk_below KI.out (Below.refl _ _).drew)
  obtain ⟨c0, c1, c2, c3, c4⟩ := ins_cells KI.out
  clear KP HB
  go_region_held3 (fun w' => w'.cell? ⟨w.heap.size + 1, 0, none⟩ = some (.int .u8 op) ∧ w'.cell? ⟨w.heap.size + 1, 1, none⟩ = some (.int .u8 a) ∧ w'.cell? ⟨w.heap.size + 1, 2, none⟩ = some (.int .u8 b) ∧ w'.cell? ⟨w.heap.size + 1, 3, none⟩ = some (.int .u8 c) ∧ w'.cell? ⟨w.heap.size + 1, 4, none⟩ = some (.int .i64 n)) (go_keep) (first
    | (go_at_call 10; ((with_reducible refine (HU.out _).mono ?_); rintro e wq ⟨rfl, hb⟩; have KD := Lib.hid (KD.out.below hb); have HD := Lib.hid (HD.out.trans (hb.mono HD.out.size)); have KI := Lib.hid (blk_below KI.out hb); clear hb c0 c1 c2 c3 c4; obtain ⟨c0, c1, c2, c3, c4⟩ := ins_cells KI.out))
    | (go_at_call 11; ((with_reducible refine (HUR.out _).mono ?_); rintro e wq ⟨rfl, hb⟩; have KD := Lib.hid (KD.out.below hb); have HD := Lib.hid (HD.out.trans (hb.mono HD.out.size)); have KI := Lib.hid (blk_below KI.out hb); clear hb c0 c1 c2 c3 c4; obtain ⟨c0, c1, c2, c3, c4⟩ := ins_cells KI.out))
    | (go_at_call 12; ((with_reducible refine (HS.out _).mono ?_); rintro e wq ⟨rfl, hb⟩; have KD := Lib.hid (KD.out.below hb); have HD := Lib.hid (HD.out.trans (hb.mono HD.out.size)); have KI := Lib.hid (blk_below KI.out hb); clear hb c0 c1 c2 c3 c4; obtain ⟨c0, c1, c2, c3, c4⟩ := ins_cells KI.out))
    | (go_at_call 13; ((with_reducible refine (HSR.out _).mono ?_); rintro e wq ⟨rfl, hb⟩; have KD := Lib.hid (KD.out.below hb); have HD := Lib.hid (HD.out.trans (hb.mono HD.out.size)); have KI := Lib.hid (blk_below KI.out hb); clear hb c0 c1 c2 c3 c4; obtain ⟨c0, c1, c2, c3, c4⟩ := ins_cells KI.out)))
  have KP := KD
  have HB := HD
  clear KD HD
  clear c0 c1 c2 c3 c4 KI HU HUR HS HSR
  rcases hsd : soundB p with _ | _
  · rw [hsd] at HSO
    go_wp2_with (first
      | (refine wpList_loadB rfl 25 _ rfl w.heap.size (progC (.slice x p.types.length kx) p (.slice x' p.code.length kx')) rfl 25 KP.out.blk _ Tryd.underlying25 rfl prog_info ?_)
      | (go_at_call 14; ((with_reducible refine (HSO.out _ KP.out.at' HB.out).mono ?_); rintro e w2 ⟨rfl, hb⟩; have KP := Lib.hid (KP.out.below hb); have HB := Lib.hid (HB.out.trans (hb.mono HB.out.size)); clear hb)))
    go_ret
    exact ⟨rfl, HB.out⟩
  have HLI := Lib.hid (HLI.out hsd)
  have HRI := Lib.hid (HRI.out hsd)
  have hl60 := (sound_parts hsd).2.1
  rw [hsd] at HSO
  clear hsd
  go_upto_region 7 with (first
    | (refine wpList_loadB rfl 25 _ rfl w.heap.size (progC (.slice x p.types.length kx) p (.slice x' p.code.length kx')) rfl 25 KP.out.blk _ Tryd.underlying25 rfl prog_info ?_)
    | (go_at_call 14; ((with_reducible refine (HSO.out _ KP.out.at' HB.out).mono ?_); rintro e w2 ⟨rfl, hb⟩; have KP := Lib.hid (KP.out.below hb); have HB := Lib.hid (HB.out.trans (hb.mono HB.out.size)); clear hb)))
  clear HSO HAL
  obtain ⟨p0, p1, p2, p3⟩ := KP.out.cells
  have KD : Hid (Keep w2.drew w.heap.size (.slice x p.types.length kx) (.slice x' p.code.length kx') p) := Lib.hid (KP.out.below (Below.refl _ _).drew)
  have HD : Hid (Below w.heap.size w w2.drew) := Lib.hid (HB.out.drew)
  go_cut [5, 6] from 8 (fun v5 v6 wx => ∃ b4 o4 c4 b5 o5 c5, v5 = .slice (some ⟨b4, o4, none⟩) (p.code.length + 1) c4 ∧ v6 = .slice (some ⟨b5, o5, none⟩) (p.code.length + 1) c5 ∧ TwoR w wx p.code.length b4 o4 c4 b5 o5 c5 (liveL p) (liveL p))
  case first =>
    go_region_held3 (fun w' => w'.cell? ⟨w.heap.size, 0, none⟩ = some (.slice x p.types.length kx) ∧ w'.cell? ⟨w.heap.size, 1, none⟩ = some (str p.locals) ∧ w'.cell? ⟨w.heap.size, 2, none⟩ = some (str p.globs) ∧ w'.cell? ⟨w.heap.size, 3, none⟩ = some (.slice x' p.code.length kx')) (go_keep) (first
      | (go_at_call 15; ((with_reducible refine (HLI.out _ KD.out.at').mono ?_); rintro e w' ⟨v, rfl, hr, hb⟩; obtain ⟨b4, o4, c4, hv, hc4, hd4, hbx, hcell⟩ := u8A_cells hr live_n1; subst hv; (try (have H5 := Lib.hid (H5.out.next hb))); have H4 := Lib.hid (U8At.mk hbx hcell); have KD := Lib.hid (KD.out.below hb); have HD := Lib.hid (HD.out.trans (hb.mono HD.out.size)); clear hr hb hcell hbx p0 p1 p2 p3; obtain ⟨p0, p1, p2, p3⟩ := KD.out.cells))
      | (go_at_call 16; ((with_reducible refine (HRI.out _ KD.out.at').mono ?_); rintro e w' ⟨v, rfl, hr, hb⟩; obtain ⟨b5, o5, c5, hv, hc5, hd5, hbx, hcell⟩ := u8A_cells hr live_n1; subst hv; (try (have H4 := Lib.hid (H4.out.next hb))); have H5 := Lib.hid (U8At.mk hbx hcell); have KD := Lib.hid (KD.out.below hb); have HD := Lib.hid (HD.out.trans (hb.mono HD.out.size)); clear hr hb hcell hbx p0 p1 p2 p3; obtain ⟨p0, p1, p2, p3⟩ := KD.out.cells)))
    all_goals
      clear p0 p1 p2 p3
      go_wp2_with fail
      go_meet
      exact ⟨_, _, _, _, _, _, rfl, rfl, HD.out, H4.out, H5.out, hc4, hc5, hd4, hd5⟩
  case rest =>
    obtain ⟨b4, o4, c4, b5, o5, c5, rfl, rfl, hq⟩ := hcut
    have HQ := Lib.hid hq
    have e4 := hq.g4
    have e5 := hq.g5
    have f4 := hq.g6
    have f5 := hq.g7
    clear hq KD HD KP HB HLI HRI p0 p1 p2 p3
    go_wp2
    go_loopw [36] (fun v36 wx => ∃ t : Nat, t ≤ p.code.length + 1 ∧ v36 = .int .i64 t ∧ Hid (Below w.heap.size w wx) ∧ Hid (Below wc.heap.size wc wx)) (fun v36 _ => p.code.length + 1 - (intOf v36).toNat)
    case atStart => exact ⟨0, Nat.zero_le _, rfl, Lib.hid HQ.out.below, Lib.hid (Below.refl _ _)⟩
    case round =>
      obtain ⟨t, ht, rfl, HBX, HCX⟩ := hrel
      by_cases htl : t ≤ p.code.length
      · have hti : (t : Int) < (p.code.length : Int) + 1 := by omega
        have q4 := (HQ.out.h4.next HCX.out).c t htl
        have q5 := (HQ.out.h5.next HCX.out).c t htl
        generalize (liveL p).getD t 0 = z at q4 q5
        go_upto_region 13 with (fail)
        go_quiet (fail)
        go_wp2
        go_roundw
        case rel => exact ⟨t + 1, by omega, by go_num, Lib.hid (below8_draws HBX.out _), Lib.hid (below8_draws HCX.out _)⟩
        case measure => simp [intOf]; omega
      · have htn : ¬ ((t : Int) < (p.code.length : Int) + 1) := by omega
        go_wp2
        go_ret
        exact ⟨rfl, HBX.out⟩
theorem ltells_walk (v : Value) (p : PProg) (i : PIns) (w : World) (h : ProgAt w v p) (hs : OkP p) (ho : OkI i) (ht' : HasT w) : Calls Tryd.prog 3 #[v, .agg (insC i)] w fun e w' => e = .returned (.bool true) ∧ Below w.heap.size w w' := by
  obtain ⟨op, ia, ib, ic, n⟩ := i
  obtain ⟨vt, vc, rfl, ht, hc⟩ := id h
  have hwb : Below w.heap.size w (w.alloc (.cells (progC vt p vc) 25)) := (Below.refl _ _).alloc (Nat.le_refl _) _
  have HK := keep_new h
  obtain ⟨x, c, rfl, -, -, -⟩ := id ht.elems
  obtain ⟨x', c', rfl, q1, q2, -⟩ := id hc
  unfold maxLen at q2
  have hwb2 : Below (w.alloc (.cells (progC (.slice x p.types.length c) p (.slice x' p.code.length c')) 25)).heap.size (w.alloc (.cells (progC (.slice x p.types.length c) p (.slice x' p.code.length c')) 25)) ((w.alloc (.cells (progC (.slice x p.types.length c) p (.slice x' p.code.length c')) 25)).alloc (.cells (insC ⟨op, ia, ib, ic, n⟩) 27)) := (Below.refl _ _).alloc (Nat.le_refl _) _
  have hI : (w.alloc (.cells (progC (.slice x p.types.length c) p (.slice x' p.code.length c')) 25)).heap.size = w.heap.size + 1 := World.size_alloc _ _
  exact ltells_at w _ p op ia ib ic n x x' c c' (usesN ⟨op, ia, ib, ic, n⟩) (setsN ⟨op, ia, ib, ic, n⟩) rfl (Lib.hid (by rw [← hI]; exact blk_new _ _ _)) (Lib.hid (HK.below hwb2)) (Lib.hid (hwb.trans (hwb2.mono hwb.size))) (Lib.hid fun w1 => valive_n w1) (Lib.hid fun w1 h1 hb1 => sound_n _ p w1 _ h1 hs (ht'.below hb1) rfl) (by omega) q1
    (Lib.hid fun w1 => luses_n _ w1 ho) (Lib.hid fun w1 => ruses_n _ w1 ho) (Lib.hid fun w1 => lsets_n _ w1 ho) (Lib.hid fun w1 => rsets_n _ w1 ho) (Lib.hid fun hsd w1 h1 => lin_n _ p w1 h1 hs (sound_parts hsd).2.2.2.1 (by have := (sound_parts hsd).2.1; omega)) (Lib.hid fun hsd w1 h1 => rin_n _ p w1 h1 hs (sound_parts hsd).2.2.2.1 (by have := (sound_parts hsd).2.1; omega))
end Go.Proofs.YtijgpfimdlnkiaaDoor
