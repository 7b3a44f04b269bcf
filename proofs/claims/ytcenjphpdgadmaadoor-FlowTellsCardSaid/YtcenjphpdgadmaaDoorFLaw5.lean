/-
  FlowTells: the walk.
-/
import Derived.Test.YtcenjphpdgadmaaDoorFAlive
import Derived.Deep.LoopGhost
import Derived.Test.YtcenjphpdgadmaaDoorFSame
import Derived.Deep.RegionHeld3
import Derived.Deep.CutRange
import Derived.Deep.QuietTactic
namespace Go.Proofs.YtcenjphpdgadmaaDoor
set_option linter.unusedSimpArgs false
set_option linter.unusedVariables false
open Go.RowKit

theorem below7t_draws {B : Nat} {a w : World} (h : Below B a w) (n : Nat) : Below B a (w.drewN n) := ⟨h.os, h.tape, h.output, h.size, h.block⟩
/-- Two answers, side by side. -/
structure TellR (w wx : World) (x : Option Addr) (kx : Nat) (x' : Option Addr) (kx' : Nat) (p : PProg) (k : Int) (a5 : Option Addr) (c5 : Nat) (a6 : Option Addr) (c6 : Nat) : Prop where
  keep : Keep wx w.heap.size (.slice x p.types.length kx) (.slice x' p.code.length kx') p
  below : Below w.heap.size w wx
  r5 : RowAt wx (.slice a5 (wayV p k).length c5) (boolsV (wayV p k))
  r6 : RowAt wx (.slice a6 (wayV p k).length c6) (boolsV (wayV p k))
  g5 : (wayV p k).length ≤ c5
  g6 : (wayV p k).length ≤ c6
  h5 : c5 ≤ 9223372036854775807
  h6 : c6 ≤ 9223372036854775807
theorem row_cut {w : World} {v : Value} {l : List Bool} (h : RowAt w v (boolsV l)) : ∃ a c, v = .slice a l.length c ∧ l.length ≤ c ∧ c ≤ 9223372036854775807 ∧ RowAt w (.slice a l.length c) (boolsV l) := by
  obtain ⟨a, c, rfl, h1, h2, -⟩ := boolsA_form h
  exact ⟨a, c, rfl, h1, h2, h⟩
theorem row_cell {w : World} {a : Option Addr} {l : List Bool} {c : Nat} (h : RowAt w (.slice a l.length c) (boolsV l)) {j : Nat} (hj : j < l.length) : ∃ b o, a = some ⟨b, o, none⟩ ∧ w.cell? ⟨b, o + j, none⟩ = some (.bool (l.getD j false)) := by
  obtain ⟨a', c', e, -, -, h3⟩ := boolsA_form h
  simp only [Value.slice.injEq, true_and] at e
  obtain ⟨rfl, rfl⟩ := e
  obtain ⟨b, o, e, -, hc⟩ := h3 j (l.getD j false) (by rw [List.getD_eq_getElem?_getD, List.getElem?_eq_getElem hj]; rfl)
  exact ⟨b, o, e, hc⟩
set_option maxRecDepth 100000 in
set_option maxHeartbeats 4000000 in
theorem tells_at (w W0 : World) (p : PProg) (a : Int) (x x' : Option Addr) (kx kx' : Nat)
    (hW0 : W0 = w.alloc (.cells (progC (.slice x p.types.length kx) p (.slice x' p.code.length kx')) 25)) (KP : Hid (Keep W0 w.heap.size (.slice x p.types.length kx) (.slice x' p.code.length kx') p)) (HB : Hid (Below w.heap.size w W0))
    (HAL : Hid (∀ w1, Calls Tryd.prog 9 #[] w1 (AggPost w1 (.bool true))))
    (HSO : Hid (∀ w1, ProgAt w1 (.agg (progC (.slice x p.types.length kx) p (.slice x' p.code.length kx'))) p → Below w.heap.size w w1 → Calls Tryd.prog 10 #[.agg (progC (.slice x p.types.length kx) p (.slice x' p.code.length kx'))] w1 (AggPost w1 (.bool (soundB p)))))
    (HNX : Hid (soundB p = true → ∀ w1 k, ProgAt w1 (.agg (progC (.slice x p.types.length kx) p (.slice x' p.code.length kx'))) p → Calls Tryd.prog 14 #[.agg (progC (.slice x p.types.length kx) p (.slice x' p.code.length kx')), .int .i64 k] w1 (RowAPost w1 (nextV p k))))
    (HSF : Hid (soundB p = true → ∀ w1 k r, ProgAt w1 (.agg (progC (.slice x p.types.length kx) p (.slice x' p.code.length kx'))) p → safeV p k = r → Calls Tryd.prog 16 #[.agg (progC (.slice x p.types.length kx) p (.slice x' p.code.length kx')), .int .i64 k] w1 (AggPost w1 (.bool r))))
    (HRC : Hid (soundB p = true → ∀ w1 k, ProgAt w1 (.agg (progC (.slice x p.types.length kx) p (.slice x' p.code.length kx'))) p → Calls Tryd.prog 11 #[.agg (progC (.slice x p.types.length kx) p (.slice x' p.code.length kx')), .int .i64 k] w1 (BoolsAPost w1 (wayV p k))))
    (HLO : Hid (soundB p = true → ∀ w1 k r, ProgAt w1 (.agg (progC (.slice x p.types.length kx) p (.slice x' p.code.length kx'))) p → loopV p k = r → Calls Tryd.prog 18 #[.agg (progC (.slice x p.types.length kx) p (.slice x' p.code.length kx')), .int .i64 k] w1 (AggPost w1 (.bool r))))
    (g2 : kx' ≤ 9223372036854775807) (g1 : p.code.length ≤ kx')
    (HRR : Hid (soundB p = true → ∀ w1 k, ProgAt w1 (.agg (progC (.slice x p.types.length kx) p (.slice x' p.code.length kx'))) p → Calls Tryd.prog 12 #[.agg (progC (.slice x p.types.length kx) p (.slice x' p.code.length kx')), .int .i64 k] w1 (BoolsPost w1 (wayV p k))))
    (HRN : Hid (soundB p = true → ∀ w1 k, ProgAt w1 (.agg (progC (.slice x p.types.length kx) p (.slice x' p.code.length kx'))) p → Calls Tryd.prog 15 #[.agg (progC (.slice x p.types.length kx) p (.slice x' p.code.length kx')), .int .i64 k] w1 (RowPost w1 (nextV p k))))
    (HRS : Hid (soundB p = true → ∀ w1 k r, ProgAt w1 (.agg (progC (.slice x p.types.length kx) p (.slice x' p.code.length kx'))) p → safeV p k = r → Calls Tryd.prog 17 #[.agg (progC (.slice x p.types.length kx) p (.slice x' p.code.length kx')), .int .i64 k] w1 (AggPost w1 (.bool r))))
    (HRL : Hid (soundB p = true → ∀ w1 k r, ProgAt w1 (.agg (progC (.slice x p.types.length kx) p (.slice x' p.code.length kx'))) p → loopV p k = r → Calls Tryd.prog 19 #[.agg (progC (.slice x p.types.length kx) p (.slice x' p.code.length kx')), .int .i64 k] w1 (AggPost w1 (.bool r))))
    :
    Calls Tryd.prog 3 #[.agg (progC (.slice x p.types.length kx) p (.slice x' p.code.length kx')), .int .i64 a] w (AggPost w (.bool true)) := by
  go_enter Tryd.func3, Tryd.ntmps3
  go_upto_region 1 with (fail)
  rw [← hW0]
  clear hW0
  rcases hsd : soundB p with _ | _
  · rw [hsd] at HSO
    go_wp2_with (first
      | (refine wpList_loadB rfl 25 _ rfl w.heap.size (progC (.slice x p.types.length kx) p (.slice x' p.code.length kx')) rfl 25 KP.out.blk _ Tryd.underlying25 rfl prog_info ?_)
      | (go_at_call 9; ((with_reducible refine (HAL.out _).mono ?_); rintro e w1 ⟨rfl, hb⟩; have KP := Lib.hid (KP.out.below hb); have HB := Lib.hid (HB.out.trans (hb.mono HB.out.size)); clear hb))
      | (go_at_call 10; ((with_reducible refine (HSO.out _ KP.out.at' HB.out).mono ?_); rintro e w2 ⟨rfl, hb⟩; have KP := Lib.hid (KP.out.below hb); have HB := Lib.hid (HB.out.trans (hb.mono HB.out.size)); clear hb)))
    go_ret
    exact ⟨rfl, HB.out⟩
  obtain ⟨-, hl60, hck, hin0, hl1⟩ := sound_parts hsd
  have HIN := Lib.hid hin0
  have HNX := Lib.hid (HNX.out hsd)
  have HSF := Lib.hid (HSF.out hsd)
  have HRC := Lib.hid (HRC.out hsd)
  have HLO := Lib.hid (HLO.out hsd)
  have HRR := Lib.hid (HRR.out hsd)
  have HRN := Lib.hid (HRN.out hsd)
  have HRS := Lib.hid (HRS.out hsd)
  have HRL := Lib.hid (HRL.out hsd)
  rw [hsd] at HSO
  clear hin0 hck hsd 
  go_upto_region 5 with (first
    | (refine wpList_loadB rfl 25 _ rfl w.heap.size (progC (.slice x p.types.length kx) p (.slice x' p.code.length kx')) rfl 25 KP.out.blk _ Tryd.underlying25 rfl prog_info ?_)
    | (go_at_call 9; ((with_reducible refine (HAL.out _).mono ?_); rintro e w1 ⟨rfl, hb⟩; have KP := Lib.hid (KP.out.below hb); have HB := Lib.hid (HB.out.trans (hb.mono HB.out.size)); clear hb))
    | (go_at_call 10; ((with_reducible refine (HSO.out _ KP.out.at' HB.out).mono ?_); rintro e w2 ⟨rfl, hb⟩; have KP := Lib.hid (KP.out.below hb); have HB := Lib.hid (HB.out.trans (hb.mono HB.out.size)); clear hb)))
  clear HSO HAL
  obtain ⟨p0, p1, p2, p3⟩ := KP.out.cells
  have KD := KP
  have HBD := HB
  have XRC : Hid (∀ (w1 : World) (k : Int), ProgAt w1 (.agg (progC (.slice x p.types.length kx) p (.slice x' p.code.length kx'))) p → Calls Tryd.prog 11 #[.agg #[.slice x p.types.length kx, str p.locals, str p.globs, .slice x' p.code.length kx'], .int .i64 k] w1 (BoolsAPost w1 (wayV p k))) := HRC
  have XRR : Hid (∀ (w1 : World) (k : Int), ProgAt w1 (.agg (progC (.slice x p.types.length kx) p (.slice x' p.code.length kx'))) p → Calls Tryd.prog 12 #[.agg #[.slice x p.types.length kx, str p.locals, str p.globs, .slice x' p.code.length kx'], .int .i64 k] w1 (BoolsPost w1 (wayV p k))) := HRR
  go_cut [5, 6] from 8 (fun v5 v6 wx => ∃ a5 c5 a6 c6, v5 = .slice a5 (wayV p a).length c5 ∧ v6 = .slice a6 (wayV p a).length c6 ∧ TellR w wx x kx x' kx' p a a5 c5 a6 c6)
  case first =>
    go_region_held3 (fun w' => w'.cell? ⟨w.heap.size, 0, none⟩ = some (.slice x p.types.length kx) ∧ w'.cell? ⟨w.heap.size, 1, none⟩ = some (str p.locals) ∧ w'.cell? ⟨w.heap.size, 2, none⟩ = some (str p.globs) ∧ w'.cell? ⟨w.heap.size, 3, none⟩ = some (.slice x' p.code.length kx')) (go_keep) (first
      | (go_at_call 11; ((with_reducible refine (XRC.out _ a (by first | exact KD.out.at' | exact KD.out.at'.below (Below.refl _ _).drew)).mono ?_); rintro e w' ⟨v, rfl, hr, hb⟩; have hb := (Below.refl _ _).drew.trans hb; obtain ⟨a5, c5, hv, q5, q5', HR5⟩ := row_cut hr; subst hv; have HR5 := Lib.hid HR5; clear hr; have KD := Lib.hid (KD.out.below hb); have HBD := Lib.hid (HBD.out.trans (hb.mono HBD.out.size)); clear hb p0 p1 p2 p3; obtain ⟨p0, p1, p2, p3⟩ := KD.out.cells))
      | (go_at_call 12; ((with_reducible refine (XRR.out _ a KD.out.at').mono ?_); rintro e w' ⟨v, rfl, hr, hb⟩; obtain ⟨a6, c6, hv, q6, q6', HR6⟩ := row_cut (RowAt.of_own hr); subst hv; have HR6 := Lib.hid HR6; have HR5 := Lib.hid (HR5.out.below hb); clear hr; have KD := Lib.hid (KD.out.below hb); have HBD := Lib.hid (HBD.out.trans (hb.mono HBD.out.size)); clear hb p0 p1 p2 p3; obtain ⟨p0, p1, p2, p3⟩ := KD.out.cells)))
    all_goals
      clear p0 p1 p2 p3
      go_wp2_with fail
      go_meet
      exact ⟨_, _, _, _, rfl, rfl, KD.out, HBD.out, HR5.out, HR6.out, q5, q6, q5', q6'⟩
  case rest =>
    obtain ⟨a5, c5, a6, c6, rfl, rfl, hq⟩ := hcut
    have HQ := Lib.hid hq
    have g5 := hq.g5
    have g6 := hq.g6
    have h5 := hq.h5
    have h6 := hq.h6
    have hL : (wayV p a).length ≤ 61 := by
      by_cases hk : 0 ≤ a ∧ a ≤ p.code.length
      · rw [wayV_len hk]; omega
      · unfold wayV; rw [if_neg hk]; simp
    have e0 : (((wayV p a).length : Int) != ((wayV p a).length : Int)) = false := by simp
    clear hq KD HBD KP HB XRC XRR HRC HRR p0 p1 p2 p3
    go_wp2
    go_loopw [26] (fun v26 wx => ∃ t : Nat, t ≤ (wayV p a).length ∧ v26 = .int .i64 t ∧ Hid (Keep wx w.heap.size (.slice x p.types.length kx) (.slice x' p.code.length kx') p) ∧ Hid (Below w.heap.size w wx) ∧ Hid (Below wc.heap.size wc wx)) (fun v26 _ => (wayV p a).length - (intOf v26).toNat)
    case atStart => exact ⟨0, Nat.zero_le _, rfl, Lib.hid HQ.out.keep, Lib.hid HQ.out.below, Lib.hid (Below.refl _ _)⟩
    case round =>
      obtain ⟨t, ht, rfl, KR, HBX, HCX⟩ := hrel
      by_cases htl : t < (wayV p a).length
      · have hti : (t : Int) < ((wayV p a).length : Int) := by omega
        obtain ⟨b5, o5, rfl, q5⟩ := row_cell (HQ.out.r5.below HCX.out) htl
        obtain ⟨b6, o6, rfl, q6⟩ := row_cell (HQ.out.r6.below HCX.out) htl
        rcases htb : (wayV p a).getD t false with _ | _
        all_goals
          rw [htb] at q5 q6
          clear htb
          go_upto_region 11 with (fail)
          go_quiet (fail)
          go_wp2
          go_roundw
          case rel => exact ⟨t + 1, by omega, by go_num, Lib.hid (KR.out.below (below7t_draws (Below.refl _ _) _)), Lib.hid (below7t_draws HBX.out _), Lib.hid (below7t_draws HCX.out _)⟩
          case measure => simp [intOf]; omega
      · have htn : ¬ ((t : Int) < ((wayV p a).length : Int)) := by omega
        go_upto_region 14 with (fail)
        clear HQ HCX hL e0 g5 g6 h5 h6 htn htl ht
        have KD := Lib.hid (KR.out.below (Below.refl _ _).drew)
        have HBD := Lib.hid HBX.out.drew
        clear KR HBX
        obtain ⟨p0, p1, p2, p3⟩ := KD.out.cells
        have HSM : Hid (∀ (va vb : Value) (l : List Int) (w1 : World), RowAt w1 va (i64s l) → RowAt w1 vb (i64s l) → Calls Tryd.prog 13 #[va, vb] w1 (AggPost w1 (.bool true))) := Lib.hid fun va vb l w1 h1 h2 => same7_n va vb l l true w1 h1 h2 (by simp)
        have XNX : Hid (∀ (w1 : World) (k : Int), ProgAt w1 (.agg (progC (.slice x p.types.length kx) p (.slice x' p.code.length kx'))) p → Calls Tryd.prog 14 #[.agg #[.slice x p.types.length kx, str p.locals, str p.globs, .slice x' p.code.length kx'], .int .i64 k] w1 (RowAPost w1 (nextV p k))) := HNX
        have XRN : Hid (∀ (w1 : World) (k : Int), ProgAt w1 (.agg (progC (.slice x p.types.length kx) p (.slice x' p.code.length kx'))) p → Calls Tryd.prog 15 #[.agg #[.slice x p.types.length kx, str p.locals, str p.globs, .slice x' p.code.length kx'], .int .i64 k] w1 (RowPost w1 (nextV p k))) := HRN
        have XSF : Hid (∀ (w1 : World) (k : Int) (r : Bool), ProgAt w1 (.agg (progC (.slice x p.types.length kx) p (.slice x' p.code.length kx'))) p → safeV p k = r → Calls Tryd.prog 16 #[.agg #[.slice x p.types.length kx, str p.locals, str p.globs, .slice x' p.code.length kx'], .int .i64 k] w1 (AggPost w1 (.bool r))) := HSF
        have XRS : Hid (∀ (w1 : World) (k : Int) (r : Bool), ProgAt w1 (.agg (progC (.slice x p.types.length kx) p (.slice x' p.code.length kx'))) p → safeV p k = r → Calls Tryd.prog 17 #[.agg #[.slice x p.types.length kx, str p.locals, str p.globs, .slice x' p.code.length kx'], .int .i64 k] w1 (AggPost w1 (.bool r))) := HRS
        have XLO : Hid (∀ (w1 : World) (k : Int) (r : Bool), ProgAt w1 (.agg (progC (.slice x p.types.length kx) p (.slice x' p.code.length kx'))) p → loopV p k = r → Calls Tryd.prog 18 #[.agg #[.slice x p.types.length kx, str p.locals, str p.globs, .slice x' p.code.length kx'], .int .i64 k] w1 (AggPost w1 (.bool r))) := HLO
        have XRL : Hid (∀ (w1 : World) (k : Int) (r : Bool), ProgAt w1 (.agg (progC (.slice x p.types.length kx) p (.slice x' p.code.length kx'))) p → loopV p k = r → Calls Tryd.prog 19 #[.agg #[.slice x p.types.length kx, str p.locals, str p.globs, .slice x' p.code.length kx'], .int .i64 k] w1 (AggPost w1 (.bool r))) := HRL
        rcases hsv : safeV p a with _ | _ <;> rcases hlv : loopV p a with _ | _
        all_goals
          go_region_held3 (fun w' => w'.cell? ⟨w.heap.size, 0, none⟩ = some (.slice x p.types.length kx) ∧ w'.cell? ⟨w.heap.size, 1, none⟩ = some (str p.locals) ∧ w'.cell? ⟨w.heap.size, 2, none⟩ = some (str p.globs) ∧ w'.cell? ⟨w.heap.size, 3, none⟩ = some (.slice x' p.code.length kx')) (go_keep) (first
            | (go_at_call 14; ((with_reducible refine (XNX.out _ a KD.out.at').mono ?_); rintro e w' ⟨v1, rfl, hr, hb⟩; have HN1 := Lib.hid hr; clear hr; have KD := Lib.hid (KD.out.below hb); have HBD := Lib.hid (HBD.out.trans (hb.mono HBD.out.size)); clear hb p0 p1 p2 p3; obtain ⟨p0, p1, p2, p3⟩ := KD.out.cells))
            | (go_at_call 15; ((with_reducible refine (XRN.out _ a KD.out.at').mono ?_); rintro e w' ⟨v2, rfl, hr, hb⟩; have HN2 := Lib.hid (RowAt.of_own hr); have HN1 := Lib.hid (HN1.out.below hb); clear hr; have KD := Lib.hid (KD.out.below hb); have HBD := Lib.hid (HBD.out.trans (hb.mono HBD.out.size)); clear hb p0 p1 p2 p3; obtain ⟨p0, p1, p2, p3⟩ := KD.out.cells))
            | (go_at_call 16; ((with_reducible refine (XSF.out _ a _ KD.out.at' hsv).mono ?_); rintro e w' ⟨rfl, hb⟩; have KD := Lib.hid (KD.out.below hb); have HBD := Lib.hid (HBD.out.trans (hb.mono HBD.out.size)); clear hb p0 p1 p2 p3; obtain ⟨p0, p1, p2, p3⟩ := KD.out.cells))
            | (go_at_call 17; ((with_reducible refine (XRS.out _ a _ KD.out.at' hsv).mono ?_); rintro e w' ⟨rfl, hb⟩; have KD := Lib.hid (KD.out.below hb); have HBD := Lib.hid (HBD.out.trans (hb.mono HBD.out.size)); clear hb p0 p1 p2 p3; obtain ⟨p0, p1, p2, p3⟩ := KD.out.cells))
            | (go_at_call 18; ((with_reducible refine (XLO.out _ a _ KD.out.at' hlv).mono ?_); rintro e w' ⟨rfl, hb⟩; have KD := Lib.hid (KD.out.below hb); have HBD := Lib.hid (HBD.out.trans (hb.mono HBD.out.size)); clear hb p0 p1 p2 p3; obtain ⟨p0, p1, p2, p3⟩ := KD.out.cells))
            | (go_at_call 19; ((with_reducible refine (XRL.out _ a _ KD.out.at' hlv).mono ?_); rintro e w' ⟨rfl, hb⟩; have KD := Lib.hid (KD.out.below hb); have HBD := Lib.hid (HBD.out.trans (hb.mono HBD.out.size)); clear hb p0 p1 p2 p3; obtain ⟨p0, p1, p2, p3⟩ := KD.out.cells))
            | (go_at_call 13; ((with_reducible refine (HSM.out _ _ _ _ HN1.out HN2.out).mono ?_); rintro e w' ⟨rfl, hb⟩; have KD := Lib.hid (KD.out.below hb); have HBD := Lib.hid (HBD.out.trans (hb.mono HBD.out.size)); clear hb p0 p1 p2 p3; obtain ⟨p0, p1, p2, p3⟩ := KD.out.cells)))
          all_goals
            clear p0 p1 p2 p3
            go_wp2_with fail
            go_ret
            exact ⟨rfl, HBD.out⟩
theorem tells_walk (v : Value) (p : PProg) (a : Int) (w : World) (h : ProgAt w v p) (hs : OkP p) (ha0 : True) (ha : True) (ht' : HasT w) : Calls Tryd.prog 3 #[v, .int .i64 a] w fun e w' => e = .returned (.bool true) ∧ Below w.heap.size w w' := by
  obtain ⟨vt, vc, rfl, ht, hc⟩ := id h
  have hwb : Below w.heap.size w (w.alloc (.cells (progC vt p vc) 25)) := (Below.refl _ _).alloc (Nat.le_refl _) _
  have HK := keep_new h
  obtain ⟨x, c, rfl, -, -, -⟩ := id ht.elems
  obtain ⟨x', c', rfl, q1, q2, -⟩ := id hc
  unfold maxLen at q2
  exact tells_at w _ p a x x' c c' rfl (Lib.hid HK) (Lib.hid hwb) (Lib.hid fun w1 => falive_n w1) (Lib.hid fun w1 h1 hb1 => sound_n _ p w1 _ h1 hs (ht'.below hb1) rfl)
    (Lib.hid fun hsd w1 k h1 => fnext_n _ p w1 k h1 hs (sound_parts hsd).2.2.2.1 (by have := (sound_parts hsd).2.1; omega)) (Lib.hid fun hsd w1 k r h1 hr => fsafe_n _ p w1 k r h1 hs (sound_parts hsd).2.2.2.1 (by have := (sound_parts hsd).2.1; omega) hr)
    (Lib.hid fun hsd w1 k h1 => freach_n _ p w1 k h1 hs (sound_parts hsd).2.2.2.1 (by have := (sound_parts hsd).2.1; omega)) (Lib.hid fun hsd w1 k r h1 hr => floops_n _ p w1 k r h1 hs (sound_parts hsd).2.2.2.1 (by have := (sound_parts hsd).2.1; omega) hr)
    (by omega) q1
    (Lib.hid fun hsd w1 k h1 => rreach_n _ p w1 k h1 hs (sound_parts hsd).2.2.2.1 (by have := (sound_parts hsd).2.1; omega)) (Lib.hid fun hsd w1 k h1 => rnext_n _ p w1 k h1 hs (sound_parts hsd).2.2.2.1 (by have := (sound_parts hsd).2.1; omega))
    (Lib.hid fun hsd w1 k r h1 hr => rsafe_n _ p w1 k r h1 hr) (Lib.hid fun hsd w1 k r h1 hr => rloops_n _ p w1 k r h1 hs (sound_parts hsd).2.2.2.1 (by have := (sound_parts hsd).2.1; omega) hr)
end Go.Proofs.YtcenjphpdgadmaaDoor
