/-
  FlowEnds: the walk.
-/
import Derived.Test.YtcenjphpdgadmaaDoorFAlive
import Derived.Deep.LoopGhost
import Derived.Deep.RegionHeld3
import Derived.Deep.CutRange
import Derived.Deep.QuietTactic
import Derived.BigQuiet
import Derived.IntWalk
namespace Go.Proofs.YtcenjphpdgadmaaDoor
set_option linter.unusedSimpArgs false
set_option linter.unusedVariables false
open Go.RowKit

theorem below7_draws {B : Nat} {a w : World} (h : Below B a w) (n : Nat) : Below B a (w.drewN n) := ⟨h.os, h.tape, h.output, h.size, h.block⟩
/-- A row of truths: what way k tells. -/
structure Tru (w : World) (p : PProg) (k b o : Nat) : Prop where
  lt : b < w.heap.size
  row : ∀ j, j ≤ p.code.length → w.cell? ⟨b, o + j, none⟩ = some (.bool ((wayL p k).getD j false))
theorem Tru.next {w w' : World} {p : PProg} {k b o : Nat} (h : Tru w p k b o) (hb : Below w.heap.size w w') : Tru w' p k b o :=
  ⟨Nat.lt_of_lt_of_le h.lt hb.size, fun j hj => by rw [hb.cell (p := ⟨b, o + j, none⟩) h.lt]; exact h.row j hj⟩
/-- Two rows of truths, side by side. -/
structure EndR (w wx : World) (x : Option Addr) (kx : Nat) (x' : Option Addr) (kx' : Nat) (p : PProg) (m b4 o4 c4 b5 o5 c5 : Nat) : Prop where
  below : Below w.heap.size w wx
  h4 : Tru wx p m b4 o4
  h5 : Tru wx p (m + 1) b5 o5
  g4 : p.code.length + 1 ≤ c4
  g5 : p.code.length + 1 ≤ c5
  g6 : c4 ≤ 9223372036854775807
  g7 : c5 ≤ 9223372036854775807
theorem wayV_n1 {q : PProg} {k : Nat} (h : k + 1 ≤ q.code.length) : (wayV q ((k : Int) + 1)).length = q.code.length + 1 := wayV_n (k := k + 1) h
theorem wayV_at1 {q : PProg} {k : Nat} (h : k + 1 ≤ q.code.length) : wayV q ((k : Int) + 1) = wayL q (k + 1) := wayV_at (k := k + 1) h
set_option maxRecDepth 100000 in
set_option maxHeartbeats 4000000 in
theorem ends_at (w W0 : World) (p : PProg) (a : Nat) (x x' : Option Addr) (kx kx' : Nat)
    (hW0 : W0 = w.alloc (.cells (progC (.slice x p.types.length kx) p (.slice x' p.code.length kx')) 25)) (KP : Hid (Keep W0 w.heap.size (.slice x p.types.length kx) (.slice x' p.code.length kx') p)) (HB : Hid (Below w.heap.size w W0))
    (HAL : Hid (∀ w1, Calls Tryd.prog 9 #[] w1 (AggPost w1 (.bool true))))
    (HSO : Hid (∀ w1, ProgAt w1 (.agg (progC (.slice x p.types.length kx) p (.slice x' p.code.length kx'))) p → Below w.heap.size w w1 → Calls Tryd.prog 10 #[.agg (progC (.slice x p.types.length kx) p (.slice x' p.code.length kx'))] w1 (AggPost w1 (.bool (soundB p)))))
    (HNX : Hid (soundB p = true → ∀ w1 k, ProgAt w1 (.agg (progC (.slice x p.types.length kx) p (.slice x' p.code.length kx'))) p → Calls Tryd.prog 14 #[.agg (progC (.slice x p.types.length kx) p (.slice x' p.code.length kx')), .int .i64 k] w1 (RowAPost w1 (nextV p k))))
    (HSF : Hid (soundB p = true → ∀ w1 k r, ProgAt w1 (.agg (progC (.slice x p.types.length kx) p (.slice x' p.code.length kx'))) p → safeV p k = r → Calls Tryd.prog 16 #[.agg (progC (.slice x p.types.length kx) p (.slice x' p.code.length kx')), .int .i64 k] w1 (AggPost w1 (.bool r))))
    (HRC : Hid (soundB p = true → ∀ w1 k, ProgAt w1 (.agg (progC (.slice x p.types.length kx) p (.slice x' p.code.length kx'))) p → Calls Tryd.prog 11 #[.agg (progC (.slice x p.types.length kx) p (.slice x' p.code.length kx')), .int .i64 k] w1 (BoolsAPost w1 (wayV p k))))
    (HLO : Hid (soundB p = true → ∀ w1 k r, ProgAt w1 (.agg (progC (.slice x p.types.length kx) p (.slice x' p.code.length kx'))) p → loopV p k = r → Calls Tryd.prog 18 #[.agg (progC (.slice x p.types.length kx) p (.slice x' p.code.length kx')), .int .i64 k] w1 (AggPost w1 (.bool r))))
    (ha : a ≤ 255) (g2 : kx' ≤ 9223372036854775807) (g1 : p.code.length ≤ kx'):
    Calls Tryd.prog 8 #[.agg (progC (.slice x p.types.length kx) p (.slice x' p.code.length kx')), .int .u8 a] w (AggPost w (.bool true)) := by
  go_enter Tryd.func8, Tryd.ntmps8
  go_upto_region 1 with (fail)
  rw [← hW0]
  clear hW0
  rcases hsd : soundB p with _ | _
  · rw [hsd] at HSO
    go_wp2_with (first
      | (refine wpList_loadB rfl 25 _ rfl w.heap.size (progC (.slice x p.types.length kx) p (.slice x' p.code.length kx')) rfl 25 KP.out.blk _ Tryd.underlying25 rfl prog_info ?_)
      | (go_at_call 9; ((with_reducible refine (HAL.out _).mono ?_); rintro e w1 ⟨rfl, hb⟩; have KP := Lib.hid (KP.out.below hb); have HB := Lib.hid (HB.out.trans (hb.mono HB.out.size)); clear hb))
      | (go_at_call 10; ((with_reducible refine (HSO.out _ KP.out.at' HB.out).mono ?_); rintro e w2 ⟨rfl, hb⟩; have KP := Lib.hid (KP.out.below hb); have HB := Lib.hid (HB.out.trans (hb.mono HB.out.size)); clear hb)))
    go_ret
    exact ⟨rfl, HB.out⟩
  obtain ⟨-, hl60, hck, hin0, hl1⟩ := sound_parts hsd
  have HIN := Lib.hid hin0
  have HRC := Lib.hid (HRC.out hsd)
  rw [hsd] at HSO
  clear hin0 hck hsd HNX HSF HLO
  go_upto_region 5 with (first
    | (refine wpList_loadB rfl 25 _ rfl w.heap.size (progC (.slice x p.types.length kx) p (.slice x' p.code.length kx')) rfl 25 KP.out.blk _ Tryd.underlying25 rfl prog_info ?_)
    | (go_at_call 9; ((with_reducible refine (HAL.out _).mono ?_); rintro e w1 ⟨rfl, hb⟩; have KP := Lib.hid (KP.out.below hb); have HB := Lib.hid (HB.out.trans (hb.mono HB.out.size)); clear hb))
    | (go_at_call 10; ((with_reducible refine (HSO.out _ KP.out.at' HB.out).mono ?_); rintro e w2 ⟨rfl, hb⟩; have KP := Lib.hid (KP.out.below hb); have HB := Lib.hid (HB.out.trans (hb.mono HB.out.size)); clear hb)))
  have p3 := KP.out.cells.2.2.2
  have hz : ((p.code.length : Int) == 0) = false := by simp; intro h; rw [h] at hl1; simp at hl1
  have hz' : ¬ ((p.code.length : Int) = 0) := by omega
  go_upto_region 7 with (fail)
  obtain ⟨m, hm, hmm⟩ : ∃ m : Nat, m < p.code.length ∧ (a : Int) % (p.code.length : Int) = m := ⟨a % p.code.length, Nat.mod_lt a (by omega), rfl⟩
  rw [hmm]
  clear hmm hz hz' p3 HSO
  go_upto_region 8 with (first
    | (refine wpList_loadB rfl 25 _ rfl w.heap.size (progC (.slice x p.types.length kx) p (.slice x' p.code.length kx')) rfl 25 KP.out.blk _ Tryd.underlying25 rfl prog_info ?_)
    | (go_at_call 11; ((with_reducible refine (HRC.out _ (p.code.length : Int) KP.out.at').mono ?_); rintro e w3 ⟨v3, rfl, hr, hb⟩; obtain ⟨b6, o6, c6, hv3, hc1, hc2, hb6, hcell⟩ := boolsA_cells hr (wayV_n (Nat.le_refl _)); subst hv3; have KP := Lib.hid (KP.out.below hb); have HB := Lib.hid (HB.out.trans (hb.mono HB.out.size)); clear hb; clear hr)))
  rw [wayV_at (Nat.le_refl _)] at hcell
  have HL := Lib.hid hcell
  have HB3 := Lib.hid (Below.refl w3.heap.size w3)
  clear hcell
  go_wp2_with (fail)
  go_loopw [28] (fun v28 wr => ∃ j : Nat, j ≤ p.code.length + 1 ∧ v28 = .int .i64 j ∧ Hid (Keep wr w.heap.size (.slice x p.types.length kx) (.slice x' p.code.length kx') p) ∧ Hid (Below w.heap.size w wr) ∧ Hid (Below w3.heap.size w3 wr)) (fun v28 _ => p.code.length + 1 - (intOf v28).toNat)
  case atStart => exact ⟨0, Nat.zero_le _, rfl, KP, HB, HB3⟩
  case round =>
    obtain ⟨j, hj, rfl, KR, HBR, HB3R⟩ := hrel
    clear KP HB HB3
    by_cases hjl : j ≤ p.code.length
    · have hji : (j : Int) < (p.code.length : Int) + 1 := by omega
      have qj : wr.cell? ⟨b6, o6 + j, none⟩ = some (.bool false) := by
        have := HL.out j hjl
        rw [wayL_end HIN.out] at this
        rw [HB3R.out.cell (p := ⟨b6, o6 + j, none⟩) hb6]; exact this
      go_wp2
      go_roundw
      case rel => exact ⟨j + 1, by omega, by go_num, KR, HBR, HB3R⟩
      case measure => simp [intOf]; omega
    · have hjn : ¬ ((j : Int) < (p.code.length : Int) + 1) := by omega
      clear HB3R HL hjl hj
      obtain ⟨i, hi⟩ : ∃ i, p.code[m]? = some i := ⟨_, List.getElem?_eq_getElem hm⟩
      obtain ⟨bb, o, rfl, hbb, hrg⟩ := prog_ins KR.out.at' hi
      have p3 := KR.out.cells.2.2.2
      have d0 : wr.cell? ⟨bb, o + m * 5, none⟩ = some (.int .u8 i.op) := hrg 0 _ rfl
      have hmi : (m : Int) < (p.code.length : Int) := by omega
      have hm0 : (0 : Int) ≤ (m : Int) := by omega
      have HI := Lib.hid hi
      clear hrg hi
      by_cases h3 : i.op = 3
      · rw [h3] at d0
        clear h3
        go_wp2
        go_ret
        exact ⟨rfl, HBR.out⟩
      by_cases h4 : i.op = 4
      · rw [h4] at d0
        clear h4 h3
        go_wp2
        go_ret
        exact ⟨rfl, HBR.out⟩
      have q3 : (i.op == 3) = false := by simpa using h3
      have q4 : (i.op == 4) = false := by simpa using h4
      have HAH := Lib.hid (fun b => way_ahead HIN.out hm HI.out h3 h4 b)
      clear h3 h4
      go_upto_region 15 with (fail)
      clear d0 p3 q3 q4
      obtain ⟨p0, p1, p2, p3⟩ := KR.out.cells
      have hwk : IntKind.i64.wrap ((m : Int) + 1) = (m : Int) + 1 := IntWalk.i64_in _ (by omega)
      have KD : Hid (Keep wr.drew w.heap.size (.slice x p.types.length kx) (.slice (some ⟨bb, o, none⟩) p.code.length kx') p) := Lib.hid (KR.out.below (Below.refl _ _).drew)
      have HBD : Hid (Below w.heap.size w wr.drew) := Lib.hid (HBR.out.drew)
      have HRX : Hid (∀ (w1 : World) (k : Int), ProgAt w1 (.agg (progC (.slice x p.types.length kx) p (.slice (some ⟨bb, o, none⟩) p.code.length kx'))) p → Calls Tryd.prog 11 #[.agg #[.slice x p.types.length kx, str p.locals, str p.globs, .slice (some ⟨bb, o, none⟩) p.code.length kx'], .int .i64 k] w1 (BoolsAPost w1 (wayV p k))) := HRC
      go_cut [9, 10] from 12 (fun v9 v10 wx => ∃ b4 o4 c4 b5 o5 c5, v9 = .slice (some ⟨b4, o4, none⟩) (p.code.length + 1) c4 ∧ v10 = .slice (some ⟨b5, o5, none⟩) (p.code.length + 1) c5 ∧ EndR w wx x kx (some ⟨bb, o, none⟩) kx' p m b4 o4 c4 b5 o5 c5)
      case first =>
        go_region_held3 (fun w' => w'.cell? ⟨w.heap.size, 0, none⟩ = some (.slice x p.types.length kx) ∧ w'.cell? ⟨w.heap.size, 1, none⟩ = some (str p.locals) ∧ w'.cell? ⟨w.heap.size, 2, none⟩ = some (str p.globs) ∧ w'.cell? ⟨w.heap.size, 3, none⟩ = some (.slice (some ⟨bb, o, none⟩) p.code.length kx')) (go_keep) (first
          | (go_at_call 11; ((with_reducible refine (HRX.out _ (m : Int) KD.out.at').mono ?_); rintro e w' ⟨v, rfl, hr, hb⟩; obtain ⟨b4, o4, c4, hv, hc4, hd4, hbx, hcell⟩ := boolsA_cells hr (wayV_n (Nat.le_of_lt hm)); rw [wayV_at (Nat.le_of_lt hm)] at hcell; subst hv; have H4 := Lib.hid (Tru.mk hbx hcell); (try (have H5 := Lib.hid (H5.out.next hb))); have KD := Lib.hid (KD.out.below hb); have HBD := Lib.hid (HBD.out.trans (hb.mono HBD.out.size)); clear hr hb hcell hbx p0 p1 p2 p3; obtain ⟨p0, p1, p2, p3⟩ := KD.out.cells))
          | (go_at_call 11; ((with_reducible refine (HRX.out _ ((m : Int) + 1) KD.out.at').mono ?_); rintro e w' ⟨v, rfl, hr, hb⟩; obtain ⟨b5, o5, c5, hv, hc5, hd5, hbx, hcell⟩ := boolsA_cells hr (wayV_n1 hm); rw [wayV_at1 hm] at hcell; subst hv; have H5 := Lib.hid (Tru.mk hbx hcell); (try (have H4 := Lib.hid (H4.out.next hb))); have KD := Lib.hid (KD.out.below hb); have HBD := Lib.hid (HBD.out.trans (hb.mono HBD.out.size)); clear hr hb hcell hbx p0 p1 p2 p3; obtain ⟨p0, p1, p2, p3⟩ := KD.out.cells)))
        all_goals
          clear p0 p1 p2 p3
          go_wp2_with fail
          go_meet
          exact ⟨_, _, _, _, _, _, rfl, rfl, HBD.out, H4.out, H5.out, hc4, hc5, hd4, hd5⟩
      case rest =>
        obtain ⟨b4, o4, c4, b5, o5, c5, rfl, rfl, hq⟩ := hcut
        have HQ := Lib.hid hq
        have e4 := hq.g4
        have e5 := hq.g5
        have f4 := hq.g6
        have f5 := hq.g7
        clear hq KD HBD KR HBR HRC HRX p0 p1 p2 p3
        have e6 : ((((p.code.length + 1 : Nat) : Int)) != (p.code.length : Int) + 1) = false := by simp
        clear hjn hc1 hc2 hb6 hbb KP HI
        go_wp2
        go_loopw [71] (fun v71 wx => ∃ t : Nat, t ≤ p.code.length + 1 ∧ v71 = .int .i64 t ∧ Hid (Below w.heap.size w wx) ∧ Hid (Below wc.heap.size wc wx)) (fun v71 _ => p.code.length + 1 - (intOf v71).toNat)
        case atStart => exact ⟨0, Nat.zero_le _, rfl, Lib.hid HQ.out.below, Lib.hid (Below.refl _ _)⟩
        case round =>
          obtain ⟨t, ht, rfl, HBX, HCX⟩ := hrel
          by_cases htl : t ≤ p.code.length
          · have hti : (t : Int) < (p.code.length : Int) + 1 := by omega
            have hb4 := HQ.out.h4.next HCX.out
            have hb5 := HQ.out.h5.next HCX.out
            have q4 := hb4.row t htl
            have q5 := hb5.row t htl
            rw [HAH.out t] at q4
            clear hb4 hb5
            rcases htb : (wayL p (m + 1)).getD t false with _ | _
            · rw [htb] at q4 q5
              clear htb
              by_cases htm : t = m + 1
              · have e7 : ((t : Int) == (m : Int) + 1) = true := by simp; omega
                rw [decide_eq_true htm] at q4
                have q4 : wr.cell? ⟨b4, o4 + t, none⟩ = some (.bool true) := q4
                clear htm
                go_upto_region 21 with (fail)
                go_quiet (fail)
                go_wp2
                go_roundw
                case rel => exact ⟨t + 1, by omega, by go_num, Lib.hid (below7_draws HBX.out _), Lib.hid (below7_draws HCX.out _)⟩
                case measure => simp [intOf]; omega
              · have e7 : ((t : Int) == (m : Int) + 1) = false := by simp; omega
                rw [decide_eq_false htm] at q4
                have q4 : wr.cell? ⟨b4, o4 + t, none⟩ = some (.bool false) := q4
                clear htm
                go_upto_region 21 with (fail)
                go_quiet (fail)
                go_wp2
                go_roundw
                case rel => exact ⟨t + 1, by omega, by go_num, Lib.hid (below7_draws HBX.out _), Lib.hid (below7_draws HCX.out _)⟩
                case measure => simp [intOf]; omega
            · rw [htb] at q4 q5
              rw [Bool.true_or] at q4
              clear htb
              go_upto_region 21 with (fail)
              go_quiet (fail)
              go_wp2
              go_roundw
              case rel => exact ⟨t + 1, by omega, by go_num, Lib.hid (below7_draws HBX.out _), Lib.hid (below7_draws HCX.out _)⟩
              case measure => simp [intOf]; omega
          · have htn : ¬ ((t : Int) < (p.code.length : Int) + 1) := by omega
            go_wp2
            go_ret
            exact ⟨rfl, HBX.out⟩
theorem ends_walk (v : Value) (p : PProg) (a : Int) (w : World) (h : ProgAt w v p) (hs : OkP p) (ha0 : 0 ≤ a) (ha : a ≤ 255) (ht' : HasT w) : Calls Tryd.prog 8 #[v, .int .u8 a] w fun e w' => e = .returned (.bool true) ∧ Below w.heap.size w w' := by
  obtain ⟨vt, vc, rfl, ht, hc⟩ := id h
  have hwb : Below w.heap.size w (w.alloc (.cells (progC vt p vc) 25)) := (Below.refl _ _).alloc (Nat.le_refl _) _
  have HK := keep_new h
  obtain ⟨x, c, rfl, -, -, -⟩ := id ht.elems
  obtain ⟨x', c', rfl, q1, q2, -⟩ := id hc
  obtain ⟨ka, rfl⟩ : ∃ ka : Nat, a = ka := ⟨a.toNat, by omega⟩
  unfold maxLen at q2
  exact ends_at w _ p ka x x' c c' rfl (Lib.hid HK) (Lib.hid hwb) (Lib.hid fun w1 => falive_n w1) (Lib.hid fun w1 h1 hb1 => sound_n _ p w1 _ h1 hs (ht'.below hb1) rfl)
    (Lib.hid fun hsd w1 k h1 => fnext_n _ p w1 k h1 hs (sound_parts hsd).2.2.2.1 (by have := (sound_parts hsd).2.1; omega)) (Lib.hid fun hsd w1 k r h1 hr => fsafe_n _ p w1 k r h1 hs (sound_parts hsd).2.2.2.1 (by have := (sound_parts hsd).2.1; omega) hr)
    (Lib.hid fun hsd w1 k h1 => freach_n _ p w1 k h1 hs (sound_parts hsd).2.2.2.1 (by have := (sound_parts hsd).2.1; omega)) (Lib.hid fun hsd w1 k r h1 hr => floops_n _ p w1 k r h1 hs (sound_parts hsd).2.2.2.1 (by have := (sound_parts hsd).2.1; omega) hr)
    (by omega) (by omega) q1
end Go.Proofs.YtcenjphpdgadmaaDoor
