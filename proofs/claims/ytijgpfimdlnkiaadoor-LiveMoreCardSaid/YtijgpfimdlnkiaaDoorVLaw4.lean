/-
  LiveMore: the walk.
-/
import Derived.Test.YtijgpfimdlnkiaaDoorVPA
import Derived.Deep.LoopGhost
import Derived.Test.YtijgpfimdlnkiaaDoorVLaw3
import Derived.Test.YtijgpfimdlnkiaaDoorHLaw4
import Derived.Test.YtijgpfimdlnkiaaDoorHLaw6
import Derived.Test.YtijgpfimdlnkiaaDoorBApp
namespace Go.Proofs.YtijgpfimdlnkiaaDoor
set_option linter.unusedSimpArgs false
set_option linter.unusedVariables false
open Go.RowKit

set_option maxRecDepth 100000 in
set_option maxHeartbeats 8000000 in
theorem lmore_at (w W0 : World) (p : PProg) (a0 a1 : Nat) (x x' : Option Addr) (kx kx' : Nat)
    (hW0 : W0 = w.alloc (.cells (progC (.slice x p.types.length kx) p (.slice x' p.code.length kx')) 25)) (KP : Hid (Keep W0 w.heap.size (.slice x p.types.length kx) (.slice x' p.code.length kx') p)) (HB : Hid (Below w.heap.size w W0))
    (HAL : Hid (∀ w1, Calls Tryd.prog 9 #[] w1 (AggPost w1 (.bool true))))
    (HSO : Hid (∀ w1, ProgAt w1 (.agg (progC (.slice x p.types.length kx) p (.slice x' p.code.length kx'))) p → Below w.heap.size w w1 → Calls Tryd.prog 14 #[.agg (progC (.slice x p.types.length kx) p (.slice x' p.code.length kx'))] w1 (AggPost w1 (.bool (soundB p)))))
    (g2 : kx' ≤ 9223372036854775807) (g1 : p.code.length ≤ kx')
    (HLI : Hid (∀ q vt vc, InP q → OkP q → q.code.length ≤ 200 → ∀ w1, ProgAt w1 (.agg (progC vt q vc)) q → Calls Tryd.prog 15 #[.agg #[vt, str q.locals, str q.globs, vc]] w1 (U8sPost w1 (liveL q))))
    (hok : Hid (OkP p)) (ha0 : a0 ≤ 255) (ha1 : a1 ≤ 255) (HTY : Hid (RowAt w (.slice x p.types.length kx) (p.types.map str))) (HCO : Hid (InsRow w (.slice x' p.code.length kx') p.code)) :
    Calls Tryd.prog 7 #[.agg (progC (.slice x p.types.length kx) p (.slice x' p.code.length kx')), .int .u8 a0, .int .u8 a1] w (AggPost w (.bool true)) := by
  go_enter Tryd.func7, Tryd.ntmps7
  go_upto_region 1 with (fail)
  rw [← hW0]
  clear hW0
  rcases hsd : soundB p with _ | _
  · rw [hsd] at HSO
    go_wp2_with (first
      | (refine wpList_loadB rfl 25 _ rfl w.heap.size (progC (.slice x p.types.length kx) p (.slice x' p.code.length kx')) rfl 25 KP.out.blk _ Tryd.underlying25 rfl prog_info ?_)
      | (go_at_call 9; ((with_reducible refine (HAL.out _).mono ?_); rintro e w1 ⟨rfl, hb⟩; have KP := Lib.hid (KP.out.below hb); have HB := Lib.hid (HB.out.trans (hb.mono HB.out.size)); clear hb))
      | (go_at_call 14; ((with_reducible refine (HSO.out _ KP.out.at' HB.out).mono ?_); rintro e w2 ⟨rfl, hb⟩; have KP := Lib.hid (KP.out.below hb); have HB := Lib.hid (HB.out.trans (hb.mono HB.out.size)); clear hb)))
    go_ret
    exact ⟨rfl, HB.out⟩
  obtain ⟨hfw, hl60, hck, hin0, hl1⟩ := sound_parts hsd
  have HIN := Lib.hid hin0
  rw [hsd] at HSO
  have hloc : p.locals.length ≤ 8 := by have := (head_parts (check_ok hck).1).2.2.1; omega
  clear hin0 hck hsd
  by_cases hz0 : p.locals.length = 0
  · have p1 := KP.out.cells.2.1
    have e0 : ((p.locals.length : Int) == 0) = true := by simp [hz0]
    have HP1 : Hid (∀ w', Keep w' w.heap.size (.slice x p.types.length kx) (.slice x' p.code.length kx') p → w'.cell? ⟨w.heap.size, 1, none⟩ = some (str p.locals)) := Lib.hid fun w' h => h.cells.2.1
    clear p1 hz0
    go_wp2_with (first
      | (refine wpList_loadB rfl 25 _ rfl w.heap.size (progC (.slice x p.types.length kx) p (.slice x' p.code.length kx')) rfl 25 KP.out.blk _ Tryd.underlying25 rfl prog_info ?_)
      | (go_at_call 9; ((with_reducible refine (HAL.out _).mono ?_); rintro e w1 ⟨rfl, hb⟩; have KP := Lib.hid (KP.out.below hb); have HB := Lib.hid (HB.out.trans (hb.mono HB.out.size)); clear hb))
      | (go_at_call 14; ((with_reducible refine (HSO.out _ KP.out.at' HB.out).mono ?_); rintro e w2 ⟨rfl, hb⟩; have KP := Lib.hid (KP.out.below hb); have HB := Lib.hid (HB.out.trans (hb.mono HB.out.size)); clear hb; have p1 := HP1.out _ KP.out)))
    go_ret
    exact ⟨rfl, HB.out⟩
  have e0 : ((p.locals.length : Int) == 0) = false := by simp; intro h; rw [h] at hz0; simp at hz0
  have HP1 : Hid (∀ w', Keep w' w.heap.size (.slice x p.types.length kx) (.slice x' p.code.length kx') p → w'.cell? ⟨w.heap.size, 1, none⟩ = some (str p.locals)) := Lib.hid fun w' h => h.cells.2.1
  go_upto_region 5 with (first
    | (refine wpList_loadB rfl 25 _ rfl w.heap.size (progC (.slice x p.types.length kx) p (.slice x' p.code.length kx')) rfl 25 KP.out.blk _ Tryd.underlying25 rfl prog_info ?_)
    | (go_at_call 9; ((with_reducible refine (HAL.out _).mono ?_); rintro e w1 ⟨rfl, hb⟩; have KP := Lib.hid (KP.out.below hb); have HB := Lib.hid (HB.out.trans (hb.mono HB.out.size)); clear hb))
    | (go_at_call 14; ((with_reducible refine (HSO.out _ KP.out.at' HB.out).mono ?_); rintro e w2 ⟨rfl, hb⟩; have KP := Lib.hid (KP.out.below hb); have HB := Lib.hid (HB.out.trans (hb.mono HB.out.size)); clear hb; have p1 := HP1.out _ KP.out)))
  clear HSO HAL HP1 e0
  have hz : ((p.code.length : Int) == 0) = false := by simp; intro h; rw [h] at hl1; simp at hl1
  have hz' : ¬ ((p.code.length : Int) = 0) := by omega
  have p3 := KP.out.cells.2.2.2
  go_upto_region 6 with (fail)
  obtain ⟨m, hm, hmm⟩ : ∃ m : Nat, m < p.code.length ∧ (a0 : Int) % (p.code.length : Int) = m := ⟨a0 % p.code.length, Nat.mod_lt a0 (by omega), rfl⟩
  rw [hmm]
  clear hmm hz hz'
  obtain ⟨i, hi⟩ : ∃ i, p.code[m]? = some i := ⟨_, List.getElem?_eq_getElem hm⟩
  obtain ⟨bb, o, rfl, hbb, hrg⟩ := prog_ins KP.out.at' hi
  have hmi : (m : Int) < (p.code.length : Int) := by omega
  have hm0 : (0 : Int) ≤ (m : Int) := by omega
  have d0 : w2.cell? ⟨bb, o + m * 5, none⟩ = some (.int .u8 i.op) := hrg 0 _ rfl
  have HII := Lib.hid hi
  clear hrg hi
  by_cases h14 : i.op = 14
  · rw [h14] at d0
    have H14 := Lib.hid h14
    clear h14
    go_upto_region 8 with (fail)
    clear d0 p3 p1
    go_upto_region 9 with (refine wpList_loadB rfl 25 _ rfl w.heap.size (progC (.slice x p.types.length kx) p (.slice (some ⟨bb, o, none⟩) p.code.length kx')) rfl 25 KP.out.blk _ Tryd.underlying25 rfl prog_info ?_)
    have hkw := keep_new KP.out.at'
    have hbw : Below w2.heap.size w2 (w2.alloc (.cells (progC (.slice x p.types.length kx) p (.slice (some ⟨bb, o, none⟩) p.code.length kx')) 25)) := (Below.refl _ _).alloc (Nat.le_refl _) _
    have KQ := Lib.hid hkw
    have KP4 := Lib.hid (KP.out.below hbw)
    have HB4 := Lib.hid (HB.out.trans (hbw.mono HB.out.size))
    have hq4 := blk_lt KQ.out.blk
    have hq0 := blk_lt KP.out.blk
    clear hkw hbw KP HB
    generalize w2.alloc (.cells (progC (.slice x p.types.length kx) p (.slice (some ⟨bb, o, none⟩) p.code.length kx')) 25) = W4 at *
    generalize w2.heap.size = Q at *
    have p3 := KP4.out.cells.2.2.2
    go_wp2_with (at_builtin; refine wpList_append_ins (by rfl) _ _ rfl W4.heap.size _ [] p.code rfl (World.ownsRow_nil _ _ _ _) _ rfl ?c0 ?c1 ?c2 ?c3 ?_)
    case c0 => exact HCO.out.below HB4.out
    case c1 => exact .inr ⟨_, _, _, rfl⟩
    case c2 => simp; omega
    case c3 => exact Nat.le_refl _
    intro v1 w5 ho1 b1
    have ho1 : w5.ownsRow W4.heap.size 27 5 v1 p.code.length (codeCells p.code) := ho1
    obtain ⟨g, cap, rfl⟩ : ∃ g cap, v1 = .slice (some ⟨g, 0, none⟩) p.code.length cap := by
      rcases ownsRow_forms ho1 with ⟨_, h⟩ | h
      · omega
      · exact h
    have hg2 : W4.heap.size ≤ g := by
      rcases ho1.2 with ⟨h, _⟩ | ⟨g, cap, cur, h, hB, _⟩
      · cases h
      · simp only [Value.slice.injEq, Option.some.injEq, Addr.mk.injEq] at h
        rw [h.1.1]; exact hB
    have KQ5 := Lib.hid (KQ.out.below b1)
    have KP5 := Lib.hid (KP4.out.below b1)
    have HB5 := Lib.hid (HB4.out.trans (b1.mono HB4.out.size))
    have hbs : Below w.heap.size w (w5.setCell ⟨Q, 3, none⟩ (.slice (some ⟨g, 0, none⟩) p.code.length cap)) := HB5.out.setCell (p := ⟨Q, 3, none⟩) (Nat.le_of_lt hq0) _
    have HB6 := Lib.hid hbs
    have HO6 := Lib.hid (own_set (u := (.slice (some ⟨g, 0, none⟩) p.code.length cap)) (j := 3) ho1 KQ5.out.blk hq4)
    have KP6 : Hid (Keep (w5.setCell ⟨Q, 3, none⟩ (.slice (some ⟨g, 0, none⟩) p.code.length cap)) w.heap.size (.slice x p.types.length kx) (.slice (some ⟨bb, o, none⟩) p.code.length kx') p) := Lib.hid ⟨by rw [setCell_putB KQ5.out.blk]; unfold blk; rw [putB_ne _ (by omega)]; exact KP5.out.blk, ⟨_, _, rfl, HTY.out.below hbs, HCO.out.below hbs⟩⟩
    have KM := Lib.hid (code_put (p := p) (q := p) KQ5.out.blk (HTY.out.below hbs) (insRow_set KQ5.out.blk (by omega) (insRow_own ho1) _) rfl rfl)
    have q3 := KQ5.out.cells.2.2.2
    have f3 := blk_frozen KQ5.out.blk 3
    clear ho1 b1 hbs p3 KQ KQ5 KP5 KP4 HB4 HB5
    go_upto_region 10 with (fail)
    clear q3 f3
    generalize w5.setCell ⟨Q, 3, none⟩ (.slice (some ⟨g, 0, none⟩) p.code.length cap) = w6 at *
    have p1 := KP6.out.cells.2.1
    have hw8 : IntKind.u8.wrap (p.locals.length : Int) = (p.locals.length : Int) := by rw [IntKind.wrap_u8]; omega
    have hl0 : ((p.locals.length : Int) == 0) = false := by simp; intro h; rw [h] at hz0; simp at hz0
    have hl0' : ¬ ((p.locals.length : Int) = 0) := by omega
    go_upto_region 11 with (fail)
    obtain ⟨xN, hxl, hxx⟩ : ∃ xN : Nat, xN < p.locals.length ∧ (a1 : Int) % (p.locals.length : Int) = xN := ⟨a1 % p.locals.length, Nat.mod_lt a1 (by omega), rfl⟩
    rw [hxx]
    clear hxx hw8 hl0 hl0' p1
    have hx7 : xN ≤ 7 := by omega
    obtain ⟨ht5, hB5, hir5⟩ := own_put (i := ⟨15, 7, xN, xN, 0⟩) HO6.out hm
    have HTH := Lib.hid ht5
    have hbs8 := below_setCells (B := w.heap.size) (a := w) (b := g) (by omega) (insC ⟨15, 7, xN, xN, 0⟩).toList (m * 5) w6 HB6.out
    have hbq := below_setCells (B := Q + 1) (a := w6) (b := g) (by omega) (insC ⟨15, 7, xN, xN, 0⟩).toList (m * 5) w6 (Below.refl _ _)
    have hir6 : InsRow (w6.setCells g (m * 5) (insC ⟨15, 7, xN, xN, 0⟩).toList) (.slice (some ⟨g, 0, none⟩) p.code.length cap) ((useQ p m xN)).code := hir5
    have KD8 : Hid (Keep (w6.setCells g (m * 5) (insC ⟨15, 7, xN, xN, 0⟩).toList) w.heap.size (.slice x p.types.length kx) (.slice (some ⟨bb, o, none⟩) p.code.length kx') p) := Lib.hid ⟨by unfold blk; rw [hbq.block w.heap.size (by omega)]; exact KP6.out.blk, ⟨_, _, rfl, HTY.out.below hbs8, HCO.out.below hbs8⟩⟩
    have KE8 : Hid (Keep (w6.setCells g (m * 5) (insC ⟨15, 7, xN, xN, 0⟩).toList) Q (.slice x p.types.length kx) (.slice (some ⟨g, 0, none⟩) p.code.length cap) (useQ p m xN)) := Lib.hid ⟨by
      have e : (progC (.slice x p.types.length kx) (useQ p m xN) (.slice (some ⟨g, 0, none⟩) p.code.length cap)) = progC (.slice x p.types.length kx) p (.slice (some ⟨g, 0, none⟩) p.code.length cap) := rfl
      rw [e]; unfold blk; rw [hbq.block Q (by omega)]; exact KM.out.blk, ⟨_, _, rfl, HTY.out.below hbs8, hir6⟩⟩
    have HD8 := Lib.hid hbs8
    obtain ⟨W8, hW8⟩ : ∃ W8, W8 = w6.setCells g (m * 5) (insC ⟨15, 7, xN, xN, 0⟩).toList := ⟨_, rfl⟩
    rw [← hW8] at KD8 KE8 HD8
    have HW8 := Lib.hid hW8.symm
    have q3 := KM.out.cells.2.2.2
    clear hW8 ht5 hB5 hir5 hir6 hbs8 hbq KP6 HB6 HO6
    go_upto_region 12 with (refine wpList_putI (o := ⟨none, .store 27 (.tmp 54) (.tmp 53), 0, _, _, none⟩) rfl rfl (.tmp 54) (.tmp 53) rfl g (m * 5) ⟨15, 7, xN, xN, 0⟩ rfl rfl HTH.out HW8.out ?_)
    clear q3 HTH HW8 KM
    have hq : InP (useQ p m xN) ∧ OkP (useQ p m xN) ∧ ((useQ p m xN)).code.length = p.code.length := ⟨useQ_in HIN.out, ⟨hok.out.ty, hok.out.lo, hok.out.gl, fun i hi => by
      rcases List.mem_or_eq_of_mem_set hi with h | rfl
      · exact hok.out.ins i h
      · constructor <;> (simp only []; omega)⟩, by show (p.code.set m _).length = _; simp⟩
    have HQL : Hid ((liveL (useQ p m xN)).length = p.code.length + 1) := Lib.hid (by rw [live_len, hq.2.2])
    have HL1 : Hid (∀ w1, ProgAt w1 (.agg (progC (.slice x p.types.length kx) p (.slice (some ⟨bb, o, none⟩) p.code.length kx'))) p → Calls Tryd.prog 15 #[.agg #[.slice x p.types.length kx, str p.locals, str p.globs, .slice (some ⟨bb, o, none⟩) p.code.length kx']] w1 (U8sPost w1 (liveL p))) := Lib.hid fun w1 h1 => HLI.out p _ _ HIN.out hok.out (by omega) w1 h1
    have HL2 : Hid (∀ w1, ProgAt w1 (.agg (progC (.slice x p.types.length kx) (useQ p m xN) (.slice (some ⟨g, 0, none⟩) p.code.length cap))) (useQ p m xN) → Calls Tryd.prog 15 #[.agg #[.slice x p.types.length kx, str p.locals, str p.globs, (.slice (some ⟨g, 0, none⟩) p.code.length cap)]] w1 (U8sPost w1 (liveL (useQ p m xN)))) := Lib.hid fun w1 h1 => HLI.out (useQ p m xN) _ _ hq.1 hq.2.1 (by rw [hq.2.2]; omega) w1 h1
    have HMO : Hid (∀ t, butN ((liveL p).getD t 0) ((liveL (useQ p m xN)).getD t 0) = 0) := Lib.hid fun t => useQ_live HII.out H14.out t
    have HBT := Lib.hid (useQ_at_k (x := xN) HII.out hx7)
    clear hq HLI
    obtain ⟨p0, p1, p2, p3⟩ := KD8.out.cells
    have HRC : Hid (∀ w', Keep w' Q (.slice x p.types.length kx) (.slice (some ⟨g, 0, none⟩) p.code.length cap) (useQ p m xN) → w'.cell? ⟨Q, 0, none⟩ = some (.slice x p.types.length kx) ∧ w'.cell? ⟨Q, 1, none⟩ = some (str p.locals) ∧ w'.cell? ⟨Q, 2, none⟩ = some (str p.globs) ∧ w'.cell? ⟨Q, 3, none⟩ = some (.slice (some ⟨g, 0, none⟩) p.code.length cap)) := Lib.hid fun w' h => h.cells
    obtain ⟨r0, r1, r2, r3⟩ := HRC.out _ KE8.out
    have KD := Lib.hid (KD8.out.below (Below.refl _ _).drew)
    have KE := Lib.hid (KE8.out.below (Below.refl _ _).drew)
    have HD : Hid (Below w.heap.size w W8.drew) := Lib.hid (HD8.out.drew)
    clear KD8 KE8 HD8
    go_cut [10, 11] from 13 (fun v10 v11 wx => ∃ b4 o4 c4 b5 o5 c5, v10 = .slice (some ⟨b4, o4, none⟩) (p.code.length + 1) c4 ∧ v11 = .slice (some ⟨b5, o5, none⟩) (p.code.length + 1) c5 ∧ TwoR w wx p.code.length b4 o4 c4 b5 o5 c5 (liveL p) (liveL (useQ p m xN)))
    case first =>
      go_region_held3 (fun w' => w'.cell? ⟨w.heap.size, 0, none⟩ = some (.slice x p.types.length kx) ∧ w'.cell? ⟨w.heap.size, 1, none⟩ = some (str p.locals) ∧ w'.cell? ⟨w.heap.size, 2, none⟩ = some (str p.globs) ∧ w'.cell? ⟨w.heap.size, 3, none⟩ = some (.slice (some ⟨bb, o, none⟩) p.code.length kx') ∧ w'.cell? ⟨Q, 0, none⟩ = some (.slice x p.types.length kx) ∧ w'.cell? ⟨Q, 1, none⟩ = some (str p.locals) ∧ w'.cell? ⟨Q, 2, none⟩ = some (str p.globs) ∧ w'.cell? ⟨Q, 3, none⟩ = some (.slice (some ⟨g, 0, none⟩) p.code.length cap)) (go_keep) (first
        | (go_at_call 15; ((with_reducible refine (HL1.out _ KD.out.at').mono ?_); rintro e w' ⟨v, rfl, hr, hb⟩; obtain ⟨b4, o4, c4, hv, hc4, hd4, hbx, hcell⟩ := u8A_cells (n := p.code.length) hr live_n1; subst hv; (try (have H5 := Lib.hid (H5.out.next hb))); have H4 := Lib.hid (U8At.mk hbx hcell); have KD := Lib.hid (KD.out.below hb); have KE := Lib.hid (KE.out.below hb); have HD := Lib.hid (HD.out.trans (hb.mono HD.out.size)); clear hr hb hcell hbx p0 p1 p2 p3 r0 r1 r2 r3; obtain ⟨p0, p1, p2, p3⟩ := KD.out.cells; obtain ⟨r0, r1, r2, r3⟩ := HRC.out _ KE.out))
        | (go_at_call 15; ((with_reducible refine (HL2.out _ KE.out.at').mono ?_); rintro e w' ⟨v, rfl, hr, hb⟩; obtain ⟨b5, o5, c5, hv, hc5, hd5, hbx, hcell⟩ := u8A_cells (n := p.code.length) hr HQL.out; subst hv; (try (have H4 := Lib.hid (H4.out.next hb))); have H5 := Lib.hid (U8At.mk hbx hcell); have KD := Lib.hid (KD.out.below hb); have KE := Lib.hid (KE.out.below hb); have HD := Lib.hid (HD.out.trans (hb.mono HD.out.size)); clear hr hb hcell hbx p0 p1 p2 p3 r0 r1 r2 r3; obtain ⟨p0, p1, p2, p3⟩ := KD.out.cells; obtain ⟨r0, r1, r2, r3⟩ := HRC.out _ KE.out)))
      all_goals
        clear p0 p1 p2 p3 r0 r1 r2 r3
        go_wp2_with fail
        go_meet
        exact ⟨_, _, _, _, _, _, rfl, rfl, HD.out, H4.out, H5.out, hc4, hc5, hd4, hd5⟩
    case rest =>
      obtain ⟨b4, o4, c4, b5, o5, c5, rfl, rfl, hq⟩ := hcut
      have HQ := Lib.hid hq
      have e4 := hq.g4
      have e5 := hq.g5
      have f4 := hq.g6
      have f5 := hq.g7
      have qm := hq.h5.c m (by omega)
      have hbt := HBT.out
      obtain ⟨z, hz⟩ : ∃ z, z = (liveL (useQ p m xN)).getD m 0 := ⟨_, rfl⟩
      rw [← hz] at qm hbt
      have e9 : (((z : Int) / 2 ^ xN).tmod 2 == 0) = false := by rw [shr_tmod, if_pos hbt]; rfl
      have hmi3 : (m : Int) < (p.code.length : Int) + 1 := by omega
      clear hq KD KE HD HL1 HL2 p0 p1 p2 p3 r0 r1 r2 r3 hz hbt HBT
      go_wp2
      go_loopw [76] (fun v76 wx => ∃ t : Nat, t ≤ p.code.length + 1 ∧ v76 = .int .i64 t ∧ Hid (Below w.heap.size w wx) ∧ Hid (Below wc.heap.size wc wx)) (fun v76 _ => p.code.length + 1 - (intOf v76).toNat)
      case atStart => exact ⟨0, Nat.zero_le _, rfl, Lib.hid HQ.out.below, Lib.hid (Below.refl _ _)⟩
      case round =>
        obtain ⟨t, ht, rfl, HBX, HCX⟩ := hrel
        clear qm e9
        by_cases htl : t ≤ p.code.length
        · have hti : (t : Int) < (p.code.length : Int) + 1 := by omega
          have q4 := (HQ.out.h4.next HCX.out).c t htl
          have q5 := (HQ.out.h5.next HCX.out).c t htl
          have hmo := HMO.out t
          have hy4 := live_lt (q := p) t
          have hy5 := live_lt (q := (useQ p m xN)) t
          generalize (liveL p).getD t 0 = y4 at q4 hmo hy4
          generalize (liveL (useQ p m xN)).getD t 0 = y5 at q5 hmo hy5
          have e6 : (bits .andNot .u8 (y4 : Int) (y5 : Int) != 0) = false := by rw [but_u8 hy4 hy5, hmo]; rfl
          clear hmo hy4 hy5
          go_upto_region 18 with (fail)
          go_quiet (fail)
          go_wp2
          go_roundw
          case rel => exact ⟨t + 1, by omega, by go_num, Lib.hid (below8_draws HBX.out _), Lib.hid (below8_draws HCX.out _)⟩
          case measure => simp [intOf]; omega
        · have htn : ¬ ((t : Int) < (p.code.length : Int) + 1) := by omega
          go_wp2
          go_ret
          exact ⟨rfl, HBX.out⟩
  · have hq : (i.op != 14) = true := by simpa using h14
    clear h14
    go_wp2
    go_ret
    exact ⟨rfl, HB.out⟩
theorem lmore_walk (v : Value) (p : PProg) (a b : Int) (w : World) (h : ProgAt w v p) (hs : OkP p) (ha0 : 0 ≤ a) (ha : a ≤ 255) (hb0 : 0 ≤ b) (hb : b ≤ 255) (ht' : HasT w) : Calls Tryd.prog 7 #[v, .int .u8 a, .int .u8 b] w fun e w' => e = .returned (.bool true) ∧ Below w.heap.size w w' := by
  obtain ⟨vt, vc, rfl, ht, hc⟩ := id h
  have hwb : Below w.heap.size w (w.alloc (.cells (progC vt p vc) 25)) := (Below.refl _ _).alloc (Nat.le_refl _) _
  have HK := keep_new h
  obtain ⟨x, c, rfl, -, -, -⟩ := id ht.elems
  obtain ⟨x', c', rfl, q1, q2, -⟩ := id hc
  unfold maxLen at q2
  obtain ⟨ka, rfl⟩ : ∃ ka : Nat, a = ka := ⟨a.toNat, by omega⟩
  obtain ⟨kb, rfl⟩ : ∃ kb : Nat, b = kb := ⟨b.toNat, by omega⟩
  exact lmore_at w _ p ka kb x x' c c' rfl (Lib.hid HK) (Lib.hid hwb) (Lib.hid fun w1 => valive_n w1) (Lib.hid fun w1 h1 hb1 => sound_n _ p w1 _ h1 hs (ht'.below hb1) rfl) (by omega) q1 (Lib.hid fun q vt vc hin hok hl w1 h1 => lin_n _ q w1 h1 hok hin hl) (Lib.hid hs) (by omega) (by omega) (Lib.hid ht) (Lib.hid hc)
end Go.Proofs.YtijgpfimdlnkiaaDoor
