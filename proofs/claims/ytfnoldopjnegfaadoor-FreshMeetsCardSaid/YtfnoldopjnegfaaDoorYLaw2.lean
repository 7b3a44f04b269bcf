/-
  FreshMeets: the walk.
-/
import Derived.Test.YtfnoldopjnegfaaDoorYMeets
import Derived.Deep.LoopGhost
import Derived.Deep.RegionHeld3
import Derived.Deep.CutRange
import Derived.Deep.CutBlock
import Derived.Deep.QuietTactic
namespace Go.Proofs.YtfnoldopjnegfaaDoor
set_option linter.unusedSimpArgs false
set_option linter.unusedVariables false
open Go.RowKit

set_option maxRecDepth 100000 in
set_option maxHeartbeats 8000000 in
theorem fmeets_at (w W0 : World) (p : PProg) (x x' : Option Addr) (kx kx' : Nat)
    (hW0 : W0 = w.alloc (.cells (progC (.slice x p.types.length kx) p (.slice x' p.code.length kx')) 25)) (KP : Hid (Keep W0 w.heap.size (.slice x p.types.length kx) (.slice x' p.code.length kx') p)) (HB : Hid (Below w.heap.size w W0))
    (HAL : Hid (∀ w1, Calls Tryd.prog 10 #[] w1 (AggPost w1 (.bool true))))
    (HSO : Hid (∀ w1, ProgAt w1 (.agg (progC (.slice x p.types.length kx) p (.slice x' p.code.length kx'))) p → Below w.heap.size w w1 → Calls Tryd.prog 11 #[.agg (progC (.slice x p.types.length kx) p (.slice x' p.code.length kx'))] w1 (AggPost w1 (.bool (soundB p)))))
    (g2 : kx' ≤ 9223372036854775807) (g1 : p.code.length ≤ kx')
    (HLI : Hid (soundB p = true → ∀ w1, ProgAt w1 (.agg (progC (.slice x p.types.length kx) p (.slice x' p.code.length kx'))) p → Calls Tryd.prog 12 #[.agg #[.slice x p.types.length kx, str p.locals, str p.globs, .slice x' p.code.length kx']] w1 (U8sPost w1 (freshL p))))
    (HME : Hid (soundB p = true → ∀ (w1 : World) (b4 o4 c4 a : Nat), ProgAt w1 (.agg (progC (.slice x p.types.length kx) p (.slice x' p.code.length kx'))) p → U8At w1 b4 o4 p.code.length (freshL p) → p.code.length + 1 ≤ c4 → c4 ≤ 9223372036854775807 → a ≤ p.code.length → Calls Tryd.prog 18 #[.agg #[.slice x p.types.length kx, str p.locals, str p.globs, .slice x' p.code.length kx'], .slice (some ⟨b4, o4, none⟩) (p.code.length + 1) c4, .int .i64 a] w1 (AggPost w1 (.int .u8 (((freshL p).getD a 0 : Nat) : Int))))) :
    Calls Tryd.prog 5 #[.agg (progC (.slice x p.types.length kx) p (.slice x' p.code.length kx'))] w (AggPost w (.bool true)) := by
  go_enter Tryd.func5, Tryd.ntmps5
  go_upto_region 1 with (fail)
  rw [← hW0]
  clear hW0
  rcases hsd : soundB p with _ | _
  · rw [hsd] at HSO
    go_wp2_with (first
      | (refine wpList_loadB rfl 25 _ rfl w.heap.size (progC (.slice x p.types.length kx) p (.slice x' p.code.length kx')) rfl 25 KP.out.blk _ Tryd.underlying25 rfl prog_info ?_)
      | (go_at_call 10; ((with_reducible refine (HAL.out _).mono ?_); rintro e w1 ⟨rfl, hb⟩; have KP := Lib.hid (KP.out.below hb); have HB := Lib.hid (HB.out.trans (hb.mono HB.out.size)); clear hb))
      | (go_at_call 11; ((with_reducible refine (HSO.out _ KP.out.at' HB.out).mono ?_); rintro e w2 ⟨rfl, hb⟩; have KP := Lib.hid (KP.out.below hb); have HB := Lib.hid (HB.out.trans (hb.mono HB.out.size)); clear hb)))
    go_ret
    exact ⟨rfl, HB.out⟩
  have HLI : Hid (∀ w1, ProgAt w1 (.agg (progC (.slice x p.types.length kx) p (.slice x' p.code.length kx'))) p → Calls Tryd.prog 12 #[.agg (progC (.slice x p.types.length kx) p (.slice x' p.code.length kx'))] w1 (U8sPost w1 (freshL p))) := Lib.hid (HLI.out hsd)
  have HME := Lib.hid (HME.out hsd)
  have hl60 := (sound_parts hsd).2.1
  rw [hsd] at HSO
  clear hsd
  go_upto_region 6 with (first
    | (refine wpList_loadB rfl 25 _ rfl w.heap.size (progC (.slice x p.types.length kx) p (.slice x' p.code.length kx')) rfl 25 KP.out.blk _ Tryd.underlying25 rfl prog_info ?_)
    | (go_at_call 10; ((with_reducible refine (HAL.out _).mono ?_); rintro e w1 ⟨rfl, hb⟩; have KP := Lib.hid (KP.out.below hb); have HB := Lib.hid (HB.out.trans (hb.mono HB.out.size)); clear hb))
    | (go_at_call 11; ((with_reducible refine (HSO.out _ KP.out.at' HB.out).mono ?_); rintro e w2 ⟨rfl, hb⟩; have KP := Lib.hid (KP.out.below hb); have HB := Lib.hid (HB.out.trans (hb.mono HB.out.size)); clear hb))
    | (go_at_call 12; ((with_reducible refine (HLI.out _ KP.out.at').mono ?_); rintro e w3 ⟨v3, rfl, hr, hb⟩; obtain ⟨b4, o4, cp4, hv3, hc4, hd4, hbx, hcell⟩ := u8A_cells hr fresh_n1; subst hv3; have KP := Lib.hid (KP.out.below hb); have HB := Lib.hid (HB.out.trans (hb.mono HB.out.size)); clear hb; have HL := Lib.hid (U8At.mk hbx hcell); clear hr hbx hcell)))
  clear HSO HAL HLI
  have HK : Hid (OneK w w3 b4 o4 (freshL p) x x' kx kx' p) := Lib.hid ⟨KP.out, HB.out, HL.out⟩
  have hz0 := fresh_lt (q := p) 0
  have HFA : Hid (∀ w', OneK w w' b4 o4 (freshL p) x x' kx kx' p → w'.cell? ⟨b4, o4 + 0, none⟩ = some (.int .u8 (((freshL p).getD 0 0 : Nat) : Int)) ∧ w'.cell? ⟨w.heap.size, 0, none⟩ = some (.slice x p.types.length kx) ∧ w'.cell? ⟨w.heap.size, 1, none⟩ = some (str p.locals) ∧ w'.cell? ⟨w.heap.size, 2, none⟩ = some (str p.globs) ∧ w'.cell? ⟨w.heap.size, 3, none⟩ = some (.slice x' p.code.length kx')) := Lib.hid fun w' hq => hq.facts (Nat.zero_le _) rfl
  have HM0 : Hid (∀ (w1 : World), OneK w w1 b4 o4 (freshL p) x x' kx kx' p → Calls Tryd.prog 18 #[.agg #[.slice x p.types.length kx, str p.locals, str p.globs, .slice x' p.code.length kx'], .slice (some ⟨b4, o4, none⟩) (p.code.length + 1) cp4, .int .i64 0] w1 (AggPost w1 (.int .u8 (((freshL p).getD 0 0 : Nat) : Int)))) := Lib.hid fun w1 h1 => HME.out w1 b4 o4 cp4 0 h1.keep.at' h1.row hc4 hd4 (Nat.zero_le _)
  have HMK : Hid (∀ (w1 : World) (a : Nat), a ≤ p.code.length → OneK w w1 b4 o4 (freshL p) x x' kx kx' p → Calls Tryd.prog 18 #[.agg #[.slice x p.types.length kx, str p.locals, str p.globs, .slice x' p.code.length kx'], .slice (some ⟨b4, o4, none⟩) (p.code.length + 1) cp4, .int .i64 a] w1 (AggPost w1 (.int .u8 (((freshL p).getD a 0 : Nat) : Int)))) := Lib.hid fun w1 a ha h1 => HME.out w1 b4 o4 cp4 a h1.keep.at' h1.row hc4 hd4 ha
  obtain ⟨z0, hzz⟩ : ∃ z0, z0 = (freshL p).getD 0 0 := ⟨_, rfl⟩
  rw [← hzz] at hz0 HFA HM0
  have e7 : ((z0 : Int) != bits .and .u8 255 (z0 : Int)) = false := by
    have h9 := and9_u8 (show 255 < 256 by decide) hz0
    have h8 : 255 &&& z0 = z0 := by
      refine eq_bits fun a => ?_
      rw [Nat.testBit_and]
      rcases Nat.lt_or_ge a 8 with h | h
      · rw [bit255 h, Bool.true_and]
      · rw [testBit_hi hz0 h, Bool.and_false]
    rw [h8] at h9
    have h7 : bits .and .u8 255 (z0 : Int) = (z0 : Int) := h9
    rw [h7]; simp
  clear hzz KP HB HL HME hz0
  obtain ⟨qk, p0, p1, p2, p3⟩ := HFA.out _ HK.out
  rw [Nat.add_zero] at qk HFA
  have hw : IntKind.i64.wrap ((p.code.length : Int) + 1) = (p.code.length : Int) + 1 := by rw [IntKind.wrap_i64]; omega
  have e1 : ((p.code.length : Int) + 1 != (p.code.length : Int) + 1) = false := by simp
  have HK := Lib.hid (HK.out.next (Below.refl _ _).drew)
  go_region_held3 (fun w' => w'.cell? ⟨b4, o4, none⟩ = some (.int .u8 (z0 : Int)) ∧ w'.cell? ⟨w.heap.size, 0, none⟩ = some (.slice x p.types.length kx) ∧ w'.cell? ⟨w.heap.size, 1, none⟩ = some (str p.locals) ∧ w'.cell? ⟨w.heap.size, 2, none⟩ = some (str p.globs) ∧ w'.cell? ⟨w.heap.size, 3, none⟩ = some (.slice x' p.code.length kx')) (go_keep) (first
    | (go_at_call 18; ((with_reducible refine (HM0.out _ HK.out).mono ?_); rintro e wq ⟨rfl, hb⟩; have HK := Lib.hid (HK.out.next hb); clear hb qk p0 p1 p2 p3; obtain ⟨qk, p0, p1, p2, p3⟩ := HFA.out _ HK.out)))
  all_goals
    clear qk p0 p1 p2 p3 HFA HM0
    go_wp2
    go_loopw [31] (fun v31 wx => ∃ t : Nat, t ≤ p.code.length + 1 ∧ v31 = .int .i64 t ∧ Hid (OneK w wx b4 o4 (freshL p) x x' kx kx' p)) (fun v31 _ => p.code.length + 1 - (intOf v31).toNat)
    case atStart => exact ⟨0, Nat.zero_le _, rfl, HK⟩
    case round =>
      obtain ⟨t, ht, rfl, HK⟩ := hrel
      clear e7
      by_cases htl : t ≤ p.code.length
      · have hti : (t : Int) < (p.code.length : Int) + 1 := by omega
        have ht0 : (0 : Int) ≤ (t : Int) := by omega
        have HFA : Hid (∀ w', OneK w w' b4 o4 (freshL p) x x' kx kx' p → w'.cell? ⟨b4, o4 + t, none⟩ = some (.int .u8 (((freshL p).getD t 0 : Nat) : Int)) ∧ w'.cell? ⟨w.heap.size, 0, none⟩ = some (.slice x p.types.length kx) ∧ w'.cell? ⟨w.heap.size, 1, none⟩ = some (str p.locals) ∧ w'.cell? ⟨w.heap.size, 2, none⟩ = some (str p.globs) ∧ w'.cell? ⟨w.heap.size, 3, none⟩ = some (.slice x' p.code.length kx')) := Lib.hid fun w' hq => hq.facts htl rfl
        have HMT := Lib.hid (fun w1 => HMK.out w1 t htl)
        generalize (freshL p).getD t 0 = z at HFA HMT
        obtain ⟨qk, p0, p1, p2, p3⟩ := HFA.out _ HK.out
        have HK := Lib.hid (HK.out.next (Below.refl _ _).drew)
        go_upto_region 11 with (fail)
        go_region_held3 (fun w' => w'.cell? ⟨b4, o4 + t, none⟩ = some (.int .u8 (z : Int)) ∧ w'.cell? ⟨w.heap.size, 0, none⟩ = some (.slice x p.types.length kx) ∧ w'.cell? ⟨w.heap.size, 1, none⟩ = some (str p.locals) ∧ w'.cell? ⟨w.heap.size, 2, none⟩ = some (str p.globs) ∧ w'.cell? ⟨w.heap.size, 3, none⟩ = some (.slice x' p.code.length kx')) (go_keep) (first
          | (go_at_call 18; ((with_reducible refine (HMT.out _ HK.out).mono ?_); rintro e wq ⟨rfl, hb⟩; have HK := Lib.hid (HK.out.next hb); clear hb qk p0 p1 p2 p3; obtain ⟨qk, p0, p1, p2, p3⟩ := HFA.out _ HK.out)))
        all_goals
          clear qk p0 p1 p2 p3 HFA HMT
          go_wp2
          go_roundw
          case rel => exact ⟨t + 1, by omega, by go_num, HK⟩
          case measure => simp [intOf]; omega
      · have htn : ¬ ((t : Int) < (p.code.length : Int) + 1) := by omega
        go_wp2
        go_ret
        exact ⟨rfl, HK.out.below⟩
theorem fmeets_walk (v : Value) (p : PProg)  (w : World) (h : ProgAt w v p) (hs : OkP p) (ht' : HasT w) : Calls Tryd.prog 5 #[v] w fun e w' => e = .returned (.bool true) ∧ Below w.heap.size w w' := by
  obtain ⟨vt, vc, rfl, ht, hc⟩ := id h
  have hwb : Below w.heap.size w (w.alloc (.cells (progC vt p vc) 25)) := (Below.refl _ _).alloc (Nat.le_refl _) _
  have HK := keep_new h
  obtain ⟨x, c, rfl, -, -, -⟩ := id ht.elems
  obtain ⟨x', c', rfl, q1, q2, -⟩ := id hc
  unfold maxLen at q2
  exact fmeets_at w _ p x x' c c' rfl (Lib.hid HK) (Lib.hid hwb) (Lib.hid fun w1 => yalive_n w1) (Lib.hid fun w1 h1 hb1 => sound_n _ p w1 _ h1 hs (ht'.below hb1) rfl) (by omega) q1 (Lib.hid fun hsd w1 h1 => yin_n _ p w1 h1 hs (sound_parts hsd).2.2.2.1 (by have := (sound_parts hsd).2.1; omega)) (Lib.hid fun hsd w1 b4 o4 c4 a h1 h2 h3 h4 h5 => by
    have hin := (sound_parts hsd).2.2.2.1
    rw [← fresh_meets hin h5]
    exact lmeets_n p w1 x x' c c' b4 o4 c4 a _ h1 hs hin (by have := (sound_parts hsd).2.1; omega) h2 fresh_lt q1 (by omega) h3 h4 h5)
end Go.Proofs.YtfnoldopjnegfaaDoor
