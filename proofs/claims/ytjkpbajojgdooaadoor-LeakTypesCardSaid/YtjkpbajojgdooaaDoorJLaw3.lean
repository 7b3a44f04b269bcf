/-
  LeakTypes: the walk.
-/
import Derived.Test.YtjkpbajojgdooaaDoorJUse
import Derived.Deep.LoopGhost
import Derived.Deep.RegionHeld3
import Derived.Deep.CutRange
import Derived.Deep.CutBlock
import Derived.Deep.QuietTactic
namespace Go.Proofs.YtjkpbajojgdooaaDoor
set_option linter.unusedSimpArgs false
set_option linter.unusedVariables false
open Go.RowKit

set_option maxRecDepth 100000 in
set_option maxHeartbeats 8000000 in
theorem jtypes_at (w W0 : World) (p : PProg) (x x' : Option Addr) (kx kx' : Nat)
    (hW0 : W0 = w.alloc (.cells (progC (.slice x p.types.length kx) p (.slice x' p.code.length kx')) 25)) (KP : Hid (Keep W0 w.heap.size (.slice x p.types.length kx) (.slice x' p.code.length kx') p)) (HB : Hid (Below w.heap.size w W0))
    (HAL : Hid (∀ w1, Calls Tryd.prog 7 #[] w1 (AggPost w1 (.bool true))))
    (HSO : Hid (∀ w1, ProgAt w1 (.agg (progC (.slice x p.types.length kx) p (.slice x' p.code.length kx'))) p → Below w.heap.size w w1 → Calls Tryd.prog 6 #[.agg (progC (.slice x p.types.length kx) p (.slice x' p.code.length kx'))] w1 (AggPost w1 (.bool (soundB p)))))
    (g2 : kx' ≤ 9223372036854775807) (g1 : p.code.length ≤ kx')
    (hok : Hid (∀ i ∈ p.code, OkI i)) (hlo : p.locals.length ≤ 9223372036854775807)
    (HMY : Hid (soundB p = true → ∀ w1, ProgAt w1 (.agg (progC (.slice x p.types.length kx) p (.slice x' p.code.length kx'))) p → Calls Tryd.prog 8 #[.agg #[.slice x p.types.length kx, str p.locals, str p.globs, .slice x' p.code.length kx']] w1 (MayPost w1 p))) :
    Calls Tryd.prog 5 #[.agg (progC (.slice x p.types.length kx) p (.slice x' p.code.length kx'))] w (AggPost w (.bool true)) := by
  go_enter Tryd.func5, Tryd.ntmps5
  go_upto_region 1 with (fail)
  rw [← hW0]
  clear hW0
  rcases hsd : soundB p with _ | _
  · rw [hsd] at HSO
    go_wp2_with (first
      | (refine wpList_loadB rfl 25 _ rfl w.heap.size (progC (.slice x p.types.length kx) p (.slice x' p.code.length kx')) rfl 25 KP.out.blk _ Tryd.underlying25 rfl prog_info ?_)
      | (go_at_call 7; ((with_reducible refine (HAL.out _).mono ?_); rintro e w1 ⟨rfl, hb⟩; have KP := Lib.hid (KP.out.below hb); have HB := Lib.hid (HB.out.trans (hb.mono HB.out.size)); clear hb))
      | (go_at_call 6; ((with_reducible refine (HSO.out _ KP.out.at' HB.out).mono ?_); rintro e w2 ⟨rfl, hb⟩; have KP := Lib.hid (KP.out.below hb); have HB := Lib.hid (HB.out.trans (hb.mono HB.out.size)); clear hb)))
    go_ret
    exact ⟨rfl, HB.out⟩
  obtain ⟨hfw, hl60, hck, hin0, hl1⟩ := sound_parts hsd
  have HCK := Lib.hid hck
  have HMY := Lib.hid (HMY.out hsd)
  have hloc : p.locals.length ≤ 8 := by have := (head_parts (check_ok hck).1).2.2.1; omega
  rw [hsd] at HSO
  clear hin0 hck hsd
  go_upto_region 6 with (first
    | (refine wpList_loadB rfl 25 _ rfl w.heap.size (progC (.slice x p.types.length kx) p (.slice x' p.code.length kx')) rfl 25 KP.out.blk _ Tryd.underlying25 rfl prog_info ?_)
    | (go_at_call 7; ((with_reducible refine (HAL.out _).mono ?_); rintro e w1 ⟨rfl, hb⟩; have KP := Lib.hid (KP.out.below hb); have HB := Lib.hid (HB.out.trans (hb.mono HB.out.size)); clear hb))
    | (go_at_call 6; ((with_reducible refine (HSO.out _ KP.out.at' HB.out).mono ?_); rintro e w2 ⟨rfl, hb⟩; have KP := Lib.hid (KP.out.below hb); have HB := Lib.hid (HB.out.trans (hb.mono HB.out.size)); clear hb))
    | (go_at_call 8; ((with_reducible refine (HMY.out _ KP.out.at').mono ?_); rintro e wm ⟨vm, rfl, hm, hb⟩; have KP := Lib.hid (KP.out.below hb); have HB := Lib.hid (HB.out.trans (hb.mono HB.out.size)); clear hb; have HM := Lib.hid hm; clear hm)))
  clear HSO HAL HMY
  obtain ⟨xm, cm, rfl, hc1, hc2⟩ := HM.out.form
  have HK : Hid (JK w wm xm cm x x' kx kx' p) := Lib.hid ⟨KP.out, HB.out, HM.out⟩
  have p1 := HK.out.keep.cells.2.1
  clear HM KP HB
  have e1 : (((p.locals.length : Nat) : Int) != ((p.locals.length : Nat) : Int)) = false := by simp
  go_wp2_with (fail)
  clear p1
  go_loopw [24] (fun v24 wr => ∃ a : Nat, a ≤ p.locals.length ∧ v24 = .int .i64 a ∧ Hid (JK w wr xm cm x x' kx kx' p)) (fun v24 _ => p.locals.length - (intOf v24).toNat)
  case atStart => exact ⟨0, Nat.zero_le _, rfl, HK⟩
  case round =>
    obtain ⟨a, ha, rfl, HK⟩ := hrel
    by_cases hal : a < p.locals.length
    · have hai : (a : Int) < (p.locals.length : Int) := by omega
      have ha0 : (0 : Int) ≤ (a : Int) := by omega
      obtain ⟨b, o, y, c2, rfl, hc3, hc4, hcell, hrow⟩ := HK.out.may.rowAt hal
      have HR := Lib.hid hrow
      have p3 := HK.out.keep.cells.2.2.2
      have e2 : ((p.code.length : Int) + 1 != IntKind.i64.wrap ((p.code.length : Int) + 1)) = false := by
        rw [show IntKind.i64.wrap ((p.code.length : Int) + 1) = (p.code.length : Int) + 1 from IntWalk.i64_in _ (by omega)]; simp
      clear hrow
      have HK := Lib.hid (HK.out.next (Below.refl _ _).drew)
      have HR : Hid (RowAt wr.drew (.slice y (p.code.length + 1) c2) (mayRow p a)) := Lib.hid (HR.out.below (Below.refl _ _).drew)
      go_upto_region 11 with (fail)
      go_region_held3 (fun w' => w'.cell? ⟨b, o + a, none⟩ = some (.slice y (p.code.length + 1) c2) ∧ w'.cell? ⟨w.heap.size, 3, none⟩ = some (.slice x' p.code.length kx')) (go_keep) (fail)
      all_goals
        go_wp2_with (fail)
        clear e2 p3 hcell hai
        go_loopw [42] (fun v42 wx => ∃ k : Nat, k ≤ p.code.length + 1 ∧ v42 = .int .i64 k ∧ Hid (JK w wx (some ⟨b, o, none⟩) cm x x' kx kx' p) ∧ Hid (RowAt wx (.slice y (p.code.length + 1) c2) (mayRow p a))) (fun v42 _ => p.code.length + 1 - (intOf v42).toNat)
        case atStart => exact ⟨0, Nat.zero_le _, rfl, HK, HR⟩
        case round =>
          obtain ⟨k, hk, rfl, HK, HR⟩ := hrel
          by_cases hkl : k < p.code.length + 1
          · have hki : (k : Int) < ((p.code.length + 1 : Nat) : Int) := by omega
            have hk0 : (0 : Int) ≤ (k : Int) := by omega
            obtain ⟨b4, o4, rfl, hc5⟩ := mayRow_cell HR.out (show k ≤ p.code.length by omega)
            have p1 := HK.out.keep.cells.2.1
            have p3 := HK.out.keep.cells.2.2.2
            rcases hm : mayB p (a : Int) k with _ | _
            · rw [hm] at hc5
              clear hm
              go_upto_region 16 with (fail)
              go_quiet (fail)
              have HK := Lib.hid (HK.out.next (jN wr nq))
              have HR : Hid (RowAt (wr.drewN nq) (.slice (some ⟨b4, o4, none⟩) (p.code.length + 1) c2) (mayRow p a)) := Lib.hid (HR.out.below (jN wr nq))
              go_wp2_with (fail)
              go_roundw
              case rel => exact ⟨k + 1, by omega, by go_num, HK, HR⟩
              case measure => simp [intOf]; omega
            · obtain ⟨hkc, i, hi, h5, hal2, hby⟩ := may_types HCK.out hok.out (by omega) (mayB_iff.1 hm)
              rw [hm] at hc5
              clear hm
              have hki2 : (k : Int) < (p.code.length : Int) := by omega
              have hki3 : ¬ ((p.code.length : Int) ≤ (k : Int)) := by omega
              obtain ⟨bb, o9, rfl, hbb, hrg⟩ := prog_ins HK.out.keep.at' hi
              obtain ⟨o0, o1, a0', a1', -⟩ := hok.out i (List.mem_of_getElem? hi)
              obtain ⟨op, ia, ib, ic, iN⟩ := i
              simp only at a0' a1' h5 hal2 hby
              subst h5
              obtain ⟨aN, rfl⟩ : ∃ aN : Nat, ia = aN := ⟨ia.toNat, by omega⟩
              obtain ⟨d0, d1⟩ : (wr.cell? ⟨bb, o9 + k * 5, none⟩ = some (.int .u8 5)) ∧ wr.cell? ⟨bb, o9 + k * 5 + 1, none⟩ = some (.int .u8 aN) := ⟨hrg 0 _ rfl, hrg 1 _ rfl⟩
              clear hrg hi
              have hal3 : aN < p.locals.length := by omega
              have hap : (aN : Int) < (p.locals.length : Int) := by omega
              have han0 : (0 : Int) ≤ (aN : Int) := by omega
              have hbt : ∀ (j : Nat) (h : j < p.locals.length), (⟨p.locals.toArray⟩ : ByteArray)[j]'h = p.locals.getD j 0 := fun j h => by rw [List.getD_eq_getElem?_getD, List.getElem?_eq_getElem h]; rfl
              simp only [Int.toNat_natCast] at hby
              have e9 : ((((⟨p.locals.toArray⟩ : ByteArray)[aN]'hal3).toNat : Int) != (((⟨p.locals.toArray⟩ : ByteArray)[a]'hal).toNat : Int)) = false := by rw [hbt aN hal3, hbt a hal, hby]; simp
              clear hbt hby
              go_upto_region 16 with (fail)
              go_quiet (fail)
              have HK := Lib.hid (HK.out.next (jN wr nq))
              have HR : Hid (RowAt (wr.drewN nq) (.slice (some ⟨b4, o4, none⟩) (p.code.length + 1) c2) (mayRow p a)) := Lib.hid (HR.out.below (jN wr nq))
              go_wp2_with (fail)
              go_roundw
              case rel => exact ⟨k + 1, by omega, by go_num, HK, HR⟩
              case measure => simp [intOf]; omega
          · have hkn : ¬ ((k : Int) < ((p.code.length + 1 : Nat) : Int)) := by omega
            go_wp2_with (fail)
            go_roundw
            case rel => exact ⟨a + 1, by omega, by go_num, HK⟩
            case measure => simp [intOf]; omega
    · have hai : ¬ ((a : Int) < (p.locals.length : Int)) := by omega
      have p3 := HK.out.keep.cells.2.2.2
      go_wp2_with (fail)
      clear p3
      go_loopw [85] (fun v85 wr => ∃ k : Nat, k ≤ p.code.length ∧ v85 = .int .i64 k ∧ Hid (JK w wr xm cm x x' kx kx' p)) (fun v85 _ => p.code.length - (intOf v85).toNat)
      case atStart => exact ⟨0, Nat.zero_le _, rfl, HK⟩
      case round =>
        obtain ⟨k, hk, rfl, HK⟩ := hrel
        by_cases hkl : k < p.code.length
        · have hki : (k : Int) < (p.code.length : Int) := by omega
          have hki2 : (k : Int) < (p.code.length : Int) + 1 := by omega
          have hk0 : (0 : Int) ≤ (k : Int) := by omega
          obtain ⟨i, hi⟩ : ∃ i, p.code[k]? = some i := ⟨_, List.getElem?_eq_getElem hkl⟩
          obtain ⟨bb, o, rfl, hbb, hrg⟩ := prog_ins HK.out.keep.at' hi
          have hmem := List.mem_of_getElem? hi
          have hoki := hok.out i hmem
          have HNL : Hid (i.op = 5 → i.a < p.locals.length ∧ MayR p i.a k) := Lib.hid fun h5 => ⟨(local_lt (check_ok HCK.out).1 hoki.a0 (new_local HCK.out hmem h5)).1, .new hi h5⟩
          obtain ⟨op, ia, ib, ic, iN⟩ := i
          obtain ⟨o0, o1, a0', a1', -⟩ := hoki
          simp only at a0' a1' HNL
          obtain ⟨aN, rfl⟩ : ∃ aN : Nat, ia = aN := ⟨ia.toNat, by omega⟩
          obtain ⟨d0, d1, d2, d3, d4⟩ : (wr.cell? ⟨bb, o + k * 5, none⟩ = some (.int .u8 op)) ∧ wr.cell? ⟨bb, o + k * 5 + 1, none⟩ = some (.int .u8 aN) ∧ wr.cell? ⟨bb, o + k * 5 + 2, none⟩ = some (.int .u8 ib) ∧ wr.cell? ⟨bb, o + k * 5 + 3, none⟩ = some (.int .u8 ic) ∧ wr.cell? ⟨bb, o + k * 5 + 4, none⟩ = some (.int .i64 iN) := ⟨hrg 0 _ rfl, hrg 1 _ rfl, hrg 2 _ rfl, hrg 3 _ rfl, hrg 4 _ rfl⟩
          clear hrg hi hmem
          go_upto_region 23 with (fail)
          have hab : Below wr.heap.size wr (wr.alloc (.cells (insC ⟨op, aN, ib, ic, iN⟩) 45)) := (Below.refl _ _).alloc (Nat.le_refl _) _
          have HK := Lib.hid (HK.out.next hab)
          have HI : Hid (blk (wr.alloc (.cells (insC ⟨op, aN, ib, ic, iN⟩) 45)) wr.heap.size (insC ⟨op, aN, ib, ic, iN⟩) 45) := Lib.hid (blk_new _ _ _)
          obtain ⟨I, hI⟩ : ∃ I, I = wr.heap.size := ⟨_, rfl⟩
          obtain ⟨wa, hwa⟩ : ∃ wa, wa = wr.alloc (.cells (insC ⟨op, aN, ib, ic, iN⟩) 45) := ⟨_, rfl⟩
          rw [← hwa] at HK HI ⊢
          rw [← hI] at HI ⊢
          clear hab hwa hI d0 d1 d2 d3 d4
          have c0 : wa.cell? ⟨I, 0, none⟩ = some (.int .u8 op) := blk_cell HI.out 0 _ rfl
          have c1 : wa.cell? ⟨I, 1, none⟩ = some (.int .u8 (aN : Int)) := blk_cell HI.out 1 _ rfl
          by_cases h5 : op = 5
          · have qq : (op == 5) = true := by simpa using h5
            obtain ⟨hal2, hmr⟩ := HNL.out h5
            have hal3 : aN < p.locals.length := by omega
            have han : (aN : Int) < (p.locals.length : Int) := by omega
            have han0 : (0 : Int) ≤ (aN : Int) := by omega
            obtain ⟨b3, o3, y, c2, rfl, hc3, hc4, hcell, hrow⟩ := HK.out.may.rowAt hal3
            obtain ⟨b4, o4, rfl, hc5⟩ := mayRow_cell hrow hk
            rw [mayB_iff.2 hmr] at hc5
            have hki3 : (k : Int) < ((p.code.length + 1 : Nat) : Int) := by omega
            clear h5 HNL hmr hrow hal2
            go_wp2_with (fail)
            go_roundw
            case rel => exact ⟨k + 1, by omega, by go_num, HK⟩
            case measure => simp [intOf]; omega
          · have qq : (op == 5) = false := by simpa using h5
            clear h5 HNL
            go_wp2_with (fail)
            go_roundw
            case rel => exact ⟨k + 1, by omega, by go_num, HK⟩
            case measure => simp [intOf]; omega
        · have hkn : ¬ ((k : Int) < (p.code.length : Int)) := by omega
          go_wp2_with (fail)
          go_ret
          exact ⟨rfl, HK.out.below⟩
theorem jtypes_walk (v : Value) (p : PProg) (w : World) (h : ProgAt w v p) (hs : OkP p) (ht' : HasT w) : Calls Tryd.prog 5 #[v] w fun e w' => e = .returned (.bool true) ∧ Below w.heap.size w w' := by
  obtain ⟨vt, vc, rfl, ht, hc⟩ := id h
  have hwb : Below w.heap.size w (w.alloc (.cells (progC vt p vc) 25)) := (Below.refl _ _).alloc (Nat.le_refl _) _
  have HK := keep_new h
  obtain ⟨x, c, rfl, -, -, -⟩ := id ht.elems
  obtain ⟨x', c', rfl, q1, q2, -⟩ := id hc
  unfold maxLen at q2
  have hl := hs.lo
  unfold maxLen at hl
  exact jtypes_at w _ p _ _ _ _ rfl (Lib.hid HK) (Lib.hid hwb) (Lib.hid fun w1 => jalive_n w1) (Lib.hid fun w1 h1 hb1 => sound_n _ p w1 _ h1 hs (ht'.below hb1) rfl) (by omega) q1 (Lib.hid hs.ins) (by omega) (Lib.hid fun hsd w1 h1 => jmay_n _ p w1 h1 hs (sound_parts hsd).2.2.1)
end Go.Proofs.YtjkpbajojgdooaaDoor
