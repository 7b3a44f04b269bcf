/-
  The program's leak: what moves reach, of each local.
-/
import Derived.Test.YtapjgobkpehgfaaGreatDoorUBA
import Derived.StillTailTactics
import Derived.Deep.CutBlock
namespace Go.Proofs.YtapjgobkpehgfaaGreatDoor
set_option linter.unusedSimpArgs false
set_option linter.unusedVariables false
open Go.RowKit

def MvPost (w : World) (q : PProg) (e : Ending) (w' : World) : Prop := ∃ G ad M, e = .returned (.slice (some ⟨G, 0, none⟩) q.locals.length q.locals.length) ∧ GridW w.heap.size w w' G q.locals.length q.locals.length q.locals.length ad M ∧ WayM q M
theorem eqM_next (k : Nat) : (fun x => if x = k then (fun y => if y = k then true else (if k = k then (fun _ => false) else (fun b => k == b)) y) else (if x = k then (fun _ => false) else (fun b => x == b))) = (fun (a b : Nat) => a == b) := by
  funext x y
  by_cases e : x = k
  · subst e
    by_cases e2 : y = x
    · subst e2; simp
    · have e3 : ¬ x = y := fun h => e2 h.symm
      simp [e2, e3]
  · simp [e]
section
variable {B : Nat} {w wr w' : World} {G n m k : Nat} {ad : Nat → Nat} {M : Nat → Nat → Bool}
theorem GridW.one (h : GridW B w wr G n m k ad M) {a : Nat} (ha : a < k) {r : Nat → Bool} (hw : OneB wr w' (ad a) (boolRow m r) 4) : GridW B w w' G n m k ad (fun x => if x = a then r else M x) := by
  have hf := h.far a ha
  have hB := h.hB
  refine ⟨h.below.trans (hw.below B (by omega)), h.hB, h.kn, ?_, fun x hx => ?_, h.far, h.inj⟩
  · unfold blk; rw [hw.ne G (blk_lt h.out) (by omega)]; exact h.out
  · by_cases e : x = a
    · subst e
      rw [if_pos rfl]
      exact hw.blk
    · rw [if_neg e]
      unfold blk
      rw [hw.ne _ (blk_lt (h.rows x hx)) (by
        rcases Nat.lt_or_gt_of_ne e with h1 | h1
        · have := h.inj x a h1 ha; omega
        · have := h.inj a x h1 hx; omega)]
      exact h.rows x hx
theorem GridW.drew (h : GridW B w wr G n m k ad M) : GridW B w wr.drew G n m k ad M := h.next (Below.refl _ _).drew
end
set_option maxRecDepth 100000 in
set_option maxHeartbeats 8000000 in
theorem jmoved_at (w W0 : World) (p : PProg) (vt' : Value) (bb o k' Pb : Nat)
    (hW0 : W0 = w.alloc (.cells (progC vt' p (.slice (some ⟨bb, o, none⟩) p.code.length k')) 25)) (HS : Hid (Below w.heap.size w W0)) (KP : Hid (blk W0 w.heap.size (progC vt' p (.slice (some ⟨bb, o, none⟩) p.code.length k')) 25))
    (hlen : p.code.length ≤ 200) (hl8 : p.locals.length ≤ 8) (g1 : p.code.length ≤ k') (g2 : k' ≤ 9223372036854775807) (hbb : bb < w.heap.size)
    (HCO : Hid (∀ m i, p.code[m]? = some i → w.rangeAt bb (o + m * 5) (insC i).toList)) (HOK : Hid (OkP p)) (HC : Hid ((checkL p).2 = 0))
    (HT : Hid (∀ (w1 : World) (a : Int), Below w.heap.size w w1 → 0 ≤ a → a ≤ 255 → a < p.locals.length → Calls Tryz.prog 64 #[.int .u8 a, .pointer (some ⟨Pb, 0, none⟩)] w1 fun e w' => e = .returned (.bool true) ∧ w1 = w')) :
    Calls Tryz.prog 39 #[.agg (progC vt' p (.slice (some ⟨bb, o, none⟩) p.code.length k')), .func (.func 64) #[] #[.pointer (some ⟨Pb, 0, none⟩)]] w (MvPost w p) := by
  have hmk : ∀ w, (Instr.makeSlice 78 (.int .i64 (min (p.locals.length : Int) 256)) (.int .i64 (min (p.locals.length : Int) 256))).run Tryz.prog w = .ok (.slice (some ⟨w.heap.size, 0, none⟩) p.locals.length p.locals.length) (w.alloc (.cells (madeCells #[.slice none 0 0] p.locals.length) 68)) := fun w => by
    rw [show min (p.locals.length : Int) 256 = (p.locals.length : Int) by omega]
    exact run_make_row' _ _ _ _ Tryz.underlying78 infoBoolsG rfl _ _ p.locals.length (by omega) (by omega) w
  have hmk2 : ∀ w, (Instr.makeSlice 68 (.int .i64 (p.locals.length : Int)) (.int .i64 (p.locals.length : Int))).run Tryz.prog w = .ok (.slice (some ⟨w.heap.size, 0, none⟩) p.locals.length p.locals.length) (w.alloc (.cells (madeCells #[.bool false] p.locals.length) 4)) := fun w => run_make_row' _ _ _ _ Tryz.underlying68 infoBoolG rfl _ _ p.locals.length (by omega) (by omega) w
  have HMK2 := Lib.hid hmk2
  have hn256 : (p.locals.length : Int) < 256 := by omega
  have p1 : W0.cell? ⟨w.heap.size, 1, none⟩ = some (str p.locals) := blk_cell KP.out 1 _ rfl
  clear hmk2
  go_enter Tryz.func39, Tryz.ntmps39
  go_upto_region 1 with (fail)
  rw [← hW0]
  clear hW0
  go_upto_region 2 with (fail)
  rw [gridC_zeros _ p.locals.length (fun _ => 0)]
  have HG0 : Hid (GridW W0.heap.size W0 (W0.alloc (.cells (gridC p.locals.length p.locals.length 0 (fun _ => 0)) 68)) W0.heap.size p.locals.length p.locals.length 0 (fun _ => 0) (fun a b => a == b)) := Lib.hid (GridW.new (Below.refl _ _) (Nat.le_refl _) _ _ _ _)
  obtain ⟨wa, hwa⟩ : ∃ wa, wa = W0.alloc (.cells (gridC p.locals.length p.locals.length 0 (fun _ => 0)) 68) := ⟨_, rfl⟩
  obtain ⟨G, hG⟩ : ∃ G, G = W0.heap.size := ⟨_, rfl⟩
  rw [← hwa, ← hG] at HG0 ⊢
  have hGl : w.heap.size < G := by rw [hG]; exact blk_lt KP.out
  have HWG : Hid (Below w.heap.size w W0 ∧ W0.heap.size = G) := Lib.hid ⟨HS.out, hG.symm⟩
  clear hwa hG hmk hn256 p1
  go_wp2_with (fail)
  go_loopw [18] (fun v18 wr => ∃ (k : Nat) (ad : Nat → Nat), k ≤ p.locals.length ∧ v18 = .int .i64 k ∧ Hid (GridW G W0 wr G p.locals.length p.locals.length k ad (fun a b => a == b))) (fun v18 _ => p.locals.length - (intOf v18).toNat)
  case atStart => exact ⟨0, _, Nat.zero_le _, rfl, HG0⟩
  case round =>
    obtain ⟨k, ad, hk, rfl, HG⟩ := hrel
    clear HG0
    by_cases hkl : k < p.locals.length
    · have hki : (k : Int) < (p.locals.length : Int) := by omega
      have hk0 : (0 : Int) ≤ (k : Int) := by omega
      have hba := blk_alloc HG.out.out (.cells (madeCells #[.bool false] p.locals.length) 4)
      have ch : (wr.alloc (.cells (madeCells #[.bool false] p.locals.length) 4)).cell? ⟨G, k, none⟩ = some (.slice none 0 0) := blk_cell hba k _ (gridC_last hkl)
      have fh := blk_frozen hba k
      clear hba
      have hmk2 := HMK2.out
      go_upto_region 6 with (fail)
      rw [boolRow_zeros]
      have HG2 := Lib.hid (HG.out.more hkl (fun _ => false))
      obtain ⟨w2, hw2⟩ : ∃ w2, w2 = (wr.alloc (.cells (boolRow p.locals.length (fun _ => false)) 4)).setCell ⟨G, k, none⟩ (.slice (some ⟨wr.heap.size, 0, none⟩) p.locals.length p.locals.length) := ⟨_, rfl⟩
      obtain ⟨R, hR⟩ : ∃ R, R = wr.heap.size := ⟨_, rfl⟩
      rw [← hR] at hw2 HG2
      rw [← hw2] at HG2
      rw [← hR, ← hw2]
      clear hw2 hmk2 ch fh HG hR
      have c1 : w2.cell? ⟨G, k, none⟩ = some (.slice (some ⟨R, 0, none⟩) p.locals.length p.locals.length) := by have h9 := HG2.out.cell (a := k) (by omega); simpa using h9
      have hb2 := HG2.out.rows k (by omega)
      simp only [if_pos] at hb2
      have c2 : w2.cell? ⟨R, k, none⟩ = some (.bool false) := blk_cell hb2 k _ (boolRow_get hkl)
      have f2 := blk_frozen hb2 k
      have HN : Hid (GridW G W0 (w2.setCell ⟨R, k, none⟩ (.bool true)) G p.locals.length p.locals.length (k + 1) (fun a => if a = k then R else ad a) (fun a b => a == b)) := Lib.hid (by
        have h9 := HG2.out.setc (a := k) (j := k) (by omega) true
        rw [eqM_next] at h9
        simp only [if_pos] at h9
        exact h9)
      clear hb2 HG2
      go_wp2
      go_roundw
      case rel => exact ⟨k + 1, _, by omega, by go_num, HN⟩
      case measure => simp [intOf]; omega
    · have hke : k = p.locals.length := by omega
      have hkn : ¬ ((k : Int) < (p.locals.length : Int)) := by omega
      have HG1 : Hid (GridW G W0 wr G p.locals.length p.locals.length p.locals.length ad (fun a b => a == b)) := Lib.hid (by have h9 := HG.out; rw [hke] at h9; exact h9)
      have HP3 : Hid (wr.cell? ⟨w.heap.size, 3, none⟩ = some (.slice (some ⟨bb, o, none⟩) p.code.length k')) := Lib.hid (by
        have h9 : blk wr w.heap.size (progC vt' p (.slice (some ⟨bb, o, none⟩) p.code.length k')) 25 := by
          unfold blk
          rw [HG.out.below.block _ hGl]
          exact KP.out
        exact blk_cell h9 3 _ rfl)
      clear hke HG HMK2 HS KP
      have HBW : Hid (∀ w', Below G W0 w' → Below w.heap.size w w') := Lib.hid fun w' hb => HWG.out.1.trans (hb.mono (Nat.le_of_lt hGl))
      have p3 := HP3.out
      clear HP3
      go_wp2_with (fail)
      clear p3
      go_loopw [37] (fun v37 wr => ∃ (m : Nat) (M : Nat → Nat → Bool), m ≤ p.code.length ∧ v37 = .int .i64 m ∧ Hid (GridW G W0 wr G p.locals.length p.locals.length p.locals.length ad M) ∧ Hid (EdgeT p m M)) (fun v37 _ => p.code.length - (intOf v37).toNat)
      case atStart => exact ⟨0, _, Nat.zero_le _, rfl, HG1, Lib.hid EdgeT.nought⟩
      case round =>
        obtain ⟨m, M, hm, rfl, HG, HE⟩ := hrel
        clear HG1
        by_cases hml : m < p.code.length
        · have hmi : (m : Int) < (p.code.length : Int) := by omega
          have hm0 : (0 : Int) ≤ (m : Int) := by omega
          obtain ⟨i, hi⟩ : ∃ i, p.code[m]? = some i := ⟨_, List.getElem?_eq_getElem hml⟩
          have hr := rangeAt_below (HCO.out m i hi) hbb (HBW.out _ HG.out.below)
          have hmem := List.mem_of_getElem? hi
          obtain ⟨-, -, ya0, ya1, yb0, yb1, -⟩ := HOK.out.ins i hmem
          by_cases h7 : i.op = 7
          · have hms := move_same HC.out hmem h7
            have hh := (check_ok HC.out).1
            have ya2 := (local_lt hh ya0 hms.1).1
            have yb2 := (local_lt hh yb0 (by have := hms.2; have := hms.1; omega)).1
            obtain ⟨x, hx⟩ : ∃ x : Nat, i.b = (x : Int) := ⟨i.b.toNat, by omega⟩
            obtain ⟨y, hy⟩ : ∃ y : Nat, i.a = (y : Int) := ⟨i.a.toNat, by omega⟩
            have HE2 := Lib.hid (HE.out.take hi h7 hx hy)
            obtain ⟨op, ia, b, c, nn⟩ := i
            dsimp only at h7 hx hy ya0 ya1 yb0 yb1 ya2 yb2
            subst hx hy h7
            obtain ⟨d0, d1, d2, d3, d4⟩ : (wr.cell? ⟨bb, o + m * 5, none⟩ = some (.int .u8 7)) ∧ wr.cell? ⟨bb, o + m * 5 + 1, none⟩ = some (.int .u8 (y : Int)) ∧ wr.cell? ⟨bb, o + m * 5 + 2, none⟩ = some (.int .u8 (x : Int)) ∧ wr.cell? ⟨bb, o + m * 5 + 3, none⟩ = some (.int .u8 c) ∧ wr.cell? ⟨bb, o + m * 5 + 4, none⟩ = some (.int .i64 nn) := ⟨hr 0 _ rfl, hr 1 _ rfl, hr 2 _ rfl, hr 3 _ rfl, hr 4 _ rfl⟩
            have hxn : x < p.locals.length := by omega
            have hyn : y < p.locals.length := by omega
            have HTA := Lib.hid (fun w1 hb => HT.out w1 (y : Int) (HBW.out w1 hb) ya0 ya1 ya2)
            have HTB := Lib.hid (fun w1 hb => HT.out w1 (x : Int) (HBW.out w1 hb) yb0 yb1 yb2)
            clear hr hi hmem hms hh HE
            go_upto_region 11 with (fail)
            have hab : Below wr.heap.size wr (wr.alloc (.cells (insC ⟨7, (y : Int), (x : Int), c, nn⟩) 46)) := (Below.refl _ _).alloc (Nat.le_refl _) _
            have HG2 := Lib.hid (HG.out.next hab)
            have HI : Hid (blk (wr.alloc (.cells (insC ⟨7, (y : Int), (x : Int), c, nn⟩) 46)) wr.heap.size (insC ⟨7, (y : Int), (x : Int), c, nn⟩) 46) := Lib.hid (blk_new _ _ _)
            obtain ⟨I, hI⟩ : ∃ I, I = wr.heap.size := ⟨_, rfl⟩
            obtain ⟨w3, hw3⟩ : ∃ w3, w3 = wr.alloc (.cells (insC ⟨7, (y : Int), (x : Int), c, nn⟩) 46) := ⟨_, rfl⟩
            rw [← hw3] at HG2 HI ⊢
            rw [← hI] at HI ⊢
            clear hab hw3 hI d0 d1 d2 d3 d4 HG
            have e0 : w3.cell? ⟨I, 0, none⟩ = some (.int .u8 7) := blk_cell HI.out 0 _ rfl
            have e1 : w3.cell? ⟨I, 1, none⟩ = some (.int .u8 (y : Int)) := blk_cell HI.out 1 _ rfl
            have e2 : w3.cell? ⟨I, 2, none⟩ = some (.int .u8 (x : Int)) := blk_cell HI.out 2 _ rfl
            go_upto_region 12 with (first
              | (go_at_call 64; ((with_reducible refine (HTA.out w3 HG2.out.below).mono ?_); rintro e w5 ⟨rfl, rfl⟩))
              | (go_at_call 64; ((with_reducible refine (HTB.out w3 HG2.out.below).mono ?_); rintro e w5 ⟨rfl, rfl⟩)))
            have cG := HG2.out.cell hxn
            have cR := HG2.out.at hxn hyn
            have fR := blk_frozen (HG2.out.rows x hxn) y
            have hxi : (x : Int) < (p.locals.length : Int) := by omega
            have hyi : (y : Int) < (p.locals.length : Int) := by omega
            refine wp_region_still_tail 8 (by kernel_rfl) (by kernel_rfl) ?_
            simp only [List.take_succ_cons, List.take_zero, List.drop_succ_cons, List.drop_zero]
            change wpStill _ _ w3.drew (fun a' => wpList _ _ _ _ a' w3.drew) _ _
            repeat still_step
            refine wpStill_nil ?_
            have HN : Hid (GridW G W0 (w3.drew.setCell ⟨ad x, y, none⟩ (.bool true)) G p.locals.length p.locals.length p.locals.length ad (setM M x y)) := Lib.hid (HG2.out.drew.setc hxn true)
            clear HG2 HI
            go_wp2
            go_roundw
            case rel => exact ⟨m + 1, _, by omega, by go_num, HN, HE2⟩
            case measure => simp [intOf]; omega
          · have HE2 := Lib.hid (HE.out.skip hi h7)
            obtain ⟨op, ia, b, c, nn⟩ := i
            have q7 : (op == 7) = false := by simpa using h7
            obtain ⟨d0, d1, d2, d3, d4⟩ : (wr.cell? ⟨bb, o + m * 5, none⟩ = some (.int .u8 op)) ∧ wr.cell? ⟨bb, o + m * 5 + 1, none⟩ = some (.int .u8 ia) ∧ wr.cell? ⟨bb, o + m * 5 + 2, none⟩ = some (.int .u8 b) ∧ wr.cell? ⟨bb, o + m * 5 + 3, none⟩ = some (.int .u8 c) ∧ wr.cell? ⟨bb, o + m * 5 + 4, none⟩ = some (.int .i64 nn) := ⟨hr 0 _ rfl, hr 1 _ rfl, hr 2 _ rfl, hr 3 _ rfl, hr 4 _ rfl⟩
            clear hr hi hmem HE ya0 ya1 yb0 yb1 h7
            go_upto_region 11 with (fail)
            have hab : Below wr.heap.size wr (wr.alloc (.cells (insC ⟨op, ia, b, c, nn⟩) 46)) := (Below.refl _ _).alloc (Nat.le_refl _) _
            have HG2 := Lib.hid (HG.out.next hab)
            have HI : Hid (blk (wr.alloc (.cells (insC ⟨op, ia, b, c, nn⟩) 46)) wr.heap.size (insC ⟨op, ia, b, c, nn⟩) 46) := Lib.hid (blk_new _ _ _)
            obtain ⟨I, hI⟩ : ∃ I, I = wr.heap.size := ⟨_, rfl⟩
            obtain ⟨w3, hw3⟩ : ∃ w3, w3 = wr.alloc (.cells (insC ⟨op, ia, b, c, nn⟩) 46) := ⟨_, rfl⟩
            rw [← hw3] at HG2 HI ⊢
            rw [← hI] at HI ⊢
            clear hab hw3 hI d0 d1 d2 d3 d4 HG
            have e0 : w3.cell? ⟨I, 0, none⟩ = some (.int .u8 op) := blk_cell HI.out 0 _ rfl
            clear HI
            go_wp2
            go_roundw
            case rel => exact ⟨m + 1, _, by omega, by go_num, HG2, HE2⟩
            case measure => simp [intOf]; omega
        · have hme : m = p.code.length := by omega
          have hmn : ¬ ((m : Int) < (p.code.length : Int)) := by omega
          have HA : Hid (WarM (EdgeQ p) p.locals.length 0 0 M) := Lib.hid (by have h9 := HE.out; rw [hme] at h9; exact h9.war)
          have HG1 := HG
          clear hme HE HG HT HCO
          go_wp2_with (fail)
          go_loopw [67] (fun v67 wr => ∃ (b : Nat) (M : Nat → Nat → Bool), b ≤ p.locals.length ∧ v67 = .int .i64 b ∧ Hid (GridW G W0 wr G p.locals.length p.locals.length p.locals.length ad M) ∧ Hid (WarM (EdgeQ p) p.locals.length b 0 M)) (fun v67 _ => p.locals.length - (intOf v67).toNat)
          case atStart => exact ⟨0, _, Nat.zero_le _, rfl, HG1, HA⟩
          case round =>
            obtain ⟨b, M, hb, rfl, HG, HA1⟩ := hrel
            clear HG1 HA
            by_cases hbl : b < p.locals.length
            · have hbi : (b : Int) < (p.locals.length : Int) := by omega
              have hb0 : (0 : Int) ≤ (b : Int) := by omega
              go_wp2_with (fail)
              go_loopw [72] (fun v72 wr => ∃ (k : Nat) (M : Nat → Nat → Bool), k ≤ p.locals.length ∧ v72 = .int .i64 k ∧ Hid (GridW G W0 wr G p.locals.length p.locals.length p.locals.length ad M) ∧ Hid (WarM (EdgeQ p) p.locals.length b k M)) (fun v72 _ => p.locals.length - (intOf v72).toNat)
              case atStart => exact ⟨0, _, Nat.zero_le _, rfl, HG, HA1⟩
              case round =>
                obtain ⟨k, M, hk, rfl, HG2, HA2⟩ := hrel
                clear HG HA1
                by_cases hkl : k < p.locals.length
                · have hki : (k : Int) < (p.locals.length : Int) := by omega
                  have hk0 : (0 : Int) ≤ (k : Int) := by omega
                  have cK := HG2.out.cell hkl
                  have cB := HG2.out.cell hbl
                  have cV := HG2.out.at hkl hbl
                  rcases hv : M k b with _ | _
                  · rw [hv] at cV
                    have HN := Lib.hid (HA2.out.skip hkl hv)
                    clear hv HA2
                    go_wp2
                    go_roundw
                    case rel => exact ⟨k + 1, _, by omega, by go_num, HG2, HN⟩
                    case measure => simp [intOf]; omega
                  · rw [hv] at cV
                    have HN := Lib.hid (HA2.out.take hkl hbl hv)
                    clear hv HA2
                    have HAD := Lib.hid (jadd_n wr.drew (ad k) (ad b) p.locals.length (M k) (M b) (by omega) (Lib.hid (HG2.out.drew.rows k hkl)) (Lib.hid (HG2.out.drew.rows b hbl)))
                    go_upto_region 21 with (fail)
                    refine wp_region_still_tail 8 (by kernel_rfl) (by kernel_rfl) ?_
                    simp only [List.take_succ_cons, List.take_zero, List.drop_succ_cons, List.drop_zero]
                    change wpStill _ _ wr.drew (fun a' => wpList _ _ _ _ a' wr.drew) _ _
                    repeat still_step
                    refine wpStill_nil ?_
                    go_wp2_with (go_at_call 65; refine HAD.out.mono ?_; rintro e w5 ⟨rfl, ho⟩; have HG3 : Hid (GridW G W0 w5 G p.locals.length p.locals.length p.locals.length ad (orR M k b)) := Lib.hid (HG2.out.drew.one hkl ho); clear ho)
                    clear HG2 HAD
                    go_roundw
                    case rel => exact ⟨k + 1, _, by omega, by go_num, HG3, HN⟩
                    case measure => simp [intOf]; omega
                · have hke : k = p.locals.length := by omega
                  have hkn2 : ¬ ((k : Int) < (p.locals.length : Int)) := by omega
                  have HN : Hid (WarM (EdgeQ p) p.locals.length (b + 1) 0 M) := Lib.hid (by have h9 := HA2.out; rw [hke] at h9; exact h9.next)
                  clear hke HA2
                  go_wp2
                  go_roundw
                  case rel => exact ⟨b + 1, _, by omega, by go_num, HG2, HN⟩
                  case measure => simp [intOf]; omega
            · have hbe : b = p.locals.length := by omega
              have hbn : ¬ ((b : Int) < (p.locals.length : Int)) := by omega
              have HX : Hid (MvPost w p (.returned (.slice (some ⟨G, 0, none⟩) p.locals.length p.locals.length)) wr) := Lib.hid (by
                have h9 := HA1.out
                rw [hbe] at h9
                exact ⟨G, ad, M, rfl, { HG.out with below := HBW.out _ HG.out.below, hB := Nat.le_of_lt hGl }, h9.way HC.out HOK.out.ins⟩)
              clear hbe HA1 HG
              go_wp2
              go_ret
              exact HX.out
end Go.Proofs.YtapjgobkpehgfaaGreatDoor
