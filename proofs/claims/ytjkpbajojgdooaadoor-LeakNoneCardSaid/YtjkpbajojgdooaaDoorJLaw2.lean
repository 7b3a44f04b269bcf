/-
  LeakNone: the walk.
-/
import Derived.Test.YtjkpbajojgdooaaDoorJNone
import Derived.Deep.LoopGhost
import Derived.Deep.RegionHeld3
import Derived.Deep.CutRange
import Derived.Deep.CutBlock
import Derived.Deep.QuietTactic
import Derived.Deep.RegionWith
namespace Go.Proofs.YtjkpbajojgdooaaDoor
set_option linter.unusedSimpArgs false
set_option linter.unusedVariables false
open Go.RowKit

set_option maxRecDepth 100000 in
set_option maxHeartbeats 8000000 in
theorem jnone_at (w W0 : World) (p : PProg) (a0 : Nat) (x x' : Option Addr) (kx kx' : Nat)
    (hW0 : W0 = w.alloc (.cells (progC (.slice x p.types.length kx) p (.slice x' p.code.length kx')) 25)) (KP : Hid (Keep W0 w.heap.size (.slice x p.types.length kx) (.slice x' p.code.length kx') p)) (HB : Hid (Below w.heap.size w W0))
    (HAL : Hid (∀ w1, Calls Tryd.prog 7 #[] w1 (AggPost w1 (.bool true))))
    (HSO : Hid (∀ w1, ProgAt w1 (.agg (progC (.slice x p.types.length kx) p (.slice x' p.code.length kx'))) p → Below w.heap.size w w1 → Calls Tryd.prog 6 #[.agg (progC (.slice x p.types.length kx) p (.slice x' p.code.length kx'))] w1 (AggPost w1 (.bool (soundB p)))))
    (g2 : kx' ≤ 9223372036854775807) (g1 : p.code.length ≤ kx') (hok : Hid (OkP p)) (ha0 : a0 ≤ 255)
    (HTY : Hid (RowAt w (.slice x p.types.length kx) (p.types.map str))) (HCO : Hid (InsRow w (.slice x' p.code.length kx') p.code))
    (HLE : Hid (∀ (q : PProg) (vt vc : Value), OkP q → (checkL q).2 = 0 → ∀ (w1 : World) (k : Int), ProgAt w1 (.agg (progC vt q vc)) q → Calls Tryd.prog 10 #[.agg #[vt, str q.locals, str q.globs, vc], .int .i64 k] w1 (AggPost w1 (.bool (leakV q k))))) :
    Calls Tryd.prog 4 #[.agg (progC (.slice x p.types.length kx) p (.slice x' p.code.length kx')), .int .u8 a0] w (AggPost w (.bool true)) := by
  go_enter Tryd.func4, Tryd.ntmps4
  go_upto_region 1 with (fail)
  rw [← hW0]
  clear hW0
  rcases hsd : soundB p with _ | _
  · rw [hsd] at HSO
    go_wp2_with (first
      | (refine wpList_loadB rfl 25 _ rfl w.heap.size (progC (.slice x p.types.length kx) p (.slice x' p.code.length kx')) rfl 25 KP.out.blk _ Tryd.underlying25 rfl prog_info ?_)
      | (go_at_call 7; ((with_reducible refine (HAL.out _).mono ?_); rintro e w1 ⟨rfl, hb⟩; have KP := Lib.hid (KP.out.below hb); have HB := Lib.hid (HB.out.trans (hb.mono HB.out.size)); clear hb))
      | (go_at_call 6; ((with_reducible refine (HSO.out _ KP.out.at' HB.out).mono ?_); rintro e w2 ⟨rfl, hb⟩; have KP := Lib.hid (KP.out.below hb); have HB := Lib.hid (HB.out.trans (hb.mono HB.out.size)); clear hb)))
    go_ret
    exact ⟨rfl, HB.out⟩
  obtain ⟨hfw, hl60, hck, hin0, hl1⟩ := sound_parts hsd
  have HCK := Lib.hid hck
  rw [hsd] at HSO
  clear hin0 hck hsd
  go_upto_region 5 with (first
    | (refine wpList_loadB rfl 25 _ rfl w.heap.size (progC (.slice x p.types.length kx) p (.slice x' p.code.length kx')) rfl 25 KP.out.blk _ Tryd.underlying25 rfl prog_info ?_)
    | (go_at_call 7; ((with_reducible refine (HAL.out _).mono ?_); rintro e w1 ⟨rfl, hb⟩; have KP := Lib.hid (KP.out.below hb); have HB := Lib.hid (HB.out.trans (hb.mono HB.out.size)); clear hb))
    | (go_at_call 6; ((with_reducible refine (HSO.out _ KP.out.at' HB.out).mono ?_); rintro e w2 ⟨rfl, hb⟩; have KP := Lib.hid (KP.out.below hb); have HB := Lib.hid (HB.out.trans (hb.mono HB.out.size)); clear hb)))
  clear HSO HAL
  have hst := NoE.start HB.out KP.out
  have p3 := KP.out.cells.2.2.2
  have HE := Lib.hid hst
  clear hst
  go_upto_region 6 with (refine wpList_loadB rfl 25 _ rfl w.heap.size (progC (.slice x p.types.length kx) p (.slice x' p.code.length kx')) rfl 25 KP.out.blk _ Tryd.underlying25 rfl prog_info ?_)
  go_upto_region 7 with (fail)
  obtain ⟨W5, hW5⟩ : ∃ W5, W5 = w2.alloc (.cells #[.slice x p.types.length kx, .string ⟨p.locals.toArray⟩, .string ⟨p.globs.toArray⟩, .slice none 0 0] 25) := ⟨_, rfl⟩
  have HE : Hid (NoE w W5 w2.heap.size (.slice x p.types.length kx) (.slice x' p.code.length kx') (.slice none 0 0) p 0) := by rw [hW5]; exact HE
  rw [← hW5]
  have p3 : W5.cell? ⟨w.heap.size, 3, none⟩ = some (.slice x' p.code.length kx') := HE.out.kp.cells.2.2.2
  clear hW5 KP HB
  generalize w2.heap.size = Q at *
  go_wp2_with (fail)
  clear p3
  go_loopw [22] (fun v22 wr => ∃ (j : Nat) (vc : Value), j ≤ p.code.length ∧ v22 = .int .i64 j ∧ Hid (NoE w wr Q (.slice x p.types.length kx) (.slice x' p.code.length kx') vc p j)) (fun v22 _ => p.code.length - (intOf v22).toNat)
  case atStart => exact ⟨0, _, Nat.zero_le _, rfl, HE⟩
  case round =>
    obtain ⟨j, vc, hj, rfl, HE⟩ := hrel
    by_cases hjl : j < p.code.length
    · have hji : (j : Int) < (p.code.length : Int) := by omega
      have hj0 : (0 : Int) ≤ (j : Int) := by omega
      have hj2 : (j : Int) < (p.code.length : Int) + 1 := by omega
      obtain ⟨i, hi⟩ : ∃ i, p.code[j]? = some i := ⟨_, List.getElem?_eq_getElem hjl⟩
      obtain ⟨bb, o, rfl, hbb, hrg⟩ := prog_ins HE.out.kp.at' hi
      have HII := Lib.hid hi
      obtain ⟨op, a, b, c, n⟩ := i
      obtain ⟨d0, d1, d2, d3, d4⟩ : (wr.cell? ⟨bb, o + j * 5, none⟩ = some (.int .u8 op)) ∧ wr.cell? ⟨bb, o + j * 5 + 1, none⟩ = some (.int .u8 a) ∧ wr.cell? ⟨bb, o + j * 5 + 2, none⟩ = some (.int .u8 b) ∧ wr.cell? ⟨bb, o + j * 5 + 3, none⟩ = some (.int .u8 c) ∧ wr.cell? ⟨bb, o + j * 5 + 4, none⟩ = some (.int .i64 n) := ⟨hrg 0 _ rfl, hrg 1 _ rfl, hrg 2 _ rfl, hrg 3 _ rfl, hrg 4 _ rfl⟩
      clear hrg hi
      go_upto_region 10 with (fail)
      have hab : Below wr.heap.size wr (wr.alloc (.cells (insC ⟨op, a, b, c, n⟩) 45)) := (Below.refl _ _).alloc (Nat.le_refl _) _
      have HE0 := HE
      have HAB := Lib.hid hab
      have HI : Hid (blk (wr.alloc (.cells (insC ⟨op, a, b, c, n⟩) 45)) wr.heap.size (insC ⟨op, a, b, c, n⟩) 45) := Lib.hid (blk_new _ _ _)
      clear HE
      obtain ⟨I, hI⟩ : ∃ I, I = wr.heap.size := ⟨_, rfl⟩
      obtain ⟨wa, hwa⟩ : ∃ wa, wa = wr.alloc (.cells (insC ⟨op, a, b, c, n⟩) 45) := ⟨_, rfl⟩
      have hIw : wr.heap.size ≤ I := by omega
      rw [← hwa] at HAB HI ⊢
      rw [← hI] at HI ⊢
      clear hab hwa hI d0 d1 d2 d3 d4
      obtain ⟨L, hL⟩ : ∃ L, L = (noneQ p).code.take j := ⟨_, rfl⟩
      have HLE2 := Lib.hid hL
      have HLL : Hid (L.length = j) := Lib.hid (by rw [hL, List.length_take, show (noneQ p).code.length = p.code.length from List.length_map ..]; omega)
      clear hL
      have c0 : wa.cell? ⟨I, 0, none⟩ = some (.int .u8 op) := blk_cell HI.out 0 _ rfl
      by_cases h11 : op = 11
      · have q1 : (op == 11) = true := by simpa using h11
        subst h11
        go_upto_region 12 with (refine wpList_putB rfl 45 _ _ rfl I (insC ⟨14, 0, 0, 0, 0⟩) rfl rfl 45 (insC ⟨11, a, b, c, n⟩) HI.out ins_info rfl (insC_one _) ?_)
        clear c0
        have HE := Lib.hid (HE0.out.below (HAB.out.trans (putB_below wa hIw (insC ⟨14, 0, 0, 0, 0⟩) 45)))
        have HI := Lib.hid (putB_at HI.out (insC ⟨14, 0, 0, 0, 0⟩) 45)
        have HNI : Hid (noneI ⟨11, a, b, c, n⟩ = ⟨14, 0, 0, 0, 0⟩) := Lib.hid rfl
        obtain ⟨wb, hwb⟩ : ∃ wb, wb = putB wa I (insC ⟨14, 0, 0, 0, 0⟩) 45 := ⟨_, rfl⟩
        rw [← hwb] at HE HI ⊢
        clear hwb
        have HSRC := Lib.hid (insRow_blk (is := [⟨14, 0, 0, 0, 0⟩]) (blk_new wb (insC ⟨14, 0, 0, 0, 0⟩) 45) rfl (by show 1 ≤ maxLen; unfold maxLen; omega))
        have HROW : Hid ((wb.alloc (.cells (insC ⟨14, 0, 0, 0, 0⟩) 45)).ownsRow (Q + 1) 45 5 vc L.length (codeCells L)) := Lib.hid (by rw [HLL.out, HLE2.out]; exact HE.out.row.alloc _)
        have hq3 := blk_cell HE.out.kq 3 _ rfl
        have hqlt := blk_lt HE.out.kq
        have hq4 := blk_cell (blk_alloc HE.out.kq (.cells (insC ⟨14, 0, 0, 0, 0⟩) 45)) 3 _ rfl
        have c0 := blk_cell HI.out 0 _ rfl
        have c1 := blk_cell HI.out 1 _ rfl
        have c2 := blk_cell HI.out 2 _ rfl
        have c3 := blk_cell HI.out 3 _ rfl
        have c4 := blk_cell HI.out 4 _ rfl
        rcases HE.out.form with ⟨rfl, -⟩ | ⟨g, cap, rfl⟩
        all_goals
          go_wp2_with (at_builtin; refine wpList_append_ins rfl _ _ rfl (Q + 1) _ L [⟨14, 0, 0, 0, 0⟩] rfl HROW.out _ rfl HSRC.out ?_ ?_ ?_ ?_)
          · exact .inr ⟨_, _, _, rfl⟩
          · rw [HLL.out]; simp <;> omega
          · simp; omega
          · intro v' w' ho hb
            have ho2 : w'.ownsRow (Q + 1) 45 5 v' (j + 1) (codeCells (L ++ [⟨14, 0, 0, 0, 0⟩])) := by
              have h := ho
              rw [HLL.out] at h; exact h
            obtain ⟨g2, cap2, hv⟩ : ∃ g cap, v' = .slice (some ⟨g, 0, none⟩) (j + 1) cap := by
              rcases ownsRow_forms ho2 with ⟨_, h⟩ | h
              · omega
              · exact h
            subst hv
            clear ho
            rw [HLE2.out, ← HNI.out] at ho2
            have hb' := ((Below.refl (Q + 1) wb).alloc (by omega) (.cells (insC ⟨14, 0, 0, 0, 0⟩) 45)).trans hb
            have HEN := Lib.hid (HE.out.next HII.out hb' ho2 HTY.out HCO.out)
            have kq' := HE.out.q' hb'
            have hq5 := blk_cell kq' 3 _ rfl
            have hf5 := blk_frozen kq' 3
            clear ho2 hb hb' kq' hq4 hq3 c0 c1 c2 c3 c4
            go_wp2
            go_roundw
            case rel => exact ⟨j + 1, _, by omega, by go_num, HEN⟩
            case measure => simp [intOf]; omega
      have q1 : (op == 11) = false := by simpa using h11
      by_cases h13 : op = 13
      · have q2 : (op == 13) = true := by simpa using h13
        subst h13
        go_upto_region 12 with (refine wpList_putB rfl 45 _ _ rfl I (insC ⟨14, 0, 0, 0, 0⟩) rfl rfl 45 (insC ⟨13, a, b, c, n⟩) HI.out ins_info rfl (insC_one _) ?_)
        clear c0
        have HE := Lib.hid (HE0.out.below (HAB.out.trans (putB_below wa hIw (insC ⟨14, 0, 0, 0, 0⟩) 45)))
        have HI := Lib.hid (putB_at HI.out (insC ⟨14, 0, 0, 0, 0⟩) 45)
        have HNI : Hid (noneI ⟨13, a, b, c, n⟩ = ⟨14, 0, 0, 0, 0⟩) := Lib.hid rfl
        obtain ⟨wb, hwb⟩ : ∃ wb, wb = putB wa I (insC ⟨14, 0, 0, 0, 0⟩) 45 := ⟨_, rfl⟩
        rw [← hwb] at HE HI ⊢
        clear hwb
        have HSRC := Lib.hid (insRow_blk (is := [⟨14, 0, 0, 0, 0⟩]) (blk_new wb (insC ⟨14, 0, 0, 0, 0⟩) 45) rfl (by show 1 ≤ maxLen; unfold maxLen; omega))
        have HROW : Hid ((wb.alloc (.cells (insC ⟨14, 0, 0, 0, 0⟩) 45)).ownsRow (Q + 1) 45 5 vc L.length (codeCells L)) := Lib.hid (by rw [HLL.out, HLE2.out]; exact HE.out.row.alloc _)
        have hq3 := blk_cell HE.out.kq 3 _ rfl
        have hqlt := blk_lt HE.out.kq
        have hq4 := blk_cell (blk_alloc HE.out.kq (.cells (insC ⟨14, 0, 0, 0, 0⟩) 45)) 3 _ rfl
        have c0 := blk_cell HI.out 0 _ rfl
        have c1 := blk_cell HI.out 1 _ rfl
        have c2 := blk_cell HI.out 2 _ rfl
        have c3 := blk_cell HI.out 3 _ rfl
        have c4 := blk_cell HI.out 4 _ rfl
        rcases HE.out.form with ⟨rfl, -⟩ | ⟨g, cap, rfl⟩
        all_goals
          go_wp2_with (at_builtin; refine wpList_append_ins rfl _ _ rfl (Q + 1) _ L [⟨14, 0, 0, 0, 0⟩] rfl HROW.out _ rfl HSRC.out ?_ ?_ ?_ ?_)
          · exact .inr ⟨_, _, _, rfl⟩
          · rw [HLL.out]; simp <;> omega
          · simp; omega
          · intro v' w' ho hb
            have ho2 : w'.ownsRow (Q + 1) 45 5 v' (j + 1) (codeCells (L ++ [⟨14, 0, 0, 0, 0⟩])) := by
              have h := ho
              rw [HLL.out] at h; exact h
            obtain ⟨g2, cap2, hv⟩ : ∃ g cap, v' = .slice (some ⟨g, 0, none⟩) (j + 1) cap := by
              rcases ownsRow_forms ho2 with ⟨_, h⟩ | h
              · omega
              · exact h
            subst hv
            clear ho
            rw [HLE2.out, ← HNI.out] at ho2
            have hb' := ((Below.refl (Q + 1) wb).alloc (by omega) (.cells (insC ⟨14, 0, 0, 0, 0⟩) 45)).trans hb
            have HEN := Lib.hid (HE.out.next HII.out hb' ho2 HTY.out HCO.out)
            have kq' := HE.out.q' hb'
            have hq5 := blk_cell kq' 3 _ rfl
            have hf5 := blk_frozen kq' 3
            clear ho2 hb hb' kq' hq4 hq3 c0 c1 c2 c3 c4
            go_wp2
            go_roundw
            case rel => exact ⟨j + 1, _, by omega, by go_num, HEN⟩
            case measure => simp [intOf]; omega
      have q2 : (op == 13) = false := by simpa using h13
      have HNI : Hid (noneI ⟨op, a, b, c, n⟩ = ⟨op, a, b, c, n⟩) := Lib.hid (by unfold noneI storeI; simp [h11, h13])
      clear h11 h13
      go_upto_region 12 with (fail)
      clear c0
      have HE := Lib.hid (HE0.out.below HAB.out)
      obtain ⟨wb, hwb⟩ : ∃ wb, wb = wa := ⟨_, rfl⟩
      rw [← hwb] at HE HI ⊢
      clear hwb
      have HSRC := Lib.hid (insRow_blk (is := [⟨op, a, b, c, n⟩]) (blk_new wb (insC ⟨op, a, b, c, n⟩) 45) rfl (by show 1 ≤ maxLen; unfold maxLen; omega))
      have HROW : Hid ((wb.alloc (.cells (insC ⟨op, a, b, c, n⟩) 45)).ownsRow (Q + 1) 45 5 vc L.length (codeCells L)) := Lib.hid (by rw [HLL.out, HLE2.out]; exact HE.out.row.alloc _)
      have hq3 := blk_cell HE.out.kq 3 _ rfl
      have hqlt := blk_lt HE.out.kq
      have hq4 := blk_cell (blk_alloc HE.out.kq (.cells (insC ⟨op, a, b, c, n⟩) 45)) 3 _ rfl
      have c0 := blk_cell HI.out 0 _ rfl
      have c1 := blk_cell HI.out 1 _ rfl
      have c2 := blk_cell HI.out 2 _ rfl
      have c3 := blk_cell HI.out 3 _ rfl
      have c4 := blk_cell HI.out 4 _ rfl
      rcases HE.out.form with ⟨rfl, -⟩ | ⟨g, cap, rfl⟩
      all_goals
        go_wp2_with (at_builtin; refine wpList_append_ins rfl _ _ rfl (Q + 1) _ L [⟨op, a, b, c, n⟩] rfl HROW.out _ rfl HSRC.out ?_ ?_ ?_ ?_)
        · exact .inr ⟨_, _, _, rfl⟩
        · rw [HLL.out]; simp <;> omega
        · simp; omega
        · intro v' w' ho hb
          have ho2 : w'.ownsRow (Q + 1) 45 5 v' (j + 1) (codeCells (L ++ [⟨op, a, b, c, n⟩])) := by
            have h := ho
            rw [HLL.out] at h; exact h
          obtain ⟨g2, cap2, hv⟩ : ∃ g cap, v' = .slice (some ⟨g, 0, none⟩) (j + 1) cap := by
            rcases ownsRow_forms ho2 with ⟨_, h⟩ | h
            · omega
            · exact h
          subst hv
          clear ho
          rw [HLE2.out, ← HNI.out] at ho2
          have hb' := ((Below.refl (Q + 1) wb).alloc (by omega) (.cells (insC ⟨op, a, b, c, n⟩) 45)).trans hb
          have HEN := Lib.hid (HE.out.next HII.out hb' ho2 HTY.out HCO.out)
          have kq' := HE.out.q' hb'
          have hq5 := blk_cell kq' 3 _ rfl
          have hf5 := blk_frozen kq' 3
          clear ho2 hb hb' kq' hq4 hq3 c0 c1 c2 c3 c4
          go_wp2
          go_roundw
          case rel => exact ⟨j + 1, _, by omega, by go_num, HEN⟩
          case measure => simp [intOf]; omega
    · obtain rfl : j = p.code.length := by omega
      obtain ⟨g, cap, rfl⟩ : ∃ g cap, vc = .slice (some ⟨g, 0, none⟩) p.code.length cap := by
        rcases HE.out.form with ⟨_, h⟩ | h
        · omega
        · exact h
      have HQ : Hid (Keep wr Q (.slice x p.types.length kx) (.slice (some ⟨g, 0, none⟩) p.code.length cap) (noneQ p)) := Lib.hid (HE.out.done HTY.out)
      have KP := Lib.hid HE.out.kp
      have HB := Lib.hid HE.out.b
      have HLQ : Hid (∀ (w1 : World) (k : Int), ProgAt w1 (.agg (progC (.slice x p.types.length kx) (noneQ p) (.slice (some ⟨g, 0, none⟩) p.code.length cap))) (noneQ p) → Calls Tryd.prog 10 #[.agg (progC (.slice x p.types.length kx) p (.slice (some ⟨g, 0, none⟩) p.code.length cap)), .int .i64 k] w1 (AggPost w1 (.bool false))) := Lib.hid fun w1 k h1 => by
        have := HLE.out (noneQ p) _ _ (noneQ_ok hok.out) (check_noneQ HCK.out) w1 k h1
        rw [show leakV (noneQ p) k = false by unfold leakV; rw [leakB_no.2 (none_leak _)]; simp] at this
        exact this
      have q3 := blk_cell HE.out.kq 3 _ rfl
      clear HE
      go_wp2_with (fail)
      clear q3
      go_loopw [45] (fun v45 wx => ∃ k : Nat, k ≤ p.code.length ∧ v45 = .int .i64 k ∧ Hid (Keep wx w.heap.size (.slice x p.types.length kx) (.slice x' p.code.length kx') p) ∧ Hid (Below w.heap.size w wx) ∧ Hid (Keep wx Q (.slice x p.types.length kx) (.slice (some ⟨g, 0, none⟩) p.code.length cap) (noneQ p))) (fun v45 _ => p.code.length - (intOf v45).toNat)
      case atStart => exact ⟨0, Nat.zero_le _, rfl, KP, HB, HQ⟩
      case round =>
        obtain ⟨k, hk, rfl, KP, HB, HQ⟩ := hrel
        by_cases hkl : k < p.code.length
        · have hki : (k : Int) < (p.code.length : Int) := by omega
          go_wp2_with (first
            | (refine wpList_loadB rfl 25 _ rfl Q (progC (.slice x p.types.length kx) p (.slice (some ⟨g, 0, none⟩) p.code.length cap)) rfl 25 HQ.out.blk _ Tryd.underlying25 rfl prog_info ?_)
            | (go_at_call 10; ((with_reducible refine (HLQ.out _ _ HQ.out.at').mono ?_); rintro e wq ⟨rfl, hb⟩; have HQ := Lib.hid (HQ.out.below hb); have KP := Lib.hid (KP.out.below hb); have HB := Lib.hid (HB.out.trans (hb.mono HB.out.size)); clear hb)))
          go_roundw
          case rel => exact ⟨k + 1, by omega, by go_num, KP, HB, HQ⟩
          case measure => simp [intOf]; omega
        · have hkn : ¬ ((k : Int) < (p.code.length : Int)) := by omega
          clear HLQ HQ
          have hz : ((p.code.length : Int) == 0) = false := by simp; intro h; rw [h] at hl1; simp at hl1
          have hz' : ¬ ((p.code.length : Int) = 0) := by omega
          have p3 := KP.out.cells.2.2.2
          go_upto_region 21 with (fail)
          obtain ⟨m, hm, hmm⟩ : ∃ m : Nat, m < p.code.length ∧ (a0 : Int) % (p.code.length : Int) = m := ⟨a0 % p.code.length, Nat.mod_lt a0 (by omega), rfl⟩
          rw [hmm]
          clear hmm hz hz'
          have hmi : (m : Int) < (p.code.length : Int) := by omega
          have hm0 : (0 : Int) ≤ (m : Int) := by omega
          obtain ⟨i, hi⟩ : ∃ i, p.code[m]? = some i := ⟨_, List.getElem?_eq_getElem hm⟩
          obtain ⟨bb, o, rfl, hbb, hrg⟩ := prog_ins KP.out.at' hi
          have d0 : wr.cell? ⟨bb, o + m * 5, none⟩ = some (.int .u8 i.op) := hrg 0 _ rfl
          have hbig := hrg
          clear hrg
          by_cases h5 : i.op = 5
          · have HLM : Hid (∀ (w1 : World), ProgAt w1 (.agg (progC (.slice x p.types.length kx) p (.slice (some ⟨bb, o, none⟩) p.code.length kx'))) p → Calls Tryd.prog 10 #[.agg #[(.slice x p.types.length kx), str p.locals, str p.globs, (.slice (some ⟨bb, o, none⟩) p.code.length kx')], .int .i64 m] w1 (AggPost w1 (.bool (leakB p m)))) := Lib.hid fun w1 h1 => by rw [← leakV_nat]; exact HLE.out p _ _ hok.out HCK.out w1 m h1
            obtain ⟨iop, ia, ib, ic, iN⟩ := i
            simp only at h5
            subst h5
            have HDA : Hid (∀ w1, ProgAt w1 (.agg (progC (.slice x p.types.length kx) p (.slice (some ⟨bb, o, none⟩) p.code.length kx'))) p → w1.cell? ⟨bb, o + m * 5 + 1, none⟩ = some (.int .u8 ia)) := Lib.hid fun w1 h1 => by
              obtain ⟨b9, o9, e9, -, h9⟩ := prog_ins h1 hi
              cases e9
              exact h9 1 _ rfl
            have HIM := Lib.hid hi
            clear hi hbig
            go_wp2_with (fail)
            clear p3 d0
            go_loopw [72] (fun v72 wx => ∃ k : Nat, k ≤ p.code.length ∧ v72 = .int .i64 k ∧ Hid (Keep wx w.heap.size (.slice x p.types.length kx) (.slice (some ⟨bb, o, none⟩) p.code.length kx') p) ∧ Hid (Below w.heap.size w wx)) (fun v72 _ => p.code.length - (intOf v72).toNat)
            case atStart => exact ⟨0, Nat.zero_le _, rfl, KP, HB⟩
            case round =>
              obtain ⟨k, hk, rfl, KP, HB⟩ := hrel
              by_cases hkl : k < p.code.length
              · have hki : (k : Int) < (p.code.length : Int) := by omega
                have hk0 : (0 : Int) ≤ (k : Int) := by omega
                obtain ⟨jj, hjj⟩ : ∃ i, p.code[k]? = some i := ⟨_, List.getElem?_eq_getElem hkl⟩
                obtain ⟨b9, o9, e9, -, hrg⟩ := prog_ins KP.out.at' hjj
                cases e9
                have HSF : Hid (jj.op = 11 ∨ jj.op = 13 → jj.b = ia → leakB p m = true) := Lib.hid fun h1 h2 => leakB_iff.2 (leak_self HIM.out rfl (List.mem_of_getElem? hjj) h1 h2)
                obtain ⟨op, ja, jb, jc, jn⟩ := jj
                simp only at HSF
                obtain ⟨d0, d1, d2, d3, d4⟩ : (wr.cell? ⟨bb, o + k * 5, none⟩ = some (.int .u8 op)) ∧ wr.cell? ⟨bb, o + k * 5 + 1, none⟩ = some (.int .u8 ja) ∧ wr.cell? ⟨bb, o + k * 5 + 2, none⟩ = some (.int .u8 jb) ∧ wr.cell? ⟨bb, o + k * 5 + 3, none⟩ = some (.int .u8 jc) ∧ wr.cell? ⟨bb, o + k * 5 + 4, none⟩ = some (.int .i64 jn) := ⟨hrg 0 _ rfl, hrg 1 _ rfl, hrg 2 _ rfl, hrg 3 _ rfl, hrg 4 _ rfl⟩
                clear hrg hjj
                go_upto_region 26 with (fail)
                have hab : Below wr.heap.size wr (wr.alloc (.cells (insC ⟨op, ja, jb, jc, jn⟩) 45)) := (Below.refl _ _).alloc (Nat.le_refl _) _
                have KP := Lib.hid (KP.out.below hab)
                have HB := Lib.hid (HB.out.trans (hab.mono HB.out.size))
                have HI : Hid (blk (wr.alloc (.cells (insC ⟨op, ja, jb, jc, jn⟩) 45)) wr.heap.size (insC ⟨op, ja, jb, jc, jn⟩) 45) := Lib.hid (blk_new _ _ _)
                obtain ⟨I, hI⟩ : ∃ I, I = wr.heap.size := ⟨_, rfl⟩
                obtain ⟨wa, hwa⟩ : ∃ wa, wa = wr.alloc (.cells (insC ⟨op, ja, jb, jc, jn⟩) 45) := ⟨_, rfl⟩
                rw [← hwa] at KP HB HI ⊢
                rw [← hI] at HI ⊢
                clear hab hwa hI d0 d1 d2 d3 d4
                have c0 : wa.cell? ⟨I, 0, none⟩ = some (.int .u8 op) := blk_cell HI.out 0 _ rfl
                have c2 : wa.cell? ⟨I, 2, none⟩ = some (.int .u8 jb) := blk_cell HI.out 2 _ rfl
                obtain ⟨p0, p1, p2, p3⟩ := KP.out.cells
                have dA := HDA.out _ KP.out.at'
                by_cases hst : op = 11 ∨ op = 13
                · by_cases hjb : jb = ia
                  · have hlt := HSF.out hst hjb
                    have HLT : Hid (∀ (w1 : World), ProgAt w1 (.agg (progC (.slice x p.types.length kx) p (.slice (some ⟨bb, o, none⟩) p.code.length kx'))) p → Calls Tryd.prog 10 #[.agg #[(.slice x p.types.length kx), str p.locals, str p.globs, (.slice (some ⟨bb, o, none⟩) p.code.length kx')], .int .i64 m] w1 (AggPost w1 (.bool true))) := Lib.hid fun w1 h1 => by rw [← hlt]; exact HLM.out w1 h1
                    have r1 : (jb == ia) = true := by simpa using hjb
                    have KP := Lib.hid (KP.out.below (Below.refl _ _).drew)
                    have HB := Lib.hid (HB.out.trans (((Below.refl wa.heap.size wa).drew).mono HB.out.size))
                    have HI := Lib.hid (blk_below HI.out (Below.refl wa.heap.size wa).drew)
                    clear hlt HSF hjb HLM
                    rcases hst with rfl | rfl
                    · have q1 : ((11 : Int) == 11) = true := rfl
                      first
                        | go_region_with (first
                              | (go_at_call 10; ((with_reducible refine (HLT.out _ KP.out.at').mono ?_); rintro e wq ⟨rfl, hb⟩; have HI := Lib.hid (blk_below HI.out hb); have KP := Lib.hid (KP.out.below hb); have HB := Lib.hid (HB.out.trans (hb.mono HB.out.size)); clear hb c0 c2 dA p0 p1 p2 p3; have c0 := blk_cell HI.out 0 _ rfl; have c2 := blk_cell HI.out 2 _ rfl; obtain ⟨p0, p1, p2, p3⟩ := KP.out.cells; have dA := HDA.out _ KP.out.at')))
                        | fail
                      all_goals
                        clear c0 c2 dA p0 p1 p2 p3
                        go_wp2_with (fail)
                        go_roundw
                        case rel => exact ⟨k + 1, by omega, by go_num, KP, HB⟩
                        case measure => simp [intOf]; omega
                    · have q1 : ((13 : Int) == 11) = false := rfl
                      go_region_held3 (fun w' => w'.cell? ⟨w.heap.size, 0, none⟩ = some (.slice x p.types.length kx) ∧ w'.cell? ⟨w.heap.size, 1, none⟩ = some (str p.locals) ∧ w'.cell? ⟨w.heap.size, 2, none⟩ = some (str p.globs) ∧ w'.cell? ⟨w.heap.size, 3, none⟩ = some (.slice (some ⟨bb, o, none⟩) p.code.length kx') ∧ w'.cell? ⟨I, 0, none⟩ = some (.int .u8 13) ∧ w'.cell? ⟨I, 2, none⟩ = some (.int .u8 jb) ∧ w'.cell? ⟨bb, o + m * 5 + 1, none⟩ = some (.int .u8 ia)) (go_keep) (first
                        | (go_at_call 10; ((with_reducible refine (HLT.out _ KP.out.at').mono ?_); rintro e wq ⟨rfl, hb⟩; have HI := Lib.hid (blk_below HI.out hb); have KP := Lib.hid (KP.out.below hb); have HB := Lib.hid (HB.out.trans (hb.mono HB.out.size)); clear hb c0 c2 dA p0 p1 p2 p3; have c0 := blk_cell HI.out 0 _ rfl; have c2 := blk_cell HI.out 2 _ rfl; obtain ⟨p0, p1, p2, p3⟩ := KP.out.cells; have dA := HDA.out _ KP.out.at')))
                      all_goals
                        clear c0 c2 dA p0 p1 p2 p3
                        go_wp2_with (fail)
                        go_roundw
                        case rel => exact ⟨k + 1, by omega, by go_num, KP, HB⟩
                        case measure => simp [intOf]; omega
                  · have r1 : (jb == ia) = false := by simpa using hjb
                    rcases hst with rfl | rfl
                    · clear hjb HSF
                      go_quiet (fail)
                      have KP := Lib.hid (KP.out.below (jN wa nq))
                      have HB := Lib.hid (HB.out.trans ((jN wa nq).mono HB.out.size))
                      clear c0 c2 dA p0 p1 p2 p3
                      go_wp2_with (fail)
                      go_roundw
                      case rel => exact ⟨k + 1, by omega, by go_num, KP, HB⟩
                      case measure => simp [intOf]; omega
                    · clear hjb HSF
                      go_quiet (fail)
                      have KP := Lib.hid (KP.out.below (jN wa nq))
                      have HB := Lib.hid (HB.out.trans ((jN wa nq).mono HB.out.size))
                      clear c0 c2 dA p0 p1 p2 p3
                      go_wp2_with (fail)
                      go_roundw
                      case rel => exact ⟨k + 1, by omega, by go_num, KP, HB⟩
                      case measure => simp [intOf]; omega
                · have q1 : (op == 11) = false := by simp; omega
                  have q2 : (op == 13) = false := by simp; omega
                  clear hst HSF
                  go_quiet (fail)
                  have KP := Lib.hid (KP.out.below (jN wa nq))
                  have HB := Lib.hid (HB.out.trans ((jN wa nq).mono HB.out.size))
                  clear c0 c2 dA p0 p1 p2 p3
                  go_wp2_with (fail)
                  go_roundw
                  case rel => exact ⟨k + 1, by omega, by go_num, KP, HB⟩
                  case measure => simp [intOf]; omega
              · have hkn : ¬ ((k : Int) < (p.code.length : Int)) := by omega
                go_wp2_with (fail)
                go_ret
                exact ⟨rfl, HB.out⟩
          · have q5 : (i.op != 5) = true := by simpa using h5
            have HLM : Hid (∀ (w1 : World), ProgAt w1 (.agg (progC (.slice x p.types.length kx) p (.slice (some ⟨bb, o, none⟩) p.code.length kx'))) p → Calls Tryd.prog 10 #[.agg #[(.slice x p.types.length kx), str p.locals, str p.globs, (.slice (some ⟨bb, o, none⟩) p.code.length kx')], .int .i64 m] w1 (AggPost w1 (.bool false))) := Lib.hid fun w1 h1 => by
              have := HLE.out p _ _ hok.out HCK.out w1 m h1
              rw [show leakV p (m : Int) = false by rw [leakV_nat, leakB_no]; intro hl; obtain ⟨i2, e2, e5⟩ := leak_new HCK.out hl; rw [hi] at e2; cases e2; exact h5 e5] at this
              exact this
            clear hi h5 hbig
            go_wp2_with (first
              | (refine wpList_loadB rfl 25 _ rfl w.heap.size (progC (.slice x p.types.length kx) p (.slice (some ⟨bb, o, none⟩) p.code.length kx')) rfl 25 KP.out.blk _ Tryd.underlying25 rfl prog_info ?_)
              | (go_at_call 10; ((with_reducible refine (HLM.out _ KP.out.at').mono ?_); rintro e wq ⟨rfl, hb⟩; have KP := Lib.hid (KP.out.below hb); have HB := Lib.hid (HB.out.trans (hb.mono HB.out.size)); clear hb)))
            go_ret
            exact ⟨rfl, HB.out⟩
theorem jnone_walk (v : Value) (p : PProg) (a : Int) (w : World) (h : ProgAt w v p) (hs : OkP p) (ha0 : 0 ≤ a) (ha : a ≤ 255) (ht' : HasT w) : Calls Tryd.prog 4 #[v, .int .u8 a] w fun e w' => e = .returned (.bool true) ∧ Below w.heap.size w w' := by
  obtain ⟨vt, vc, rfl, ht, hc⟩ := id h
  have hwb : Below w.heap.size w (w.alloc (.cells (progC vt p vc) 25)) := (Below.refl _ _).alloc (Nat.le_refl _) _
  have HK := keep_new h
  obtain ⟨x, c, rfl, -, -, -⟩ := id ht.elems
  obtain ⟨x', c', rfl, q1, q2, -⟩ := id hc
  unfold maxLen at q2
  obtain ⟨ka, rfl⟩ : ∃ ka : Nat, a = ka := ⟨a.toNat, by omega⟩
  exact jnone_at w _ p ka x x' c c' rfl (Lib.hid HK) (Lib.hid hwb) (Lib.hid fun w1 => jalive_n w1) (Lib.hid fun w1 h1 hb1 => sound_n _ p w1 _ h1 hs (ht'.below hb1) rfl) (by omega) q1 (Lib.hid hs) (by omega) (Lib.hid ht) (Lib.hid hc) (Lib.hid fun q vt vc hq hcq w1 k h1 => jleaks_n _ q w1 k h1 hq hcq)
end Go.Proofs.YtjkpbajojgdooaaDoor
