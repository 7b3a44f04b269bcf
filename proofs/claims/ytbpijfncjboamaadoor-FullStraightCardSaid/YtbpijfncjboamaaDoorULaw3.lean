/-
  FullStraight: the walk.
-/
import Derived.Test.YtbpijfncjboamaaDoorUAlive
import Derived.Deep.LoopGhost
import Derived.Deep.RegionHeld3
import Derived.Deep.CutRange
import Derived.Deep.CutBlock
import Derived.Deep.QuietTactic
namespace Go.Proofs.YtbpijfncjboamaaDoor
set_option linter.unusedSimpArgs false
set_option linter.unusedVariables false
open Go.RowKit

theorem cnt_seg {q : PProg} {k m : Nat} {i : PIns} {a : Int} (hi : q.code[m]? = some i) (h : k < m) : (segL q k (m + 1)).countP (fun i => putsI i a) = (segL q k m).countP (fun i => putsI i a) + if putsI i a = true then 1 else 0 := by
  rw [seg_next hi h, List.countP_append, List.countP_cons]; simp
set_option maxRecDepth 100000 in
set_option maxHeartbeats 8000000 in
theorem ustr_at (w W0 : World) (p : PProg) (a0 : Nat) (x x' : Option Addr) (kx kx' : Nat)
    (hW0 : W0 = w.alloc (.cells (progC (.slice x p.types.length kx) p (.slice x' p.code.length kx')) 25)) (KP : Hid (Keep W0 w.heap.size (.slice x p.types.length kx) (.slice x' p.code.length kx') p)) (HB : Hid (Below w.heap.size w W0))
    (HAL : Hid (∀ w1, Calls Tryd.prog 8 #[] w1 (AggPost w1 (.bool true))))
    (HSO : Hid (∀ w1, ProgAt w1 (.agg (progC (.slice x p.types.length kx) p (.slice x' p.code.length kx'))) p → Below w.heap.size w w1 → Calls Tryd.prog 9 #[.agg (progC (.slice x p.types.length kx) p (.slice x' p.code.length kx'))] w1 (AggPost w1 (.bool (soundB p)))))
    (g2 : kx' ≤ 9223372036854775807) (g1 : p.code.length ≤ kx') (ha0 : a0 ≤ 255) (hok : Hid (∀ i ∈ p.code, OkI i))
    (HLA : Hid (soundB p = true → ∀ (w1 : World) (k : Int), ProgAt w1 (.agg (progC (.slice x p.types.length kx) p (.slice x' p.code.length kx'))) p → Calls Tryd.prog 11 #[.agg #[.slice x p.types.length kx, str p.locals, str p.globs, .slice x' p.code.length kx'], .int .i64 k] w1 (AggPost w1 (.int .i64 (lastV p k)))))
    (HLO : Hid (∀ (w1 : World) (a : Int), 0 ≤ a → a ≤ 255 → ProgAt w1 (.agg (progC (.slice x p.types.length kx) p (.slice x' p.code.length kx'))) p → soundB p = true → Calls Tryd.prog 15 #[.agg #[.slice x p.types.length kx, str p.locals, str p.globs, .slice x' p.code.length kx'], .int .u8 a] w1 (AggPost w1 (.int .i64 (localI p a)))))
    (HSZ : Hid (∀ (w1 : World) (t : Int), Below w.heap.size w w1 → Calls Tryd.prog 14 #[.slice x p.types.length kx, .int .i64 t] w1 fun e w' => e = .returned (.int .i64 (sizeP p.types t)) ∧ w1 = w')) :
    Calls Tryd.prog 6 #[.agg (progC (.slice x p.types.length kx) p (.slice x' p.code.length kx')), .int .u8 a0] w (AggPost w (.bool true)) := by
  go_enter Tryd.func6, Tryd.ntmps6
  go_upto_region 1 with (fail)
  rw [← hW0]
  clear hW0
  rcases hsd : soundB p with _ | _
  · rw [hsd] at HSO
    go_wp2_with (first
      | (refine wpList_loadB rfl 25 _ rfl w.heap.size (progC (.slice x p.types.length kx) p (.slice x' p.code.length kx')) rfl 25 KP.out.blk _ Tryd.underlying25 rfl prog_info ?_)
      | (go_at_call 8; ((with_reducible refine (HAL.out _).mono ?_); rintro e w1 ⟨rfl, hb⟩; have KP := Lib.hid (KP.out.below hb); have HB := Lib.hid (HB.out.trans (hb.mono HB.out.size)); clear hb))
      | (go_at_call 9; ((with_reducible refine (HSO.out _ KP.out.at' HB.out).mono ?_); rintro e w2 ⟨rfl, hb⟩; have KP := Lib.hid (KP.out.below hb); have HB := Lib.hid (HB.out.trans (hb.mono HB.out.size)); clear hb)))
    go_ret
    exact ⟨rfl, HB.out⟩
  obtain ⟨hfw, hl60, hck, hin0, hl1⟩ := sound_parts hsd
  have HCK := Lib.hid hck
  have HLA := Lib.hid (HLA.out hsd)
  have HLO := Lib.hid (fun w1 a h0 h1 hp => HLO.out w1 a h0 h1 hp hsd)
  rw [hsd] at HSO
  clear hin0 hck hsd
  go_upto_region 5 with (first
    | (refine wpList_loadB rfl 25 _ rfl w.heap.size (progC (.slice x p.types.length kx) p (.slice x' p.code.length kx')) rfl 25 KP.out.blk _ Tryd.underlying25 rfl prog_info ?_)
    | (go_at_call 8; ((with_reducible refine (HAL.out _).mono ?_); rintro e w1 ⟨rfl, hb⟩; have KP := Lib.hid (KP.out.below hb); have HB := Lib.hid (HB.out.trans (hb.mono HB.out.size)); clear hb))
    | (go_at_call 9; ((with_reducible refine (HSO.out _ KP.out.at' HB.out).mono ?_); rintro e w2 ⟨rfl, hb⟩; have KP := Lib.hid (KP.out.below hb); have HB := Lib.hid (HB.out.trans (hb.mono HB.out.size)); clear hb)))
  clear HSO HAL
  have hz : ((p.code.length : Int) == 0) = false := by simp; intro h; rw [h] at hl1; simp at hl1
  have hz' : ¬ ((p.code.length : Int) = 0) := by omega
  have p3 := KP.out.cells.2.2.2
  go_upto_region 6 with (fail)
  obtain ⟨m, hm, hmm⟩ : ∃ m : Nat, m < p.code.length ∧ (a0 : Int) % (p.code.length : Int) = m := ⟨a0 % p.code.length, Nat.mod_lt a0 (by omega), rfl⟩
  rw [hmm]
  clear hmm hz hz'
  have hmi : (m : Int) < (p.code.length : Int) := by omega
  have hm0 : (0 : Int) ≤ (m : Int) := by omega
  obtain ⟨i, hi⟩ : ∃ i, p.code[m]? = some i := ⟨_, List.getElem?_eq_getElem hm⟩
  have HLM : Hid (∀ w1, ProgAt w1 (.agg (progC (.slice x p.types.length kx) p (.slice x' p.code.length kx'))) p → Calls Tryd.prog 11 #[.agg #[.slice x p.types.length kx, str p.locals, str p.globs, .slice x' p.code.length kx'], .int .i64 m] w1 (AggPost w1 (.int .i64 (lastL p m)))) := Lib.hid fun w1 h1 => by rw [← lastV_nat hm]; exact HLA.out w1 m h1
  clear HLA p3
  rcases lastL_or (q := p) m with hl | ⟨n, hl, hmn, hnl⟩
  · rw [hl] at HLM
    go_wp2_with (first
      | (refine wpList_loadB rfl 25 _ rfl w.heap.size (progC (.slice x p.types.length kx) p (.slice x' p.code.length kx')) rfl 25 KP.out.blk _ Tryd.underlying25 rfl prog_info ?_)
      | (go_at_call 11; ((with_reducible refine (HLM.out _ KP.out.at').mono ?_); rintro e wq ⟨rfl, hb⟩; have KP := Lib.hid (KP.out.below hb); have HB := Lib.hid (HB.out.trans (hb.mono HB.out.size)); clear hb)))
    go_ret
    exact ⟨rfl, HB.out⟩
  rw [hl] at HLM
  go_upto_region 7 with (first
    | (refine wpList_loadB rfl 25 _ rfl w.heap.size (progC (.slice x p.types.length kx) p (.slice x' p.code.length kx')) rfl 25 KP.out.blk _ Tryd.underlying25 rfl prog_info ?_)
    | (go_at_call 11; ((with_reducible refine (HLM.out _ KP.out.at').mono ?_); rintro e wq ⟨rfl, hb⟩; have KP := Lib.hid (KP.out.below hb); have HB := Lib.hid (HB.out.trans (hb.mono HB.out.size)); clear hb)))
  obtain ⟨i0, hla⟩ := last_at HCK.out hok.out hl
  have hi0 : i = i0 := Option.some.inj (hi.symm.trans hla.hi)
  subst hi0
  have h5 := hla.h5
  have hoki := hok.out i (List.mem_of_getElem? hi)
  obtain ⟨o0, o1, hA0, hA1, -⟩ := hoki
  have HMID := Lib.hid hla.mid
  have HFIN := Lib.hid hla.fin
  have HALL := Lib.hid hla.all
  clear hla hl HLM
  obtain ⟨op0, a, b0, c0', n0⟩ := i
  simp only at h5 hA0 hA1 HMID HFIN HALL
  subst h5
  obtain ⟨bb, o, rfl, hbb, hrg⟩ := prog_ins KP.out.at' hi
  have d1 : wq.cell? ⟨bb, o + m * 5 + 1, none⟩ = some (.int .u8 a) := hrg 1 _ rfl
  have p3 := KP.out.cells.2.2.2
  have hn0 : ¬ ((n : Int) < 0) := by omega
  clear hrg
  go_upto_region 11 with (fail)
  clear d1 p3
  go_wp2_with (fail)
  go_loopw [8, 9] (fun v8 v9 wr => ∃ (j c : Nat), m + 1 ≤ j ∧ j ≤ n + 1 ∧ v9 = .int .i64 j ∧ v8 = .int .i64 c ∧ Hid (Keep wr w.heap.size (.slice x p.types.length kx) (.slice (some ⟨bb, o, none⟩) p.code.length kx') p) ∧ Hid (Below w.heap.size w wr) ∧ Hid (c = (segL p m j).countP (fun i => putsI i a)) ∧ c ≤ j) (fun _ v9 _ => n + 1 - (intOf v9).toNat)
  case atStart => exact ⟨m + 1, 0, Nat.le_refl _, by omega, by go_num, rfl, KP, HB, Lib.hid (by rw [seg_0]; rfl), by omega⟩
  case round =>
    obtain ⟨j, cw, hmj, hjn, rfl, rfl, KP, HB, HC, hcj⟩ := hrel
    by_cases hjl : j ≤ n
    · have hji : (j : Int) ≤ (n : Int) := by omega
      have hjl2 : (j : Int) < (p.code.length : Int) := by omega
      have hj0 : (0 : Int) ≤ (j : Int) := by omega
      obtain ⟨i, hij⟩ : ∃ i, p.code[j]? = some i := ⟨_, List.getElem?_eq_getElem (by omega)⟩
      have HOR : Hid (putsI i a = true ∨ passI i a = true) := Lib.hid (by
        rcases Nat.lt_or_ge j n with h | h
        · exact HMID.out j i (by omega) h hij
        · obtain rfl : j = n := by omega
          obtain ⟨i', h1, h2⟩ := HFIN.out
          rw [hij] at h1; cases h1; exact .inl h2)
      have HCN := Lib.hid (cnt_seg (a := a) hij (show m < j by omega))
      obtain ⟨b2, o2, e2, hb2, hr2⟩ := prog_ins KP.out.at' hij
      cases e2
      obtain ⟨op, ia, b, c, nI⟩ := i
      obtain ⟨d0, d1, d2, d3, d4⟩ : (wr.cell? ⟨bb, o + j * 5, none⟩ = some (.int .u8 op)) ∧ wr.cell? ⟨bb, o + j * 5 + 1, none⟩ = some (.int .u8 ia) ∧ wr.cell? ⟨bb, o + j * 5 + 2, none⟩ = some (.int .u8 b) ∧ wr.cell? ⟨bb, o + j * 5 + 3, none⟩ = some (.int .u8 c) ∧ wr.cell? ⟨bb, o + j * 5 + 4, none⟩ = some (.int .i64 nI) := ⟨hr2 0 _ rfl, hr2 1 _ rfl, hr2 2 _ rfl, hr2 3 _ rfl, hr2 4 _ rfl⟩
      have p3 := KP.out.cells.2.2.2
      clear hr2 hij hb2
      go_upto_region 15 with (fail)
      clear d0 d1 d2 d3 d4 p3
      have hab : Below wr.heap.size wr (wr.alloc (.cells (insC ⟨op, ia, b, c, nI⟩) 39)) := (Below.refl _ _).alloc (Nat.le_refl _) _
      have KP := Lib.hid (KP.out.below hab)
      have HB := Lib.hid (HB.out.trans (hab.mono HB.out.size))
      have HI : Hid (blk (wr.alloc (.cells (insC ⟨op, ia, b, c, nI⟩) 39)) wr.heap.size (insC ⟨op, ia, b, c, nI⟩) 39) := Lib.hid (blk_new _ _ _)
      obtain ⟨I, hI⟩ : ∃ I, I = wr.heap.size := ⟨_, rfl⟩
      obtain ⟨wa, hwa⟩ : ∃ wa, wa = wr.alloc (.cells (insC ⟨op, ia, b, c, nI⟩) 39) := ⟨_, rfl⟩
      rw [← hwa] at KP HB HI ⊢
      rw [← hI] at HI ⊢
      clear hab hwa hI
      have c0 : wa.cell? ⟨I, 0, none⟩ = some (.int .u8 op) := blk_cell HI.out 0 _ rfl
      have c1 : wa.cell? ⟨I, 1, none⟩ = some (.int .u8 ia) := blk_cell HI.out 1 _ rfl
      have c4 : wa.cell? ⟨I, 4, none⟩ = some (.int .i64 nI) := blk_cell HI.out 4 _ rfl
      by_cases hp : putsI ⟨op, ia, b, c, nI⟩ a = true
      · have HC2 : Hid (cw + 1 = (segL p m (j + 1)).countP (fun i => putsI i a)) := Lib.hid (by rw [HCN.out, if_pos hp, ← HC.out])
        obtain ⟨ho, hia⟩ := puts_iff.1 hp
        simp only at ho hia
        subst hia
        clear HOR HCN HC hp
        rcases ho with rfl | rfl
        all_goals
          go_wp2
          go_roundw
          case rel => exact ⟨j + 1, cw + 1, by omega, by omega, by go_num, by go_num, KP, HB, HC2, by omega⟩
          case measure => simp [intOf]; omega
      · have HC2 : Hid (cw = (segL p m (j + 1)).countP (fun i => putsI i a)) := Lib.hid (by rw [HCN.out, if_neg hp, ← HC.out]; rfl)
        have hq := pass_iff.1 (HOR.out.resolve_left hp)
        simp only at hq
        clear HOR HCN HC hp
        rcases hq with hq | ⟨hq, hia⟩
        · rcases hq with rfl | rfl | rfl | rfl
          all_goals
            go_wp2
            go_roundw
            case rel => exact ⟨j + 1, cw, by omega, by omega, by go_num, rfl, KP, HB, HC2, by omega⟩
            case measure => simp [intOf]; omega
        · have e9 : (ia == a) = false := by simpa using hia
          clear hia
          rcases hq with rfl | rfl
          all_goals
            go_wp2
            go_roundw
            case rel => exact ⟨j + 1, cw, by omega, by omega, by go_num, rfl, KP, HB, HC2, by omega⟩
            case measure => simp [intOf]; omega
    · have hje : j = n + 1 := by omega
      have hjn2 : ¬ ((j : Int) ≤ (n : Int)) := by omega
      have hcs : sizeP p.types (localI p a) ≤ (cw : Int) := by
        have h1 := hadL_cnt a (segL p m (n + 1)) nought6
        have h2 := HALL.out
        have h3 := HC.out
        rw [hje] at h3
        have h4 : cnt nought6 = 0 := rfl
        omega
      have HLA1 := Lib.hid (fun w1 => HLO.out w1 a hA0 hA1)
      have HSA1 := Lib.hid (fun w1 => HSZ.out w1 (localI p a))
      generalize sizeP p.types (localI p a) = S at hcs HSA1
      generalize localI p a = lt at HLA1 HSA1
      obtain ⟨b2, o2, e2, hb2, hr2⟩ := prog_ins KP.out.at' hi
      cases e2
      have HD0 : Hid (∀ w', Keep w' w.heap.size (.slice x p.types.length kx) (.slice (some ⟨bb, o, none⟩) p.code.length kx') p → w'.cell? ⟨bb, o + m * 5, none⟩ = some (.int .u8 5) ∧ w'.cell? ⟨w.heap.size, 0, none⟩ = some (.slice x p.types.length kx) ∧ w'.cell? ⟨w.heap.size, 1, none⟩ = some (str p.locals) ∧ w'.cell? ⟨w.heap.size, 2, none⟩ = some (str p.globs) ∧ w'.cell? ⟨w.heap.size, 3, none⟩ = some (.slice (some ⟨bb, o, none⟩) p.code.length kx')) := Lib.hid fun w' hk => by
        obtain ⟨b3, o3, e3, _, hr3⟩ := prog_ins hk.at' hi
        cases e3
        exact ⟨hr3 0 _ rfl, hk.cells⟩
      obtain ⟨d0, p0, p1, p2, p3⟩ := HD0.out _ KP.out
      clear hr2 hb2 HALL HC HMID HFIN hje HLO HSZ
      go_upto_region 30 with (fail)
      have KP := Lib.hid (KP.out.below (Below.refl _ _).drew)
      have HB := Lib.hid (HB.out.drew)
      go_region_held3 (fun w' => w'.cell? ⟨bb, o + m * 5, none⟩ = some (.int .u8 5) ∧ w'.cell? ⟨w.heap.size, 0, none⟩ = some (.slice x p.types.length kx) ∧ w'.cell? ⟨w.heap.size, 1, none⟩ = some (str p.locals) ∧ w'.cell? ⟨w.heap.size, 2, none⟩ = some (str p.globs) ∧ w'.cell? ⟨w.heap.size, 3, none⟩ = some (.slice (some ⟨bb, o, none⟩) p.code.length kx')) (go_keep) (first
        | (go_at_call 15; ((with_reducible refine (HLA1.out _ KP.out.at').mono ?_); rintro e wy ⟨rfl, hb⟩; have KP := Lib.hid (KP.out.below hb); have HB := Lib.hid (HB.out.trans (hb.mono HB.out.size)); clear hb d0 p0 p1 p2 p3; obtain ⟨d0, p0, p1, p2, p3⟩ := HD0.out _ KP.out))
        | (go_at_call 14; ((with_reducible refine (HSA1.out _ HB.out).mono ?_); rintro e wz ⟨rfl, rfl⟩)))
      all_goals
        clear d0 p0 p1 p2 p3
        go_wp2
        go_ret
        exact ⟨rfl, HB.out⟩
theorem ustr_walk (v : Value) (p : PProg) (a : Int) (w : World) (h : ProgAt w v p) (hs : OkP p) (ha0 : 0 ≤ a) (ha : a ≤ 255) (ht' : HasT w) : Calls Tryd.prog 6 #[v, .int .u8 a] w fun e w' => e = .returned (.bool true) ∧ Below w.heap.size w w' := by
  obtain ⟨vt, vc, rfl, ht, hc⟩ := id h
  have hwb : Below w.heap.size w (w.alloc (.cells (progC vt p vc) 25)) := (Below.refl _ _).alloc (Nat.le_refl _) _
  have HK := keep_new h
  obtain ⟨x, c, rfl, -, -, -⟩ := id ht.elems
  obtain ⟨x', c', rfl, q1, q2, -⟩ := id hc
  unfold maxLen at q2
  obtain ⟨ka, rfl⟩ : ∃ ka : Nat, a = ka := ⟨a.toNat, by omega⟩
  exact ustr_at w _ p ka x x' c c' rfl (Lib.hid HK) (Lib.hid hwb) (Lib.hid fun w1 => ualive_n w1) (Lib.hid fun w1 h1 hb1 => sound_n _ p w1 _ h1 hs (ht'.below hb1) rfl) (by omega) q1 (by omega) (Lib.hid hs.ins) (Lib.hid fun hsd w1 k h1 => ulast_n _ p w1 k h1 hs (sound_parts hsd).2.2.1) (Lib.hid fun w1 a h0 h1 hp hsd => rlocal_n _ p a _ w1 hp hs (by have := (head_parts (check_ok (sound_parts hsd).2.2.1).1).2.2.1; omega) h0 h1 rfl) (Lib.hid fun w1 t hb => rsize_n _ (tsP p.types) t _ w1 (ts_of (ht.below hb) hs.ty) (Lib.hid rfl))
end Go.Proofs.YtbpijfncjboamaaDoor
