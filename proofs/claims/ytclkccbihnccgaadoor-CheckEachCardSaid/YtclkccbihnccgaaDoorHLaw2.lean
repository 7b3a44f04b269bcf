/-
  CheckFewer: the walk.
-/
import Derived.Test.YtclkccbihnccgaaDoorHLaw1
namespace Go.Proofs.YtclkccbihnccgaaDoor
open Go.RowKit

def cutP (p : PProg) : PProg := { p with code := p.code.take (p.code.length - 1) }
theorem cutP_len (p : PProg) : (cutP p).code.length = p.code.length - 1 := by show (p.code.take _).length = _; rw [List.length_take]; omega
theorem cutP_ok {p : PProg} (h : OkP p) : OkP (cutP p) := ⟨h.ty, h.lo, h.gl, fun i hi => h.ins i (List.mem_of_mem_take hi)⟩
theorem cut_at {w : World} {vt : Value} {p : PProg} {a' : Option Addr} {n c' : Nat} (h : ProgAt w (.agg #[vt, str p.locals, str p.globs, .slice a' n c']) p) : ProgAt w (.agg #[vt, str p.locals, str p.globs, .slice a' (p.code.length - 1) c']) (cutP p) := by
  obtain ⟨vt', vc', he, ht, ⟨x, y, rfl, h1, h2, h3⟩⟩ := h
  have he' : vt = vt' ∧ Value.slice a' n c' = .slice x p.code.length y := by
    unfold progC at he
    simp only [Value.agg.injEq, Array.mk.injEq, List.cons.injEq] at he
    exact ⟨he.1, he.2.2.2.1⟩
  obtain ⟨rfl, he2⟩ := he'
  simp only [Value.slice.injEq] at he2
  obtain ⟨rfl, -, rfl⟩ := he2
  have hlen := cutP_len p
  refine ⟨vt, .slice a' (cutP p).code.length c', by rw [hlen]; rfl, ht, ⟨a', c', rfl, by omega, h2, fun j i hj => h3 j i ?_⟩⟩
  have : (p.code.take (p.code.length - 1))[j]? = some i := hj
  rw [List.getElem?_take] at this
  split at this
  · exact this
  · cases this
def behI (n : Nat) (i : PIns) : Bool := jumpI i && decide ((n : Int) < i.n)
theorem beh_any (l : List PIns) : behindB l = l.any (behI l.length) := rfl
theorem any_next {l : List PIns} {n m : Nat} {i : PIns} (h : l[m]? = some i) : (l.take (m + 1)).any (behI n) = ((l.take m).any (behI n) || behI n i) := by
  obtain ⟨hlt, rfl⟩ := List.getElem?_eq_some_iff.1 h
  rw [List.take_succ_eq_append_getElem hlt, List.any_append]; simp

set_option maxRecDepth 100000 in
set_option maxHeartbeats 2000000 in
theorem fewer_at (w W0 : World) (p : PProg) (z e z2 e2 : Int) (b : Bool) (x x' : Option Addr) (k k' : Nat)
    (hW0 : W0 = w.alloc (.cells #[.slice x p.types.length k, str p.locals, str p.globs, .slice x' p.code.length k'] 25))
    (KP : Hid (Keep W0 w.heap.size (.slice x p.types.length k) (.slice x' p.code.length k') p)) (HS : Hid (Below w.heap.size w W0))
    (HAL : Hid (∀ w1, Below W0.heap.size W0 w1 → Calls Tryd.prog 8 #[] w1 (AggPost w1 (.bool true))))
    (HF : Hid (∀ w1, Below W0.heap.size W0 w1 → Calls Tryd.prog 9 #[.agg #[.slice x p.types.length k, str p.locals, str p.globs, .slice x' p.code.length k']] w1 (AggPost w1 (.bool b))))
    (HC : Hid (∀ w1, Below W0.heap.size W0 w1 → Calls Tryd.prog 10 #[.agg #[.slice x p.types.length k, str p.locals, str p.globs, .slice x' p.code.length k']] w1 (ChkPost w1 z e)))
    (HC2 : Hid (∀ w1, Below W0.heap.size W0 w1 → Calls Tryd.prog 10 #[.agg #[.slice x p.types.length k, str p.locals, str p.globs, .slice x' (p.code.length - 1) k']] w1 (ChkPost w1 z2 e2)))
    (HI : Hid (∀ j i, p.code[j]? = some i → ∃ b o, x' = some ⟨b, o, none⟩ ∧ b < W0.heap.size ∧ W0.rangeAt b (o + j * 5) (insC i).toList))
    (g3 : p.code.length ≤ k') (g4 : k' ≤ 9223372036854775807)
    (hfit : Hid (e = 0 → 2 ≤ p.code.length → if (cutP p).code.any (behI (cutP p).code.length) = true then e2 = 12 ∧ 0 ≤ z2 else z2 = -1 ∧ e2 = 0)) :
    Calls Tryd.prog 4 #[.agg #[.slice x p.types.length k, str p.locals, str p.globs, .slice x' p.code.length k']] w (AggPost w (.bool true)) := by
  have HB := Lib.hid (Below.refl W0.heap.size W0)
  go_enter Tryd.func4, Tryd.ntmps4
  go_wp2_with (fail)
  rw [← hW0]
  clear hW0
  rcases b with _ | _
  · go_wp2_with (first
      | (refine wpList_loadB rfl 25 _ rfl w.heap.size (progC (.slice x p.types.length k) p (.slice x' p.code.length k')) rfl 25 KP.out.blk _ Tryd.underlying25 rfl prog_info ?_)
      | (go_at_call 8; refine (HAL.out _ HB.out).mono ?_; rintro e1 w1 ⟨rfl, hb⟩; have HB := Lib.hid (HB.out.trans (hb.mono HB.out.size)); have KP := Lib.hid (KP.out.below hb); clear hb)
      | (go_at_call 9; refine (HF.out _ HB.out).mono ?_; rintro e1 w1 ⟨rfl, hb⟩; have HB := Lib.hid (HB.out.trans (hb.mono HB.out.size)); clear hb))
    go_ret
    exact ⟨rfl, HS.out.trans (HB.out.mono HS.out.size)⟩
  by_cases hc : p.code.length < 2
  · go_wp2_with (first
      | (refine wpList_loadB rfl 25 _ rfl w.heap.size (progC (.slice x p.types.length k) p (.slice x' p.code.length k')) rfl 25 KP.out.blk _ Tryd.underlying25 rfl prog_info ?_)
      | (go_at_call 8; refine (HAL.out _ HB.out).mono ?_; rintro e1 w1 ⟨rfl, hb⟩; have HB := Lib.hid (HB.out.trans (hb.mono HB.out.size)); have KP := Lib.hid (KP.out.below hb); clear hb)
      | (go_at_call 9; refine (HF.out _ HB.out).mono ?_; rintro e1 w1 ⟨rfl, hb⟩; have HB := Lib.hid (HB.out.trans (hb.mono HB.out.size)); have KP := Lib.hid (KP.out.below hb); clear hb; obtain ⟨p0, p1, p2, p3⟩ := KP.out.cells))
    go_ret
    exact ⟨rfl, HS.out.trans (HB.out.mono HS.out.size)⟩
  by_cases he : e = 0
  rotate_left
  · have e1 : (e != 0) = true := by simp [he]
    clear he
    go_wp2_with (first
      | (refine wpList_loadB rfl 25 _ rfl w.heap.size (progC (.slice x p.types.length k) p (.slice x' p.code.length k')) rfl 25 KP.out.blk _ Tryd.underlying25 rfl prog_info ?_)
      | (go_at_call 8; refine (HAL.out _ HB.out).mono ?_; rintro e1 w1 ⟨rfl, hb⟩; have HB := Lib.hid (HB.out.trans (hb.mono HB.out.size)); have KP := Lib.hid (KP.out.below hb); clear hb)
      | (go_at_call 9; refine (HF.out _ HB.out).mono ?_; rintro e1 w1 ⟨rfl, hb⟩; have HB := Lib.hid (HB.out.trans (hb.mono HB.out.size)); have KP := Lib.hid (KP.out.below hb); clear hb; obtain ⟨p0, p1, p2, p3⟩ := KP.out.cells)
      | (go_at_call 10; refine (HC.out _ HB.out).mono ?_; rintro e1 w1 ⟨rfl, hb⟩; have HB := Lib.hid (HB.out.trans (hb.mono HB.out.size)); clear hb))
    go_ret
    exact ⟨rfl, HS.out.trans (HB.out.mono HS.out.size)⟩
  have HFIT := Lib.hid (hfit.out he (by omega))
  subst he
  clear hfit
  have hql := cutP_len p
  go_wp2_with (first
    | (refine wpList_loadB rfl 25 _ rfl w.heap.size (progC (.slice x p.types.length k) p (.slice x' p.code.length k')) rfl 25 KP.out.blk _ Tryd.underlying25 rfl prog_info ?_)
    | (go_at_call 8; refine (HAL.out _ HB.out).mono ?_; rintro e1 w1 ⟨rfl, hb⟩; have HB := Lib.hid (HB.out.trans (hb.mono HB.out.size)); have KP := Lib.hid (KP.out.below hb); clear hb)
    | (go_at_call 9; refine (HF.out _ HB.out).mono ?_; rintro e1 w2 ⟨rfl, hb⟩; have HB := Lib.hid (HB.out.trans (hb.mono HB.out.size)); have KP := Lib.hid (KP.out.below hb); clear hb; obtain ⟨p0, p1, p2, p3⟩ := KP.out.cells)
    | (go_at_call 10; refine (HC.out _ HB.out).mono ?_; rintro e1 w3 ⟨rfl, hb⟩; have HB := Lib.hid (HB.out.trans (hb.mono HB.out.size)); have KP := Lib.hid (KP.out.below hb); clear hb p0 p1 p2 p3; have ca3 := blk_cell (blk_alloc KP.out.blk (.cells #[.slice x p.types.length k, str p.locals, str p.globs, .slice x' p.code.length k'] 25)) 3 _ rfl; have cb3 := blk_cell (blk_new w3 #[.slice x p.types.length k, str p.locals, str p.globs, .slice x' p.code.length k'] 25) 3 _ rfl; have cf3 := blk_frozen (blk_new w3 #[.slice x p.types.length k, str p.locals, str p.globs, .slice x' p.code.length k'] 25) 3))
  clear ca3 cb3 cf3
  have hbq : Below w3.heap.size w3 (w3.alloc (.cells #[.slice x p.types.length k, .string ⟨p.locals.toArray⟩, .string ⟨p.globs.toArray⟩, .slice x' (p.code.length - 1) k'] 25)) := (Below.refl _ _).alloc (Nat.le_refl _) _
  have HQ := Lib.hid ((⟨blk_new w3 #[.slice x p.types.length k, .string ⟨p.locals.toArray⟩, .string ⟨p.globs.toArray⟩, .slice x' (p.code.length - 1) k'] 25, (cut_at KP.out.2).below hbq⟩ : Keep (w3.alloc (.cells #[.slice x p.types.length k, .string ⟨p.locals.toArray⟩, .string ⟨p.globs.toArray⟩, .slice x' (p.code.length - 1) k'] 25)) w3.heap.size (.slice x p.types.length k) (.slice x' (p.code.length - 1) k') (cutP p)))
  have HBQ := Lib.hid (HB.out.trans (hbq.mono HB.out.size))
  have HI2 : Hid (∀ j i, (cutP p).code[j]? = some i → ∃ b o, x' = some ⟨b, o, none⟩ ∧ b < W0.heap.size ∧ W0.rangeAt b (o + j * 5) (insC i).toList) := Lib.hid fun j i hj => HI.out j i (by
    have : (p.code.take (p.code.length - 1))[j]? = some i := hj
    rw [List.getElem?_take] at this
    split at this
    · exact this
    · cases this)
  have hok : p.code.length - 1 ≤ 9223372036854775807 := by omega
  clear hbq HI HC HF HAL KP HB
  rw [hql] at HFIT
  rw [← hql] at HFIT HQ HC2 HBQ hok ⊢
  generalize hnn : (cutP p).code.length = n at *
  have hnl : (cutP p).code.length = n := hnn
  have HNL := Lib.hid hnl
  clear hnn hql hnl
  go_loopw [6, 41] (fun u v wr => ∃ (m : Nat) (E : Bool), m ≤ n ∧ v = .int .i64 m ∧ u = .bool E ∧ Hid (((cutP p).code.take m).any (behI n) = E) ∧ Hid (Below W0.heap.size W0 wr) ∧ Hid (Keep wr w3.heap.size (.slice x p.types.length k) (.slice x' n k') (cutP p))) (fun _ v _ => n - (intOf v).toNat)
  case atStart => exact ⟨0, false, Nat.zero_le _, rfl, rfl, Lib.hid (by simp), HBQ, HQ⟩
  case round =>
    obtain ⟨m, E, hm, rfl, rfl, hE, hbw, hkw⟩ := hrel
    clear HBQ HQ
    by_cases hlt : m < n
    · obtain ⟨i, hi⟩ : ∃ i, (cutP p).code[m]? = some i := ⟨_, List.getElem?_eq_getElem (by rw [HNL.out]; exact hlt)⟩
      obtain ⟨b, o, rfl, hb, hcell⟩ := HI2.out m i hi
      have hr := Lib.hid (rangeAt_below hcell hb hbw.out)
      have HN : Hid (((cutP p).code.take (m + 1)).any (behI n) = (E || behI n i)) := Lib.hid (by rw [any_next hi, hE.out])
      have hsz := hbw.out.size
      have HBA := Lib.hid (hbw.out.alloc hsz (.cells (insC i) 32))
      have KPA := Lib.hid (hkw.out.below ((Below.refl wr.heap.size wr).alloc (Nat.le_refl _) (.cells (insC i) 32)))
      have KIA := Lib.hid (blk_new wr (insC i) 32)
      clear hcell hb hi
      obtain ⟨op, ia, ib, ic, iN⟩ := i
      have q3 : (wr.alloc (.cells (insC ⟨op, ia, ib, ic, iN⟩) 32)).cell? ⟨w3.heap.size, 3, none⟩ = some (.slice (some ⟨b, o, none⟩) n k') := blk_cell KPA.out.blk 3 _ rfl
      have d0 : (wr.alloc (.cells (insC ⟨op, ia, ib, ic, iN⟩) 32)).cell? ⟨wr.heap.size, 0, none⟩ = some (.int .u8 op) := blk_cell KIA.out 0 _ rfl
      have d4 : (wr.alloc (.cells (insC ⟨op, ia, ib, ic, iN⟩) 32)).cell? ⟨wr.heap.size, 4, none⟩ = some (.int .i64 iN) := blk_cell KIA.out 4 _ rfl
      rcases E with _ | _
      · by_cases h3 : op = 3
        · subst h3
          by_cases hN : (n : Int) < iN
          all_goals
            go_upto_region 14 with (refine wpList_load_mid rfl 32 _ rfl b (o + m * 5) rfl (insC ⟨3, ia, ib, ic, iN⟩).toList _ hr.out Tryd.underlying32 rfl ins_info ?_)
            go_wp2
            go_roundw
            case rel => exact ⟨m + 1, _, by omega, by go_num, rfl, Lib.hid (by rw [HN.out]; simp [behI, jumpI, hN]), HBA, KPA⟩
            case measure => simp [intOf]; omega
        · have t3 : (op == 3) = false := by simp [h3]
          have H3 := Lib.hid h3
          clear h3
          by_cases h4 : op = 4
          · subst h4
            by_cases hN : (n : Int) < iN
            all_goals
              go_upto_region 14 with (refine wpList_load_mid rfl 32 _ rfl b (o + m * 5) rfl (insC ⟨4, ia, ib, ic, iN⟩).toList _ hr.out Tryd.underlying32 rfl ins_info ?_)
              go_wp2
              go_roundw
              case rel => exact ⟨m + 1, _, by omega, by go_num, rfl, Lib.hid (by rw [HN.out]; simp [behI, jumpI, hN]), HBA, KPA⟩
              case measure => simp [intOf]; omega
          · have t4 : (op == 4) = false := by simp [h4]
            have H4 := Lib.hid h4
            clear h4
            go_upto_region 14 with (refine wpList_load_mid rfl 32 _ rfl b (o + m * 5) rfl (insC ⟨op, ia, ib, ic, iN⟩).toList _ hr.out Tryd.underlying32 rfl ins_info ?_)
            go_wp2
            go_roundw
            case rel => exact ⟨m + 1, false, by omega, by go_num, rfl, Lib.hid (by rw [HN.out]; simp [behI, jumpI, H3.out, H4.out]), HBA, KPA⟩
            case measure => simp [intOf]; omega
      · go_upto_region 14 with (refine wpList_load_mid rfl 32 _ rfl b (o + m * 5) rfl (insC ⟨op, ia, ib, ic, iN⟩).toList _ hr.out Tryd.underlying32 rfl ins_info ?_)
        go_wp2
        go_roundw
        case rel => exact ⟨m + 1, true, by omega, by go_num, rfl, Lib.hid (by rw [HN.out]; simp), HBA, KPA⟩
        case measure => simp [intOf]; omega
    · obtain rfl : m = n := by omega
      have hA : ((cutP p).code.any (behI m)) = E := by rw [← hE.out, ← HNL.out, List.take_length]
      rcases E with _ | _
      · have hf := HFIT.out
        rw [hA] at hf
        simp only [Bool.false_eq_true, if_false] at hf
        obtain ⟨rfl, rfl⟩ := hf
        clear hA HFIT hE
        go_wp2_with (first
          | (refine wpList_loadB rfl 25 _ rfl w3.heap.size (progC (.slice x p.types.length k) (cutP p) (.slice x' m k')) rfl 25 hkw.out.blk _ Tryd.underlying25 rfl prog_info ?_)
          | (go_at_call 10; refine (HC2.out _ hbw.out).mono ?_; rintro e1 w4 ⟨rfl, hb⟩; have HB := Lib.hid (hbw.out.trans (hb.mono hbw.out.size)); clear hb))
        go_ret
        exact ⟨rfl, HS.out.trans (HB.out.mono HS.out.size)⟩
      · have hf := HFIT.out
        rw [hA] at hf
        simp only [if_true] at hf
        obtain ⟨rfl, hz2⟩ := hf
        clear hA HFIT hE
        go_wp2_with (first
          | (refine wpList_loadB rfl 25 _ rfl w3.heap.size (progC (.slice x p.types.length k) (cutP p) (.slice x' m k')) rfl 25 hkw.out.blk _ Tryd.underlying25 rfl prog_info ?_)
          | (go_at_call 10; refine (HC2.out _ hbw.out).mono ?_; rintro e1 w4 ⟨rfl, hb⟩; have HB := Lib.hid (hbw.out.trans (hb.mono hbw.out.size)); clear hb))
        go_ret
        exact ⟨rfl, HS.out.trans (HB.out.mono HS.out.size)⟩
theorem fewer_fit {p : PProg} (h : ((checkL p).2 : Int) = 0) (h2 : 2 ≤ p.code.length) : if (cutP p).code.any (behI (cutP p).code.length) = true then ((checkL (cutP p)).2 : Int) = 12 ∧ 0 ≤ (checkL (cutP p)).1 else (checkL (cutP p)).1 = -1 ∧ ((checkL (cutP p)).2 : Int) = 0 := by
  have := law_fewer (p := p) (by omega) h2
  rw [beh_any] at this
  have e : (cutP p).code = p.code.take (p.code.length - 1) := rfl
  rw [e]
  split at this
  · next hh => rw [if_pos hh]; exact ⟨by have := this.1; show ((checkL (cutP p)).2 : Int) = 12; unfold cutP; omega, this.2⟩
  · next hh =>
    rw [if_neg hh]
    have e2 : checkL (cutP p) = (-1, 0) := this
    rw [e2]; exact ⟨rfl, rfl⟩
theorem fewer_walk (v : Value) (p : PProg) (w : World) (h : ProgAt w v p) (hs : OkP p) (hO : HasO w) : Calls Tryd.prog 4 #[v] w (AggPost w (.bool true)) := by
  obtain ⟨x, k, x', k', rfl, g1, g2, g3, g4, hwb, kp⟩ := prog_box h
  have hO0 := hO.below hwb
  generalize hW0 : w.alloc (.cells #[.slice x p.types.length k, str p.locals, str p.globs, .slice x' p.code.length k'] 25) = W0 at hwb kp hO0
  have hp := kp.at'
  obtain ⟨vt, vc, he, _, hc⟩ := hp
  have he' : Value.slice x' p.code.length k' = vc := by
    unfold progC at he
    simp only [Value.agg.injEq, Array.mk.injEq, List.cons.injEq] at he
    exact he.2.2.2.1
  subst he'
  obtain ⟨x1, k1, e1, _, _, g5⟩ := hc
  simp only [Value.slice.injEq] at e1
  obtain ⟨rfl, -, rfl⟩ := e1
  have hp := kp.at'
  exact fewer_at w W0 p _ _ _ _ _ x x' k k' hW0.symm (Lib.hid kp) (Lib.hid hwb) (Lib.hid fun w1 hb => alive_any w1 (hO0.below hb)) (Lib.hid fun w1 hb => few_b _ p _ w1 (hp.below hb) hs rfl)
    (Lib.hid fun w1 hb => check_n _ p _ _ w1 (hp.below hb) hs (hO0.below hb) rfl rfl) (Lib.hid fun w1 hb => check_n _ (cutP p) _ _ w1 (cut_at (hp.below hb)) (cutP_ok hs) (hO0.below hb) rfl rfl)
    (Lib.hid g5) g3 g4 (Lib.hid fun he h2 => fewer_fit he h2)
end Go.Proofs.YtclkccbihnccgaaDoor
