/-
  The contract of the document's May.
-/
import Derived.Test.YtgmpggjikebcdaaGreatDoorZRight
namespace Go.Proofs.YtgmpggjikebcdaaGreatDoor
open Go.RowKit

set_option maxRecDepth 100000 in
set_option maxHeartbeats 1500000 in
theorem rmay_any (v : Value) (p : PProg) (w : World) (h : ProgAt w v p) (hs : OkP p) (ht0 : HasT w) : Calls Tryz.prog 18 #[v] w (AggPost w (.bool (mayP p))) := by
  obtain ⟨vt, vc, rfl, ht, hc⟩ := h
  have hwb : Below w.heap.size w (w.alloc (.cells (progC vt p vc) 25)) := (Below.refl _ _).alloc (Nat.le_refl _) _
  have HTT := Lib.hid (ht0.below hwb)
  obtain ⟨a, c, rfl, h1, h2, h3⟩ := (ht.below hwb).elems
  obtain ⟨a', c', rfl, g1, g2, g3⟩ := hc.below hwb
  have HT := Lib.hid h3
  have HI := Lib.hid g3
  have HP := Lib.hid hs
  have HWB := Lib.hid hwb
  have HMT := Lib.hid (fun k t (h : p.types[k]? = some t) hb => may_type (p := p) h hb)
  have HMM := Lib.hid (may_mid (p := p))
  have HMI := Lib.hid (fun k i (h : p.code[k]? = some i) hb => may_ins (p := p) h hb)
  have HMA := Lib.hid (may_all (p := p))
  have KP := Lib.hid (blk_new w (progC (.slice a p.types.length c) p (.slice a' p.code.length c')) 25)
  generalize mayP p = R at *
  clear ht0 ht hc h3 g3 hs hwb
  unfold maxLen at h2 g2
  go_enter Tryz.func18, Tryz.ntmps18
  go_wp2
  generalize w.alloc (.cells #[.slice a p.types.length c, str p.locals, str p.globs, .slice a' p.code.length c'] 25) = W0 at *
  have c0 := blk_cell KP.out 0 _ rfl
  go_loopw [3] (fun i wr => ∃ k : Nat, k ≤ p.types.length ∧ i = .int .i64 k ∧ Hid ((p.types.take k).all typeL = true) ∧ wr = W0) (fun i _ => p.types.length - (intOf i).toNat)
  case atStart => exact ⟨0, Nat.zero_le _, rfl, Lib.hid (by simp), rfl⟩
  case round =>
    obtain ⟨k, hk, rfl, hok, rfl⟩ := hrel
    by_cases hlt : k < p.types.length
    · obtain ⟨t, hx⟩ : ∃ t, p.types[k]? = some t := ⟨_, List.getElem?_eq_getElem hlt⟩
      obtain ⟨b, o, rfl, hb, hcell⟩ := HT.out k t hx
      have hl := HP.out.ty t (List.mem_of_getElem? hx)
      have HX := Lib.hid hx
      clear hx
      by_cases h0 : t = []
      · subst h0
        have HF := Lib.hid (HMT.out k [] HX.out rfl)
        go_wp2
        go_ret
        rw [HF.out]
        exact ⟨rfl, HWB.out⟩
      · have e1 : (t == []) = false := by simpa using h0
        have HE : Hid (t.isEmpty = false) := Lib.hid (by simpa using h0)
        clear h0
        rcases hm : areL t with _ | _
        · have HM := Lib.hid hm
          have HF := Lib.hid (HMT.out k t HX.out (by unfold typeL; rw [hm, Bool.and_false]))
          clear hm
          go_wp2_with (go_at_call 38; refine (letters_b t false _ hl HM.out).mono ?_; rintro e w' ⟨rfl, rfl⟩)
          go_ret
          rw [HF.out]
          exact ⟨rfl, HWB.out⟩
        · have HM := Lib.hid hm
          have HY : Hid (typeL t = true) := Lib.hid (by unfold typeL; rw [hm, HE.out]; rfl)
          clear hm
          go_wp2_with (go_at_call 38; refine (letters_b t true _ hl HM.out).mono ?_; rintro e w' ⟨rfl, rfl⟩)
          go_roundw
          case rel => exact ⟨k + 1, by omega, by go_num, Lib.hid (all_take_next hok.out HX.out HY.out), trivial⟩
          case measure => simp [intOf]; omega
    · obtain rfl : k = p.types.length := by omega
      have HOK := Lib.hid (show p.types.all typeL = true from by have := hok.out; rwa [List.take_length] at this)
      clear hok
      go_wp2
      clear c0
      go_loopw [4] (fun i wx => ∃ k : Nat, k ≤ p.code.length ∧ i = .int .i64 k ∧ Hid ((p.code.take k).all rightL = true) ∧ Below wr.heap.size wr wx) (fun i _ => p.code.length - (intOf i).toNat)
      case atStart => exact ⟨0, Nat.zero_le _, rfl, Lib.hid (by simp), Below.refl _ _⟩
      case round =>
        obtain ⟨j, hj, rfl, hgo, hbel⟩ := hrel
        have HBW := Lib.hid hbel
        have kp := blk_below KP.out hbel
        have c1 := blk_cell kp 1 _ rfl
        have c2 := blk_cell kp 2 _ rfl
        have c3 := blk_cell kp 3 _ rfl
        have HT2 := Lib.hid (HTT.out.below hbel)
        clear kp
        by_cases hlt : j < p.code.length
        · obtain ⟨i, hi⟩ : ∃ i, p.code[j]? = some i := ⟨_, List.getElem?_eq_getElem hlt⟩
          obtain ⟨b, o, rfl, hb, hcell⟩ := HI.out j i hi
          have hr := Lib.hid (rangeAt_below hcell hb hbel)
          have hoi := Lib.hid (HP.out.ins i (List.mem_of_getElem? hi))
          have HIx := Lib.hid hi
          clear hbel hb hcell hi c1 c2
          have HMX : Hid (rightL i = true ∨ rightL i = false) := Lib.hid (by cases rightL i <;> simp)
          rcases HMX.out with hm | hm
          · have HM := Lib.hid hm
            clear hm HMX
            go_wp2_with (first
              | (refine wpList_load_mid rfl 27 _ rfl b (o + j * 5) rfl (insC i).toList _ hr.out Tryz.underlying27 rfl ins_info ?_)
              | (go_at_call 10; refine (rightR_b i true _ hoi.out HT2.out HM.out).mono ?_; rintro e w1 ⟨rfl, hb1⟩; have HB1 := Lib.hid hb1; clear hb1))
            go_roundw
            case rel => exact ⟨j + 1, by omega, by go_num, Lib.hid (all_take_next hgo.out HIx.out HM.out), HBW.out.trans (HB1.out.mono HBW.out.size)⟩
            case measure => simp [intOf]; omega
          · have HM := Lib.hid hm
            have HF := Lib.hid (HMI.out j i HIx.out hm)
            clear hm HMX
            go_wp2_with (first
              | (refine wpList_load_mid rfl 27 _ rfl b (o + j * 5) rfl (insC i).toList _ hr.out Tryz.underlying27 rfl ins_info ?_)
              | (go_at_call 10; refine (rightR_b i false _ hoi.out HT2.out HM.out).mono ?_; rintro e w1 ⟨rfl, hb1⟩; have HB1 := Lib.hid hb1; clear hb1))
            go_ret
            rw [HF.out]
            exact ⟨rfl, HWB.out.trans ((HBW.out.trans (HB1.out.mono HBW.out.size)).mono HWB.out.size)⟩
        · obtain rfl : j = p.code.length := by omega
          have HCO := Lib.hid (show p.code.all rightL = true from by have := hgo.out; rwa [List.take_length] at this)
          have hlo := HP.out.lo
          have hgl := HP.out.gl
          clear hgo hbel
          rcases h1 : areL p.locals with _ | _
          · have H1 := Lib.hid h1
            have HF := Lib.hid (HMM.out (by rw [h1]; rfl))
            clear h1
            go_wp2_with (go_at_call 38; ((with_reducible refine (letters_b p.locals false _ hlo H1.out).mono ?_); rintro e w' ⟨rfl, rfl⟩))
            go_ret
            rw [HF.out]
            exact ⟨rfl, HWB.out.trans (HBW.out.mono HWB.out.size)⟩
          · have H1 := Lib.hid h1
            rcases h2 : areL p.globs with _ | _
            · have H2 := Lib.hid h2
              have HF := Lib.hid (HMM.out (by rw [h1, h2]; rfl))
              clear h1 h2
              go_wp2_with (first | (go_at_call 38; ((with_reducible refine (letters_b p.locals true _ hlo H1.out).mono ?_); rintro e w' ⟨rfl, rfl⟩; clear H1)) | (go_at_call 38; ((with_reducible refine (letters_b p.globs false _ hgl H2.out).mono ?_); rintro e w' ⟨rfl, rfl⟩)))
              go_ret
              rw [HF.out]
              exact ⟨rfl, HWB.out.trans (HBW.out.mono HWB.out.size)⟩
            · have H2 := Lib.hid h2
              by_cases h200 : p.code.length ≤ 200
              · have HF := Lib.hid (HMA.out HOK.out (by rw [h1, h2, decide_eq_true h200]; rfl) HCO.out)
                clear h1 h2
                go_wp2_with (first | (go_at_call 38; ((with_reducible refine (letters_b p.locals true _ hlo H1.out).mono ?_); rintro e w' ⟨rfl, rfl⟩; clear H1)) | (go_at_call 38; ((with_reducible refine (letters_b p.globs true _ hgl H2.out).mono ?_); rintro e w' ⟨rfl, rfl⟩)))
                go_ret
                rw [HF.out]
                exact ⟨ret_bool (by simp; omega), HWB.out.trans (HBW.out.mono HWB.out.size)⟩
              · have HF := Lib.hid (HMM.out (by rw [h1, h2, decide_eq_false h200]; rfl))
                clear h1 h2
                go_wp2_with (first | (go_at_call 38; ((with_reducible refine (letters_b p.locals true _ hlo H1.out).mono ?_); rintro e w' ⟨rfl, rfl⟩; clear H1)) | (go_at_call 38; ((with_reducible refine (letters_b p.globs true _ hgl H2.out).mono ?_); rintro e w' ⟨rfl, rfl⟩)))
                go_ret
                rw [HF.out]
                exact ⟨ret_bool (by simp; omega), HWB.out.trans (HBW.out.mono HWB.out.size)⟩
end Go.Proofs.YtgmpggjikebcdaaGreatDoor
