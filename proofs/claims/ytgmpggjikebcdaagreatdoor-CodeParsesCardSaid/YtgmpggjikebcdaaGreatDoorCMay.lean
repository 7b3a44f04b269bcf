/-
  A program as it lies; the contract of mayBePrinted.
-/
import Derived.Test.YtgmpggjikebcdaaGreatDoorCWords
namespace Go.Proofs.YtgmpggjikebcdaaGreatDoor
open Go.RowKit

/-- A slice of instructions, wherever it lies. -/
def InsRow (w : World) (v : Value) (code : List PIns) : Prop :=
  ∃ a c, v = .slice a code.length c ∧ code.length ≤ c ∧ c ≤ maxLen ∧ ∀ j i, code[j]? = some i → ∃ b o, a = some ⟨b, o, none⟩ ∧ b < w.heap.size ∧ w.rangeAt b (o + j * 5) (insC i).toList
theorem rangeAt_below {w w' : World} {b o : Nat} {cs : List Value} (h : w.rangeAt b o cs) (hlt : b < w.heap.size) (hb : Below w.heap.size w w') : w'.rangeAt b o cs := fun j v hv => by
  rw [(bcell hb).1 b _ hlt]; exact h j v hv
theorem InsRow.below {w w' : World} {v : Value} {code : List PIns} (h : InsRow w v code) (hb : Below w.heap.size w w') : InsRow w' v code := by
  obtain ⟨a, c, rfl, h1, h2, h3⟩ := h
  refine ⟨a, c, rfl, h1, h2, fun j i hj => ?_⟩
  obtain ⟨b, o, rfl, hlt, hr⟩ := h3 j i hj
  exact ⟨b, o, rfl, Nat.lt_of_lt_of_le hlt hb.size, rangeAt_below hr hlt hb⟩
abbrev progC (vt : Value) (p : PProg) (vc : Value) : Array Value := #[vt, str p.locals, str p.globs, vc]
/-- A program, wherever it lies. -/
def ProgAt (w : World) (v : Value) (p : PProg) : Prop := ∃ vt vc, v = .agg (progC vt p vc) ∧ RowAt w vt (p.types.map str) ∧ InsRow w vc p.code
theorem ProgAt.below {w w' : World} {v : Value} {p : PProg} (h : ProgAt w v p) (hb : Below w.heap.size w w') : ProgAt w' v p := by
  obtain ⟨vt, vc, rfl, h1, h2⟩ := h
  exact ⟨vt, vc, rfl, h1.below hb, h2.below hb⟩
/-- What is so of any program. -/
structure OkP (p : PProg) : Prop where
  ty : ∀ t ∈ p.types, t.length ≤ maxLen
  lo : p.locals.length ≤ maxLen
  gl : p.globs.length ≤ maxLen
  ins : ∀ i ∈ p.code, OkI i
/-- A row of texts: its slice, and each of its cells. -/
theorem RowAt.elems {w : World} {v : Value} {xs : List Bs} (h : RowAt w v (xs.map str)) :
    ∃ a c, v = .slice a xs.length c ∧ xs.length ≤ c ∧ c ≤ maxLen ∧ ∀ j x, xs[j]? = some x → ∃ b o, a = some ⟨b, o, none⟩ ∧ b < w.heap.size ∧ w.cell? ⟨b, o + j, none⟩ = some (str x) := by
  obtain ⟨a, c, rfl, h1, h2, h3⟩ := h
  rw [List.length_map] at h1
  refine ⟨a, c, by rw [List.length_map], h1, h2, fun j x hx => ?_⟩
  rcases h3 with h3 | ⟨b, o, rfl, hb, hc⟩
  · have : xs = [] := by simpa using h3
    subst this; simp at hx
  · exact ⟨b, o, rfl, hb, hc j (str x) (by simp [hx])⟩
theorem prog_info : (Tryz.prog.info? 25).map (·.size) = some 4 := by kernel_rfl
theorem may_type {p : PProg} {k : Nat} {t : Bs} (h : p.types[k]? = some t) (hb : typeL t = false) : mayP p = false := by
  unfold mayP; rw [all_not h hb]; simp
theorem may_mid {p : PProg} (h : (areL p.locals && areL p.globs && decide (p.code.length ≤ 200)) = false) : mayP p = false := by
  unfold mayP; rw [h]; simp
theorem may_ins {p : PProg} {k : Nat} {i : PIns} (h : p.code[k]? = some i) (hb : rightL i = false) : mayP p = false := by
  unfold mayP; rw [all_not h hb]; simp
theorem may_all {p : PProg} (h1 : p.types.all typeL = true) (h2 : (areL p.locals && areL p.globs && decide (p.code.length ≤ 200)) = true) (h3 : p.code.all rightL = true) : mayP p = true := by
  unfold mayP; rw [h1, h2, h3]; rfl

set_option maxRecDepth 100000 in
set_option maxHeartbeats 1000000 in
theorem mayP_any (v : Value) (p : PProg) (w : World) (h : ProgAt w v p) (hs : OkP p) (ho : HasO w) : Calls Tryz.prog 14 #[v] w (AggPost w (.bool (mayP p))) := by
  obtain ⟨vt, vc, rfl, ht, hc⟩ := h
  have hwb : Below w.heap.size w (w.alloc (.cells (progC vt p vc) 25)) := (Below.refl _ _).alloc (Nat.le_refl _) _
  have HO := Lib.hid (ho.below hwb)
  obtain ⟨a, c, rfl, h1, h2, h3⟩ := (ht.below hwb).elems
  obtain ⟨a', c', rfl, g1, g2, g3⟩ := hc.below hwb
  have HT := Lib.hid h3
  have HI := Lib.hid g3
  have HP := Lib.hid hs
  have HWB := Lib.hid hwb
  have hmt := fun k t (h : p.types[k]? = some t) hb => may_type (p := p) h hb
  have hmm := may_mid (p := p)
  have hmi := fun k i (h : p.code[k]? = some i) hb => may_ins (p := p) h hb
  have hma := may_all (p := p)
  have HMT := Lib.hid hmt
  have HMM := Lib.hid hmm
  have HMI := Lib.hid hmi
  have HMA := Lib.hid hma
  generalize mayP p = R at *
  clear ho ht hc h3 g3 hs hwb hmt hmm hmi hma
  unfold maxLen at h2 g2
  go_enter Tryz.func14, Tryz.ntmps14
  go_wp2
  go_loop [10] (fun i => ∃ k : Nat, k ≤ p.types.length ∧ i = .int .i64 k ∧ Hid ((p.types.take k).all typeL = true)) (fun i => p.types.length - (intOf i).toNat)
  case atStart => exact ⟨0, Nat.zero_le _, rfl, Lib.hid (by simp)⟩
  case round =>
    obtain ⟨k, hk, rfl, hok⟩ := hrel
    by_cases hlt : k < p.types.length
    · obtain ⟨t, hx⟩ : ∃ t, p.types[k]? = some t := ⟨_, List.getElem?_eq_getElem hlt⟩
      obtain ⟨b, o, rfl, hb, hcell⟩ := HT.out k t hx
      have hl := HP.out.ty t (List.mem_of_getElem? hx)
      have HX := Lib.hid hx
      clear hx
      rcases hm : typeL t with _ | _
      · have HM := Lib.hid hm
        clear hm
        go_wp2_with (go_at_call 31; refine (typeL_b t false _ hl HM.out).mono ?_; rintro e w' ⟨rfl, rfl⟩)
        go_ret
        exact ⟨ret_bool (HMT.out k t HX.out HM.out).symm, HWB.out⟩
      · have HM := Lib.hid hm
        clear hm
        go_wp2_with (go_at_call 31; refine (typeL_b t true _ hl HM.out).mono ?_; rintro e w' ⟨rfl, rfl⟩)
        go_round
        case rel => exact ⟨k + 1, by omega, by go_num, Lib.hid (all_take_next hok.out HX.out HM.out)⟩
        case measure => simp [intOf]; omega
    · obtain rfl : k = p.types.length := by omega
      have hlo := HP.out.lo
      have hgl := HP.out.gl
      rcases h1 : areL p.locals with _ | _
      · have H1 := Lib.hid h1
        clear h1
        go_wp2_with (go_at_call 32; ((with_reducible refine (areL_b p.locals false _ hlo H1.out).mono ?_); rintro e w' ⟨rfl, rfl⟩))
        go_ret
        exact ⟨ret_bool (HMM.out (by rw [H1.out]; rfl)).symm, HWB.out⟩
      · have H1 := Lib.hid h1
        clear h1
        rcases h2 : areL p.globs with _ | _
        · have H2 := Lib.hid h2
          clear h2
          go_wp2_with (first | (go_at_call 32; ((with_reducible refine (areL_b p.locals true _ hlo H1.out).mono ?_); rintro e w' ⟨rfl, rfl⟩)) | (go_at_call 32; ((with_reducible refine (areL_b p.globs false _ hgl H2.out).mono ?_); rintro e w' ⟨rfl, rfl⟩)))
          go_ret
          exact ⟨ret_bool (HMM.out (by rw [H1.out, H2.out]; rfl)).symm, HWB.out⟩
        · have H2 := Lib.hid h2
          clear h2
          by_cases h200 : p.code.length ≤ 200
          · have H5 := Lib.hid h200
            have HM2 : Hid ((areL p.locals && areL p.globs && decide (p.code.length ≤ 200)) = true) := Lib.hid (by rw [H1.out, H2.out, decide_eq_true h200]; rfl)
            have HOK := Lib.hid (show p.types.all typeL = true from by have := hok.out; rwa [List.take_length] at this)
            clear hok
            go_wp2_with (first | (go_at_call 32; ((with_reducible refine (areL_b p.locals true _ hlo H1.out).mono ?_); rintro e w' ⟨rfl, rfl⟩)) | (go_at_call 32; ((with_reducible refine (areL_b p.globs true _ hgl H2.out).mono ?_); rintro e w' ⟨rfl, rfl⟩)))
            go_loopw [37] (fun i wr => ∃ k : Nat, k ≤ p.code.length ∧ i = .int .i64 k ∧ Hid ((p.code.take k).all rightL = true) ∧ Below (w.heap.size + 1) (w.alloc (.cells (progC (.slice a p.types.length c) p (.slice a' p.code.length c')) 25)) wr) (fun i _ => p.code.length - (intOf i).toNat)
            case atStart => exact ⟨0, Nat.zero_le _, rfl, Lib.hid (by simp), Below.refl _ _⟩
            case round =>
              obtain ⟨j, hj, rfl, hgo, hbel⟩ := hrel
              have hbs : w.heap.size + 1 ≤ wr.heap.size := by have := hbel.size; rw [World.size_alloc] at this; exact this
              have HBW := Lib.hid hbel
              have HO2 := Lib.hid ((HO.out.below (by rw [World.size_alloc]; exact hbel)).below ((Below.refl wr.heap.size wr).alloc (Nat.le_refl _) (.cells (insC ⟨0, 0, 0, 0, 0⟩) 27)))
              by_cases hlt : j < p.code.length
              · obtain ⟨i, hi⟩ : ∃ i, p.code[j]? = some i := ⟨_, List.getElem?_eq_getElem hlt⟩
                obtain ⟨b, o, rfl, hb, hcell⟩ := HI.out j i hi
                have hr := Lib.hid (rangeAt_below hcell hb (by rw [World.size_alloc]; exact hbel))
                have hoi := Lib.hid (HP.out.ins i (List.mem_of_getElem? hi))
                have HIx := Lib.hid hi
                have HO3 := Lib.hid ((HO.out.below (by rw [World.size_alloc]; exact hbel)).below ((Below.refl wr.heap.size wr).alloc (Nat.le_refl _) (.cells (insC i) 27)))
                clear hbel hb hcell hi HO2
                have HMX : Hid (rightL i = true ∨ rightL i = false) := Lib.hid (by cases rightL i <;> simp)
                rcases HMX.out with hm | hm
                · have HM := Lib.hid hm
                  clear hm HMX
                  go_wp2_with (first
                    | (refine wpList_load_mid rfl 27 _ rfl b (o + j * 5) rfl (insC i).toList _ hr.out Tryz.underlying27 rfl ins_info ?_)
                    | (go_at_call 9; refine (right_b i true _ HO3.out hoi.out HM.out).mono ?_; rintro e w1 ⟨rfl, hb1⟩; have HB1 := Lib.hid hb1; clear hb1))
                  go_roundw
                  case rel => exact ⟨j + 1, by omega, by go_num, Lib.hid (all_take_next hgo.out HIx.out HM.out), (HBW.out.alloc hbs _).trans (HB1.out.mono (by simp; omega))⟩
                  case measure => simp [intOf]; omega
                · have HM := Lib.hid hm
                  clear hm HMX
                  go_wp2_with (first
                    | (refine wpList_load_mid rfl 27 _ rfl b (o + j * 5) rfl (insC i).toList _ hr.out Tryz.underlying27 rfl ins_info ?_)
                    | (go_at_call 9; refine (right_b i false _ HO3.out hoi.out HM.out).mono ?_; rintro e w1 ⟨rfl, hb1⟩; have HB1 := Lib.hid hb1; clear hb1))
                  go_ret
                  exact ⟨ret_bool (HMI.out j i HIx.out HM.out).symm, HWB.out.trans ((((Below.refl _ _).trans HBW.out).alloc hbs _ |>.trans (HB1.out.mono (by simp; omega))).mono (by omega))⟩
              · obtain rfl : j = p.code.length := by omega
                go_wp2
                go_ret
                exact ⟨ret_bool (HMA.out HOK.out HM2.out (by have := hgo.out; rwa [List.take_length] at this)).symm, HWB.out.trans (HBW.out.mono (by omega))⟩
          · go_wp2_with (first | (go_at_call 32; ((with_reducible refine (areL_b p.locals true _ hlo H1.out).mono ?_); rintro e w' ⟨rfl, rfl⟩)) | (go_at_call 32; ((with_reducible refine (areL_b p.globs true _ hgl H2.out).mono ?_); rintro e w' ⟨rfl, rfl⟩)))
            go_ret
            exact ⟨ret_bool (HMM.out (by rw [H1.out, H2.out, decide_eq_false h200]; rfl)).symm, HWB.out⟩
end Go.Proofs.YtgmpggjikebcdaaGreatDoor
