/-
  CodeEach: the walk.
-/
import Derived.Test.YtgmpggjikebcdaaDoorCOpen
namespace Go.Proofs.YtgmpggjikebcdaaDoor
open Go.RowKit

theorem print_few (v : Value) (p : PProg) (w : World) (h : ProgAt w v p) (hs : OkP p) (hA : HasAll w) (hf : fewP p = true) (hl : p.types.length ≤ 8796093022208) : Calls Tryd.prog 10 #[v] w (PrintPost w (printL p)) := by
  unfold printL
  rcases hm : mayP p with _ | _
  · rw [if_neg (by simp)]; exact print_bad v p w h hs hA.o hm
  · obtain ⟨h1, h2⟩ := text_short hs hm hf hl
    rw [if_pos rfl]; exact print_ok v p w h hs hA.o hA.t hm (by omega) (by omega)
def noCode (p : PProg) : PProg := { p with code := [] }
theorem noCode_ok {p : PProg} (h : OkP p) : OkP (noCode p) := ⟨h.ty, h.lo, h.gl, fun i hi => by simp [noCode] at hi⟩
theorem noCode_few {p : PProg} (h : fewP p = true) : fewP (noCode p) = true := by
  unfold fewP at h ⊢
  simp only [Bool.and_eq_true, decide_eq_true_eq] at h ⊢
  exact ⟨h.1, by simp [noCode]⟩
theorem noCode_at {w : World} {vt vc : Value} {p : PProg} (h : RowAt w vt (p.types.map str)) : ProgAt w (.agg (progC vt (noCode p) (.slice none 0 0))) (noCode p) :=
  ⟨vt, .slice none 0 0, rfl, h, ⟨none, 0, rfl, Nat.le_refl _, Nat.zero_le _, fun j i hj => by simp [noCode] at hj⟩⟩
theorem may_split (p : PProg) : mayP p = ((decide (p.code.length ≤ 200) && p.code.all rightL) && mayP (noCode p)) := by
  unfold mayP noCode
  simp only [List.length_nil, List.all_nil, Nat.zero_le, decide_true, Bool.and_true]
  cases p.types.all typeL <;> cases areL p.locals <;> cases areL p.globs <;> cases decide (p.code.length ≤ 200) <;> cases p.code.all rightL <;> rfl
theorem printL_e (p : PProg) : (printL p).2 = if mayP p then 0 else 2 := by unfold printL; split <;> rfl

theorem all_false {c : List PIns} {k : Nat} {i : PIns} {d : Bool} (h : c[k]? = some i) (hE : (d && (c.take k).all rightL) = false) : (d && (c.take (k + 1)).all rightL) = false := by
  obtain ⟨hlt, rfl⟩ := List.getElem?_eq_some_iff.1 h
  rw [List.take_succ_eq_append_getElem hlt, List.all_append, ← Bool.and_assoc, hE]; rfl
theorem all_next_f {c : List PIns} {k : Nat} {i : PIns} {d : Bool} (h : c[k]? = some i) (hi : rightL i = false) : (d && (c.take (k + 1)).all rightL) = false := by
  obtain ⟨hlt, rfl⟩ := List.getElem?_eq_some_iff.1 h
  rw [List.take_succ_eq_append_getElem hlt, List.all_append]; simp [hi]
theorem all_next_t {c : List PIns} {k : Nat} {i : PIns} {d : Bool} (h : c[k]? = some i) (hi : rightL i = true) (hE : (d && (c.take k).all rightL) = true) : (d && (c.take (k + 1)).all rightL) = true := by
  obtain ⟨hlt, rfl⟩ := List.getElem?_eq_some_iff.1 h
  rw [List.take_succ_eq_append_getElem hlt, List.all_append, ← Bool.and_assoc, hE]; simp [hi]

set_option maxRecDepth 100000 in
set_option maxHeartbeats 2000000 in
theorem each_big (v : Value) (p : PProg) (w : World) (h : ProgAt w v p) (hs : OkP p) (hA : HasAll w) (hf : fewP p = false) : Calls Tryd.prog 6 #[v] w fun e w' => e = .returned (.bool true) ∧ Below w.heap.size w w' := by
  obtain ⟨vt, vc, rfl, ht, hc⟩ := h
  have hwb : Below w.heap.size w (w.alloc (.cells (progC vt p vc) 25)) := (Below.refl _ _).alloc (Nat.le_refl _) _
  have HAL := Lib.hid (alive_any _ (hA.below hwb))
  have HF : Hid (∀ w1, Below (w.alloc (.cells (progC vt p vc) 25)).heap.size (w.alloc (.cells (progC vt p vc) 25)) w1 → Calls Tryd.prog 9 #[.agg (progC vt p vc)] w1 (AggPost w1 (.bool false))) :=
    Lib.hid fun w1 hb => few_b _ p false w1 ⟨vt, vc, rfl, (ht.below hwb).below hb, (hc.below hwb).below hb⟩ hs hf
  have HW := Lib.hid hwb
  clear ht hc hs hA hf hwb
  go_enter Tryd.func6, Tryd.ntmps6
  go_wp2_with (first
    | (go_at_call 8; refine HAL.out.mono ?_; rintro e w1 ⟨rfl, hb1⟩; have K1 := Lib.hid (blk_below (blk_new w (progC vt p vc) 25) hb1); have s1 := hb1.size; rw [World.size_alloc] at s1; have HB1 := Lib.hid hb1; clear hb1)
    | (refine wpList_loadB rfl 25 _ rfl w.heap.size (progC vt p vc) rfl 25 K1.out _ Tryd.underlying25 rfl prog_info ?_)
    | (go_at_call 9; refine (HF.out _ HB1.out).mono ?_; rintro e w2 ⟨rfl, hb2⟩))
  go_ret
  have b1 := HB1.out
  rw [World.size_alloc] at b1
  exact ⟨rfl, (HW.out.trans (b1.mono (by omega))).trans (hb2.mono (by omega))⟩

set_option maxRecDepth 100000 in
set_option maxHeartbeats 2000000 in
theorem each_few (v : Value) (p : PProg) (w : World) (h : ProgAt w v p) (hs : OkP p) (hA : HasAll w) (hf : fewP p = true) (hl : p.types.length ≤ 8796093022208) : Calls Tryd.prog 6 #[v] w fun e w' => e = .returned (.bool true) ∧ Below w.heap.size w w' := by
  obtain ⟨vt, vc, rfl, ht, hc⟩ := h
  have hwb : Below w.heap.size w (w.alloc (.cells (progC vt p vc) 25)) := (Below.refl _ _).alloc (Nat.le_refl _) _
  have hcl : p.code.length ≤ 210 := by unfold fewP at hf; simp only [Bool.and_eq_true, decide_eq_true_eq] at hf; exact hf.2
  have HAL := Lib.hid (alive_any _ (hA.below hwb))
  have HAW := Lib.hid (hA.below hwb)
  have HF : Hid (∀ w1, Below (w.alloc (.cells (progC vt p vc) 25)).heap.size (w.alloc (.cells (progC vt p vc) 25)) w1 → Calls Tryd.prog 9 #[.agg (progC vt p vc)] w1 (AggPost w1 (.bool true))) :=
    Lib.hid fun w1 hb => few_b _ p true w1 ⟨vt, vc, rfl, (ht.below hwb).below hb, (hc.below hwb).below hb⟩ hs hf
  have HP1 : Hid (∀ w1, Below (w.alloc (.cells (progC vt p vc) 25)).heap.size (w.alloc (.cells (progC vt p vc) 25)) w1 → Calls Tryd.prog 10 #[.agg (progC vt p vc)] w1 (PrintPost w1 (printL p))) :=
    Lib.hid fun w1 hb => print_few _ p w1 ⟨vt, vc, rfl, (ht.below hwb).below hb, (hc.below hwb).below hb⟩ hs ((hA.below hwb).below hb) hf hl
  have HP2 : Hid (∀ w1, Below (w.alloc (.cells (progC vt p vc) 25)).heap.size (w.alloc (.cells (progC vt p vc) 25)) w1 → Calls Tryd.prog 10 #[.agg #[vt, str p.locals, str p.globs, .slice none 0 0]] w1 (PrintPost w1 (printL (noCode p)))) :=
    Lib.hid fun w1 hb => print_few _ (noCode p) w1 (noCode_at (p := p) (vc := vc) ((ht.below hwb).below hb)) (noCode_ok hs) ((hA.below hwb).below hb) (noCode_few hf) hl
  have HE1 := Lib.hid (printL_e p)
  have HE2 := Lib.hid (printL_e (noCode p))
  have HSP := Lib.hid (may_split p)
  have HOI := Lib.hid hs.ins
  have HW := Lib.hid hwb
  obtain ⟨a, c, rfl, h1, h2, h3⟩ := (ht.below hwb).elems
  obtain ⟨a', c', rfl, g1, g2, g3⟩ := hc.below hwb
  have HI := Lib.hid g3
  generalize printL p = R1 at *
  generalize printL (noCode p) = R2 at *
  clear ht hc hs hA hf hwb h3 g3
  unfold maxLen at h2 g2
  go_enter Tryd.func6, Tryd.ntmps6
  go_wp2_with (first
    | (go_at_call 8; refine HAL.out.mono ?_; rintro e w1 ⟨rfl, hb1⟩; have K1 := Lib.hid (blk_below (blk_new w (progC (.slice a p.types.length c) p (.slice a' p.code.length c')) 25) hb1); have s1 := hb1.size; rw [World.size_alloc] at s1; have HB1 := Lib.hid hb1; clear hb1 HAL)
    | (refine wpList_loadB rfl 25 _ rfl w.heap.size (progC (.slice a p.types.length c) p (.slice a' p.code.length c')) rfl 25 K1.out _ Tryd.underlying25 rfl prog_info ?_)
    | (go_at_call 9; refine (HF.out _ HB1.out).mono ?_; rintro e w2 ⟨rfl, hb2⟩; have K2 := Lib.hid (blk_below K1.out hb2); have kc := blk_cell K2.out 3 _ rfl; have s2 := hb2.size; have HB2 := Lib.hid (HB1.out.trans (hb2.mono (by rw [World.size_alloc]; omega))); clear hb2 HB1 HF K1))
  have hsw : (w.alloc (.cells (progC (.slice a p.types.length c) p (.slice a' p.code.length c')) 25)).heap.size = w.heap.size + 1 := World.size_alloc _ _
  generalize w.alloc (.cells (progC (.slice a p.types.length c) p (.slice a' p.code.length c')) 25) = WB at *
  clear kc
  go_loopw [3, 23] (fun x i wr => ∃ (k : Nat) (E : Bool), k ≤ p.code.length ∧ i = .int .i64 k ∧ x = .bool E ∧ Hid ((decide (p.code.length ≤ 200) && (p.code.take k).all rightL) = E) ∧ Below WB.heap.size WB wr ∧ blk wr w.heap.size (progC (.slice a p.types.length c) p (.slice a' p.code.length c')) 25) (fun _ i _ => p.code.length - (intOf i).toNat)
  case atStart => exact ⟨0, _, Nat.zero_le _, rfl, by first | rfl | (simp; omega), Lib.hid (by simp; omega), HB2.out, K2.out⟩
  case round =>
    obtain ⟨k, E, hk, rfl, rfl, hE, hbw, hkw⟩ := hrel
    have HBW := Lib.hid hbw
    have HKW := Lib.hid hkw
    have hsz := hbw.size
    clear hbw hkw K2 HB2
    by_cases hlt : k < p.code.length
    · obtain ⟨i, hi⟩ : ∃ i, p.code[k]? = some i := ⟨_, List.getElem?_eq_getElem hlt⟩
      obtain ⟨b, o, rfl, hb, hcell⟩ := HI.out k i hi
      have hr := Lib.hid (rangeAt_below hcell hb HBW.out)
      have hAW := Lib.hid ((HAW.out.below HBW.out).below ((Below.refl wr.heap.size wr).alloc (Nat.le_refl _) (.cells (insC i) 40)))
      have hoi := Lib.hid (HOI.out i (List.mem_of_getElem? hi))
      have HX := Lib.hid hi
      have hkk := Lib.hid (blk_alloc HKW.out (.cells (insC i) 40))
      clear hcell hb hi
      rcases E with _ | _
      · have HN : Hid ((decide (p.code.length ≤ 200) && (p.code.take (k + 1)).all rightL) = false) := Lib.hid (all_false HX.out hE.out)
        go_wp2_with (refine wpList_load_mid rfl 40 _ rfl b (o + k * 5) rfl (insC i).toList _ hr.out Tryd.underlying40 rfl ins_info ?_)
        go_roundw
        case rel => exact ⟨k + 1, false, by omega, by go_num, rfl, HN, HBW.out.alloc hsz _, hkk.out⟩
        case measure => simp [intOf]; omega
      · rcases hm : rightL i with _ | _
        · have HM := Lib.hid hm
          have HN : Hid ((decide (p.code.length ≤ 200) && (p.code.take (k + 1)).all rightL) = false) := Lib.hid (all_next_f HX.out HM.out)
          clear hm
          go_wp2_with (first
            | (refine wpList_load_mid rfl 40 _ rfl b (o + k * 5) rfl (insC i).toList _ hr.out Tryd.underlying40 rfl ins_info ?_)
            | (go_at_call 15; refine (right_b i false _ hAW.out.o hoi.out HM.out).mono ?_; rintro e w3 ⟨rfl, hb3⟩; have HB3 := Lib.hid hb3; clear hb3))
          go_roundw
          case rel => exact ⟨k + 1, false, by omega, by go_num, rfl, HN, (HBW.out.alloc hsz _).trans (HB3.out.mono (by simp; omega)), blk_below hkk.out HB3.out⟩
          case measure => simp [intOf]; omega
        · have HM := Lib.hid hm
          have HN : Hid ((decide (p.code.length ≤ 200) && (p.code.take (k + 1)).all rightL) = true) := Lib.hid (all_next_t HX.out HM.out hE.out)
          clear hm
          go_wp2_with (first
            | (refine wpList_load_mid rfl 40 _ rfl b (o + k * 5) rfl (insC i).toList _ hr.out Tryd.underlying40 rfl ins_info ?_)
            | (go_at_call 15; refine (right_b i true _ hAW.out.o hoi.out HM.out).mono ?_; rintro e w3 ⟨rfl, hb3⟩; have HB3 := Lib.hid hb3; clear hb3))
          go_roundw
          case rel => exact ⟨k + 1, true, by omega, by go_num, rfl, HN, (HBW.out.alloc hsz _).trans (HB3.out.mono (by simp; omega)), blk_below hkk.out HB3.out⟩
          case measure => simp [intOf]; omega
    · obtain rfl : k = p.code.length := by omega
      rw [List.take_length] at hE
      rw [hE.out] at HSP
      have HSP2 := Lib.hid (HSP.out)
      rcases hm1 : mayP (noCode p) with _ | _
      all_goals
        rw [hm1] at HE2
        rw [HSP2.out, hm1] at HE1
        obtain ⟨t1, n1⟩ := R1
        obtain ⟨t2, n2⟩ := R2
        have e1 := HE1.out
        have e2 := HE2.out
        clear HSP HSP2 hE hm1 HE1 HE2
        rcases E with _ | _
        all_goals
          simp at e1 e2
          subst e1 e2
          go_wp2_with (first
            | (refine wpList_loadB rfl 25 _ rfl w.heap.size (progC (.slice a p.types.length c) p (.slice a' p.code.length c')) rfl 25 HKW.out _ Tryd.underlying25 rfl prog_info ?_)
            | (go_at_call 10; refine (HP1.out _ HBW.out).mono ?_; rintro e w4 ⟨rfl, hb4⟩; clear HP1; have K4 := Lib.hid (blk_below HKW.out hb4); have HB4 := Lib.hid (HBW.out.trans (hb4.mono hsz)); have s4 := hb4.size; clear hb4)
            | (refine wpList_loadB rfl 25 _ rfl w.heap.size (progC (.slice a p.types.length c) p (.slice a' p.code.length c')) rfl 25 K4.out _ Tryd.underlying25 rfl prog_info ?_)
            | (go_at_call 10; refine (HP2.out _ (HB4.out.alloc (by omega) _)).mono ?_; rintro e w5 ⟨rfl, hb5⟩; have HB5 := Lib.hid hb5; clear hb5))
          go_ret
          have b5 := HB5.out
          rw [World.size_alloc] at b5
          exact ⟨rfl, (HW.out.trans ((HB4.out.alloc (by omega) _).mono (by omega))).trans (b5.mono (by omega))⟩

theorem each_walk (v : Value) (p : PProg) (w : World) (h : ProgAt w v p) (hs : OkP p) (hl : p.types.length ≤ 8796093022208) (hA : HasAll w) : Calls Tryd.prog 6 #[v] w fun e w' => e = .returned (.bool true) ∧ Below w.heap.size w w' := by
  rcases hf : fewP p with _ | _
  · exact each_big v p w h hs hA hf
  · exact each_few v p w h hs hA hf hl
end Go.Proofs.YtgmpggjikebcdaaDoor
