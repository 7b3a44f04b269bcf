/-
  CheckEach: the walk.
-/
import Derived.Test.YtclkccbihnccgaaDoorHLaw6
namespace Go.Proofs.YtclkccbihnccgaaDoor
open Go.RowKit

set_option maxRecDepth 100000 in
set_option maxHeartbeats 1000000 in
theorem each_no (w W0 : World) (p : PProg) (b : Bool) (x x' : Option Addr) (k k' : Nat)
    (hW0 : W0 = w.alloc (.cells #[.slice x p.types.length k, str p.locals, str p.globs, .slice x' p.code.length k'] 25))
    (KP : Hid (Keep W0 w.heap.size (.slice x p.types.length k) (.slice x' p.code.length k') p)) (HS : Hid (Below w.heap.size w W0))
    (HAL : Hid (∀ w1, Below W0.heap.size W0 w1 → Calls Tryd.prog 8 #[] w1 (AggPost w1 (.bool true))))
    (HF : Hid (∀ w1, Below W0.heap.size W0 w1 → Calls Tryd.prog 9 #[.agg #[.slice x p.types.length k, str p.locals, str p.globs, .slice x' p.code.length k']] w1 (AggPost w1 (.bool b))))
    (hno : Hid (b = false ∨ p.code.length < 1 ∨ 60 < p.code.length)) :
    Calls Tryd.prog 6 #[.agg #[.slice x p.types.length k, str p.locals, str p.globs, .slice x' p.code.length k']] w (AggPost w (.bool true)) := by
  have HB := Lib.hid (Below.refl W0.heap.size W0)
  go_enter Tryd.func6, Tryd.ntmps6
  go_wp2_with (fail)
  rw [← hW0]
  clear hW0
  rcases b with _ | _
  · go_wp2_with (first
      | (refine wpList_loadB rfl 25 _ rfl w.heap.size (progC (.slice x p.types.length k) p (.slice x' p.code.length k')) rfl 25 KP.out.blk _ Tryd.underlying25 rfl prog_info ?_)
      | (go_at_call 8; refine (HAL.out _ HB.out).mono ?_; rintro e1 w1 ⟨rfl, hb⟩; have HB := Lib.hid (HB.out.trans (hb.mono HB.out.size)); have KP := Lib.hid (KP.out.below hb); clear hb)
      | (go_at_call 9; refine (HF.out _ HB.out).mono ?_; rintro e1 w1 ⟨rfl, hb⟩; have HB := Lib.hid (HB.out.trans (hb.mono HB.out.size)); clear hb))
    go_ret
    exact ⟨rfl, HS.out.trans (HB.out.mono HS.out.size)⟩
  by_cases h1 : p.code.length < 1
  · go_wp2_with (first
      | (refine wpList_loadB rfl 25 _ rfl w.heap.size (progC (.slice x p.types.length k) p (.slice x' p.code.length k')) rfl 25 KP.out.blk _ Tryd.underlying25 rfl prog_info ?_)
      | (go_at_call 8; refine (HAL.out _ HB.out).mono ?_; rintro e1 w1 ⟨rfl, hb⟩; have HB := Lib.hid (HB.out.trans (hb.mono HB.out.size)); have KP := Lib.hid (KP.out.below hb); clear hb)
      | (go_at_call 9; refine (HF.out _ HB.out).mono ?_; rintro e1 w1 ⟨rfl, hb⟩; have HB := Lib.hid (HB.out.trans (hb.mono HB.out.size)); have KP := Lib.hid (KP.out.below hb); clear hb; obtain ⟨p0, p1, p2, p3⟩ := KP.out.cells))
    all_goals
      go_ret
      exact ⟨rfl, HS.out.trans (HB.out.mono HS.out.size)⟩
  have h2 : 60 < p.code.length := by
    rcases hno.out with h | h | h
    · cases h
    · omega
    · exact h
  clear hno
  go_wp2_with (first
    | (refine wpList_loadB rfl 25 _ rfl w.heap.size (progC (.slice x p.types.length k) p (.slice x' p.code.length k')) rfl 25 KP.out.blk _ Tryd.underlying25 rfl prog_info ?_)
    | (go_at_call 8; refine (HAL.out _ HB.out).mono ?_; rintro e1 w1 ⟨rfl, hb⟩; have HB := Lib.hid (HB.out.trans (hb.mono HB.out.size)); have KP := Lib.hid (KP.out.below hb); clear hb)
    | (go_at_call 9; refine (HF.out _ HB.out).mono ?_; rintro e1 w1 ⟨rfl, hb⟩; have HB := Lib.hid (HB.out.trans (hb.mono HB.out.size)); have KP := Lib.hid (KP.out.below hb); clear hb; obtain ⟨p0, p1, p2, p3⟩ := KP.out.cells))
  go_ret
  exact ⟨rfl, HS.out.trans (HB.out.mono HS.out.size)⟩

def firstAt (a m : Nat) : Int := if a < m then (a : Int) else -1
set_option maxRecDepth 100000 in
set_option maxHeartbeats 16000000 in
theorem each_ok' (w W0 : World) (p : PProg) (z e : Int) (nf : Nat → Int × Int) (a : Nat) (x x' : Option Addr) (k k' : Nat)
    (hW0 : W0 = w.alloc (.cells #[.slice x p.types.length k, str p.locals, str p.globs, .slice x' p.code.length k'] 25))
    (KP : Hid (Keep W0 w.heap.size (.slice x p.types.length k) (.slice x' p.code.length k') p)) (HS : Hid (Below w.heap.size w W0)) (h1 : 1 ≤ p.code.length) (h60 : p.code.length ≤ 60)
    (HAL : Hid (∀ w1, Below W0.heap.size W0 w1 → Calls Tryd.prog 8 #[] w1 (AggPost w1 (.bool true))))
    (HF : Hid (∀ w1, Below W0.heap.size W0 w1 → Calls Tryd.prog 9 #[.agg #[.slice x p.types.length k, str p.locals, str p.globs, .slice x' p.code.length k']] w1 (AggPost w1 (.bool true))))
    (HC : Hid (∀ w1, Below W0.heap.size W0 w1 → Calls Tryd.prog 10 #[.agg #[.slice x p.types.length k, str p.locals, str p.globs, .slice x' p.code.length k']] w1 (ChkPost w1 z e)))
    (HCE : Hid (∀ v w1 m i, p.code[m]? = some i → ProgAt w1 v (eachP p m i) → Below W0.heap.size W0 w1 → Calls Tryd.prog 10 #[v] w1 (ChkPost w1 (nf m).1 (nf m).2)))
    (HCO : Hid (InsRow W0 (.slice x' p.code.length k') p.code)) (HTY : Hid (RowAt W0 (.slice x p.types.length k) (p.types.map str)))
    (ha : a ≤ p.code.length) (HN1 : Hid (∀ m, m < a → (nf m).2 = 0)) (HN2 : Hid (a < p.code.length → (nf a).2 = e ∧ e ≠ 0 ∧ (0 ≤ z → (nf a).1 = z ∧ z = a))) (HN3 : Hid (a = p.code.length → e = 0 ∧ z < 0)) :
    Calls Tryd.prog 6 #[.agg #[.slice x p.types.length k, str p.locals, str p.globs, .slice x' p.code.length k']] w (AggPost w (.bool true)) := by
  have HB := Lib.hid (Below.refl W0.heap.size W0)
  have hwl := blk_lt KP.out.blk
  go_enter Tryd.func6, Tryd.ntmps6
  go_wp2_with (fail)
  rw [← hW0]
  clear hW0
  go_wp2_with (first
    | (refine wpList_loadB rfl 25 _ rfl w.heap.size (progC (.slice x p.types.length k) p (.slice x' p.code.length k')) rfl 25 KP.out.blk _ Tryd.underlying25 rfl prog_info ?_)
    | (go_at_call 8; refine (HAL.out _ HB.out).mono ?_; rintro e1 w1 ⟨rfl, hb⟩; have HB := Lib.hid (HB.out.trans (hb.mono HB.out.size)); have KP := Lib.hid (KP.out.below hb); clear hb)
    | (go_at_call 9; refine (HF.out _ HB.out).mono ?_; rintro e1 w2 ⟨rfl, hb⟩; have HB := Lib.hid (HB.out.trans (hb.mono HB.out.size)); have KP := Lib.hid (KP.out.below hb); clear hb; obtain ⟨p0, p1, p2, p3⟩ := KP.out.cells)
    | (go_at_call 10; refine (HC.out _ HB.out).mono ?_; rintro e1 w3 ⟨rfl, hb⟩; have HB := Lib.hid (HB.out.trans (hb.mono HB.out.size)); have KP := Lib.hid (KP.out.below hb); clear hb p0 p1 p2 p3; obtain ⟨p0, p1, p2, p3⟩ := KP.out.cells))
  clear p0 p1 p2 p3
  go_loopw [5, 36] (fun u v wr => ∃ m : Nat, m ≤ p.code.length ∧ v = .int .i64 m ∧ u = .int .i64 (firstAt a m) ∧ Hid (Below W0.heap.size W0 wr) ∧ Hid (Keep wr w.heap.size (.slice x p.types.length k) (.slice x' p.code.length k') p)) (fun _ v _ => p.code.length - (intOf v).toNat)
  case atStart => exact ⟨0, Nat.zero_le _, rfl, by simp [firstAt], HB, KP⟩
  case round =>
    obtain ⟨m, hm, rfl, rfl, hbw, hkw⟩ := hrel
    clear HB KP
    by_cases hlt : m < p.code.length
    · obtain ⟨i, hi⟩ : ∃ i, p.code[m]? = some i := ⟨_, List.getElem?_eq_getElem hlt⟩
      obtain ⟨x1, k1, ex, _, _, hcc⟩ := HCO.out
      simp only [Value.slice.injEq] at ex
      obtain ⟨rfl, -, rfl⟩ := ex
      obtain ⟨b, o, rfl, hb, hcell⟩ := hcc m i hi
      have hr := Lib.hid (rangeAt_below hcell hb hbw.out)
      have HI := Lib.hid hi
      have hsz := hbw.out.size
      have hba := hbw.out.alloc hsz (.cells (insC i) 32)
      have hka := hkw.out.below ((Below.refl wr.heap.size wr).alloc (Nat.le_refl _) (.cells (insC i) 32))
      have hia := blk_new wr (insC i) 32
      have KPA := Lib.hid hka
      clear hcell hb hi hcc
      go_upto_region 12 with (first
        | (refine wpList_load_mid rfl 32 _ rfl b (o + m * 5) rfl (insC i).toList _ hr.out Tryd.underlying32 rfl ins_info ?_)
        | (refine wpList_loadB rfl 25 _ rfl w.heap.size (progC (.slice x p.types.length k) p (.slice (some ⟨b, o, none⟩) p.code.length k')) rfl 25 KPA.out.blk _ Tryd.underlying25 rfl prog_info ?_))
      have hsz1 : (wr.alloc (.cells (insC i) 32)).heap.size = wr.heap.size + 1 := World.size_alloc _ _
      have hE : EIn W0 ((wr.alloc (.cells (insC i) 32)).alloc (.cells #[.slice x p.types.length k, str p.locals, str p.globs, .slice none 0 0] 25)) w.heap.size wr.heap.size (wr.heap.size + 1) (.slice x p.types.length k) (.slice (some ⟨b, o, none⟩) p.code.length k') (.slice none 0 0) p i 0 := by
        refine ⟨hba.alloc (by omega) _, hka.below ((Below.refl _ _).alloc (Nat.le_refl _) _), blk_alloc hia _, ?_, World.ownsRow_nil _ _ _ _⟩
        have := blk_new (wr.alloc (.cells (insC i) 32)) #[.slice x p.types.length k, str p.locals, str p.globs, .slice none 0 0] 25
        rw [hsz1] at this
        exact this
      have p3 := hE.kp.cells.2.2.2
      have HE := Lib.hid hE
      have hI := hsz
      have hwl' : w.heap.size < wr.heap.size := by omega
      clear hba hka hia hE KPA hr
      generalize (wr.alloc (.cells (insC i) 32)).alloc (.cells #[.slice x p.types.length k, str p.locals, str p.globs, .slice none 0 0] 25) = W5 at *
      clear hsz1 hbw hkw
      generalize wr.heap.size = I at *
      go_wp2
      clear p3
      go_loopw [46] (fun v wq => ∃ (j : Nat) (vc : Value), j ≤ p.code.length ∧ v = .int .i64 j ∧ Hid (EIn W0 wq w.heap.size I (I + 1) (.slice x p.types.length k) (.slice (some ⟨b, o, none⟩) p.code.length k') vc p i j)) (fun v _ => p.code.length - (intOf v).toNat)
      case atStart => exact ⟨0, _, Nat.zero_le _, rfl, HE⟩
      case round =>
        obtain ⟨j, vc, hj, rfl, hE⟩ := hrel
        clear HE
        by_cases hjl : j < p.code.length
        · have hform := hE.out.form
          have hq3 := blk_cell hE.out.kq 3 _ rfl
          have hqlt := blk_lt hE.out.kq
          have HSRC := Lib.hid (insRow_blk (is := [prI]) (blk_new wr (insC prI) 32) rfl (by decide))
          have hrep : (List.replicate j prI).length = j := List.length_replicate ..
          have HREP := Lib.hid hrep
          have HROW := Lib.hid (show (wr.alloc (.cells (insC prI) 32)).ownsRow (I + 1 + 1) 32 5 vc (List.replicate j prI).length (codeCells (List.replicate j prI)) by rw [hrep]; exact hE.out.row.alloc _)
          have hq4 := blk_cell (blk_alloc hE.out.kq (.cells (insC prI) 32)) 3 _ rfl
          clear hrep
          rcases hform with ⟨rfl, rfl⟩ | ⟨g, cap, rfl⟩
          all_goals
            go_wp2_with (at_builtin; refine wpList_append_ins rfl _ _ rfl (I + 1 + 1) _ (List.replicate _ prI) [prI] rfl HROW.out _ rfl HSRC.out ?_ ?_ ?_ ?_)
            · exact .inr ⟨_, _, _, rfl⟩
            · rw [HREP.out]; simp <;> omega
            · simp; omega
            · intro v' w' ho hb
              obtain ⟨g2, cap2, rfl⟩ : ∃ g cap, v' = .slice (some ⟨g, 0, none⟩) (_ + 1) cap := by
                rcases ownsRow_forms ho with ⟨_, h⟩ | h
                · omega
                · exact h
              have hb' := ((Below.refl (I + 1 + 1) wr).alloc (by omega) (.cells (insC prI) 32)).trans hb
              have HEN := Lib.hid (hE.out.next hwl' (Nat.lt_succ_self I) hI hb' ho HTY.out HCO.out)
              have kq' := hE.out.q' hb'
              have hq5 := blk_cell kq' 3 _ rfl
              have hf5 := blk_frozen kq' 3
              clear ho hb hb' kq' hq4 hq3
              go_wp2
              go_roundw
              case rel => exact ⟨_, _, by omega, by go_num, HEN⟩
              case measure => simp [intOf]; omega
        · obtain rfl : j = p.code.length := by omega
          obtain ⟨g, cap, rfl⟩ : ∃ g cap, vc = .slice (some ⟨g, 0, none⟩) p.code.length cap := by
            rcases hE.out.form with ⟨_, h⟩ | h
            · omega
            · exact h
          obtain ⟨hth, hbp, hkp2, hkq2⟩ := hE.out.put hlt hwl' (Nat.lt_succ_self I) hI HTY.out HCO.out
          obtain ⟨W8, hW8⟩ : ∃ W8, wr.setCells g (m * 5) (insC i).toList = W8 := ⟨_, rfl⟩
          rw [hW8] at hbp hkp2 hkq2
          have HW8 := Lib.hid hW8
          clear hW8
          have hq3 := blk_cell hE.out.kq 3 _ rfl
          have KI := Lib.hid hE.out.ki
          have HTH := Lib.hid hth
          have HB8 := Lib.hid hbp
          have KP8 := Lib.hid hkp2
          have KE := Lib.hid hkq2
          have hcall := HCE.out _ _ m i HI.out hkq2.at' hbp
          clear hth hbp hkp2 hkq2 hE
          rcases Nat.lt_trichotomy m a with hma | hma | hma
          · have f0 := HN1.out m hma
            generalize (nf m).1 = zn at *
            generalize (nf m).2 = fn at *
            subst f0
            have hfa : firstAt a (m + 1) = firstAt a m := by unfold firstAt; rw [if_neg (by omega), if_neg (by omega)]
            have HFA := Lib.hid hfa
            have HCALL := Lib.hid hcall
            clear hfa hcall
            go_upto_region 18 with (first
              | (refine wpList_loadB rfl 32 _ rfl I (insC i) rfl 32 KI.out _ Tryd.underlying32 rfl ins_info ?_)
              | (refine wpList_putI (o := ⟨none, .store 32 (.tmp 59) (.tmp 58), 0, _, _, none⟩) rfl rfl (.tmp 59) (.tmp 58) rfl g (m * 5) i rfl rfl HTH.out HW8.out ?_)
              | (refine wpList_loadB rfl 25 _ rfl (I + 1) (progC (.slice x p.types.length k) (eachP p m i) (.slice (some ⟨g, 0, none⟩) p.code.length cap)) rfl 25 KE.out.blk _ Tryd.underlying25 rfl prog_info ?_)
              | (go_at_call 10; refine HCALL.out.mono ?_; rintro e1 w9 ⟨rfl, hb⟩; have HB9 := Lib.hid (HB8.out.trans (hb.mono HB8.out.size)); have KP9 := Lib.hid (KP8.out.below hb); clear hb))
            clear hq3 KE HTH HB8 KP8 HCALL KI HW8
            go_wp2
            go_roundw
            case rel => exact ⟨m + 1, by omega, by go_num, by rw [HFA.out], HB9, KP9⟩
            case measure => simp [intOf]; omega
          · obtain ⟨hf, he0, hzz⟩ := HN2.out (by omega)
            rw [← hma] at hf hzz
            generalize (nf m).1 = zn at *
            generalize (nf m).2 = fn at *
            subst hf
            have hfl : firstAt a m < 0 := by unfold firstAt; rw [if_neg (by omega)]; decide
            have e3 : (fn != 0) = true := by simp [he0]
            have e4 : (fn != fn) = false := by simp
            have HFA : Hid (firstAt a (m + 1) = (m : Int)) := Lib.hid (by unfold firstAt; rw [if_pos (by omega), hma])
            have HCALL := Lib.hid hcall
            clear hcall he0 hma
            by_cases hz0 : 0 ≤ z
            · have e5 : (zn != z) = false := by simp [(hzz hz0).1]
              clear hzz
              go_upto_region 18 with (first
                | (refine wpList_loadB rfl 32 _ rfl I (insC i) rfl 32 KI.out _ Tryd.underlying32 rfl ins_info ?_)
                | (refine wpList_putI (o := ⟨none, .store 32 (.tmp 59) (.tmp 58), 0, _, _, none⟩) rfl rfl (.tmp 59) (.tmp 58) rfl g (m * 5) i rfl rfl HTH.out HW8.out ?_)
                | (refine wpList_loadB rfl 25 _ rfl (I + 1) (progC (.slice x p.types.length k) (eachP p m i) (.slice (some ⟨g, 0, none⟩) p.code.length cap)) rfl 25 KE.out.blk _ Tryd.underlying25 rfl prog_info ?_)
                | (go_at_call 10; refine HCALL.out.mono ?_; rintro e1 w9 ⟨rfl, hb⟩; have HB9 := Lib.hid (HB8.out.trans (hb.mono HB8.out.size)); have KP9 := Lib.hid (KP8.out.below hb); clear hb))
              clear hq3 KE HTH HB8 KP8 HCALL KI HW8
              go_wp2
              go_roundw
              case rel => exact ⟨m + 1, by omega, by go_num, by rw [HFA.out], HB9, KP9⟩
              case measure => simp [intOf]; omega
            · clear hzz
              go_upto_region 18 with (first
                | (refine wpList_loadB rfl 32 _ rfl I (insC i) rfl 32 KI.out _ Tryd.underlying32 rfl ins_info ?_)
                | (refine wpList_putI (o := ⟨none, .store 32 (.tmp 59) (.tmp 58), 0, _, _, none⟩) rfl rfl (.tmp 59) (.tmp 58) rfl g (m * 5) i rfl rfl HTH.out HW8.out ?_)
                | (refine wpList_loadB rfl 25 _ rfl (I + 1) (progC (.slice x p.types.length k) (eachP p m i) (.slice (some ⟨g, 0, none⟩) p.code.length cap)) rfl 25 KE.out.blk _ Tryd.underlying25 rfl prog_info ?_)
                | (go_at_call 10; refine HCALL.out.mono ?_; rintro e1 w9 ⟨rfl, hb⟩; have HB9 := Lib.hid (HB8.out.trans (hb.mono HB8.out.size)); have KP9 := Lib.hid (KP8.out.below hb); clear hb))
              clear hq3 KE HTH HB8 KP8 HCALL KI HW8
              go_wp2
              go_roundw
              case rel => exact ⟨m + 1, by omega, by go_num, by rw [HFA.out], HB9, KP9⟩
              case measure => simp [intOf]; omega
          · generalize (nf m).1 = zn at *
            generalize (nf m).2 = fn at *
            have hfl : ¬ firstAt a m < 0 := by unfold firstAt; rw [if_pos hma]; omega
            have HFA : Hid (firstAt a (m + 1) = firstAt a m) := Lib.hid (by unfold firstAt; rw [if_pos (by omega), if_pos hma])
            have HCALL := Lib.hid hcall
            clear hcall
            by_cases hf0 : fn = 0
            · subst hf0
              go_upto_region 18 with (first
                | (refine wpList_loadB rfl 32 _ rfl I (insC i) rfl 32 KI.out _ Tryd.underlying32 rfl ins_info ?_)
                | (refine wpList_putI (o := ⟨none, .store 32 (.tmp 59) (.tmp 58), 0, _, _, none⟩) rfl rfl (.tmp 59) (.tmp 58) rfl g (m * 5) i rfl rfl HTH.out HW8.out ?_)
                | (refine wpList_loadB rfl 25 _ rfl (I + 1) (progC (.slice x p.types.length k) (eachP p m i) (.slice (some ⟨g, 0, none⟩) p.code.length cap)) rfl 25 KE.out.blk _ Tryd.underlying25 rfl prog_info ?_)
                | (go_at_call 10; refine HCALL.out.mono ?_; rintro e1 w9 ⟨rfl, hb⟩; have HB9 := Lib.hid (HB8.out.trans (hb.mono HB8.out.size)); have KP9 := Lib.hid (KP8.out.below hb); clear hb))
              clear hq3 KE HTH HB8 KP8 HCALL KI HW8
              go_wp2
              go_roundw
              case rel => exact ⟨m + 1, by omega, by go_num, by rw [HFA.out], HB9, KP9⟩
              case measure => simp [intOf]; omega
            · have e3 : (fn != 0) = true := by simp [hf0]
              clear hf0
              go_upto_region 18 with (first
                | (refine wpList_loadB rfl 32 _ rfl I (insC i) rfl 32 KI.out _ Tryd.underlying32 rfl ins_info ?_)
                | (refine wpList_putI (o := ⟨none, .store 32 (.tmp 59) (.tmp 58), 0, _, _, none⟩) rfl rfl (.tmp 59) (.tmp 58) rfl g (m * 5) i rfl rfl HTH.out HW8.out ?_)
                | (refine wpList_loadB rfl 25 _ rfl (I + 1) (progC (.slice x p.types.length k) (eachP p m i) (.slice (some ⟨g, 0, none⟩) p.code.length cap)) rfl 25 KE.out.blk _ Tryd.underlying25 rfl prog_info ?_)
                | (go_at_call 10; refine HCALL.out.mono ?_; rintro e1 w9 ⟨rfl, hb⟩; have HB9 := Lib.hid (HB8.out.trans (hb.mono HB8.out.size)); have KP9 := Lib.hid (KP8.out.below hb); clear hb))
              clear hq3 KE HTH HB8 KP8 HCALL KI HW8
              go_wp2
              go_roundw
              case rel => exact ⟨m + 1, by omega, by go_num, by rw [HFA.out], HB9, KP9⟩
              case measure => simp [intOf]; omega
    · obtain rfl : m = p.code.length := by omega
      rcases Nat.lt_or_ge a p.code.length with hma | hma
      · obtain ⟨_, he0, hzz⟩ := HN2.out hma
        have hfa : firstAt a p.code.length = a := by unfold firstAt; rw [if_pos hma]
        rw [hfa]
        have e3 : (e != 0) = true := by simp [he0]
        clear he0 hfa
        by_cases hz0 : 0 ≤ z
        · obtain ⟨-, rfl⟩ := hzz hz0
          have e5 : ((a : Int) == (a : Int)) = true := by simp
          clear hzz
          go_wp2
          go_ret
          exact ⟨rfl, HS.out.trans (hbw.out.mono HS.out.size)⟩
        · clear hzz
          go_wp2
          go_ret
          exact ⟨rfl, HS.out.trans (hbw.out.mono HS.out.size)⟩
      · obtain ⟨rfl, hz0⟩ := HN3.out (by omega)
        have hfa : firstAt a p.code.length = -1 := by unfold firstAt; rw [if_neg (by omega)]
        rw [hfa]
        clear hfa
        go_wp2
        go_ret
        exact ⟨rfl, HS.out.trans (hbw.out.mono HS.out.size)⟩
end Go.Proofs.YtclkccbihnccgaaDoor
