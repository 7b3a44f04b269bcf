/-
  The program's leak: who asks each instruction; Leaks where nothing is.
-/
import Derived.Test.YtcjhgibhenocpaaGreatDoorUBI
import Derived.Deep.CutRange
import Derived.Laws.EntriesVeiled
namespace Go.Proofs.YtcjhgibhenocpaaGreatDoor
set_option linter.unusedSimpArgs false
set_option linter.unusedVariables false
open Go.RowKit

theorem jB (w : World) (n : Nat) : Below w.heap.size w (w.drewN n) := ⟨rfl, rfl, rfl, Nat.le_refl _, fun _ _ => rfl⟩
section
variable {q : PProg}
theorem leak_any {M : Nat → Nat → Bool} (hc : (checkL q).2 = 0) (hok : ∀ i ∈ q.code, OkI i) (hw : WayM q M) {i : PIns} {k y : Nat} (hi : q.code[k]? = some i) (h5 : i.op = 5) (hy : i.a = (y : Int)) (hyn : y < q.locals.length) :
    (q.code.any fun j => storB q j && M y j.b.toNat) = leakB q k := by
  rw [Bool.eq_iff_iff, List.any_eq_true, leakB_iff]
  constructor
  · rintro ⟨j, hj, h⟩
    rw [Bool.and_eq_true] at h
    unfold storB at h
    simp only [Bool.and_eq_true, Bool.or_eq_true, beq_iff_eq, decide_eq_true_eq] at h
    obtain ⟨⟨ho, _⟩, hM⟩ := h
    have b0 := (hok j hj).b0
    have hm := may_way hok hw hi h5 hy hyn j.b.toNat
    rw [Int.toNat_of_nonneg b0, hM] at hm
    exact ⟨j, hj, ho, mayB_iff.1 hm⟩
  · rintro ⟨j, hj, ho, hm⟩
    have b0 := (hok j hj).b0
    have h1 := may_way hok hw hi h5 hy hyn j.b.toNat
    rw [Int.toNat_of_nonneg b0, mayB_iff.2 hm] at h1
    obtain ⟨i2, hi2, h52, hl2⟩ := may_new hc hm
    have hl := (local_lt (check_ok hc).1 b0 (by rw [← hl2]; exact new_local hc (List.mem_of_getElem? hi2) h52)).1
    refine ⟨j, hj, ?_⟩
    rw [Bool.and_eq_true]
    unfold storB
    simp only [Bool.and_eq_true, Bool.or_eq_true, beq_iff_eq, decide_eq_true_eq]
    exact ⟨⟨ho, hl⟩, h1.symm⟩
theorem leakV_no (hc : (checkL q).2 = 0) {k : Int} (h : k < 0 ∨ ∀ i, q.code[k.toNat]? = some i → i.op ≠ 5) : leakV q k = false := by
  unfold leakV
  rcases h with h | h
  · have : ¬ (0 ≤ k) := by omega
    simp [this]
  · rw [leakB_no.2 (fun hl => by obtain ⟨i, hi, h5⟩ := leak_new hc hl; exact h i hi h5), Bool.and_false]
end

/-! ### The closure over each instruction, and who asks it -/
set_option maxRecDepth 100000 in
set_option maxHeartbeats 4000000 in
theorem jleaksC_at (op ia c n : Int) (x m : Nat) (w W0 : World) (J J2 R Pb : Nat) (s r : Bool) (row : Nat → Bool)
    (hW0 : W0 = w.alloc (.cells (insC ⟨op, ia, (x : Int), c, n⟩) 60)) (HB : Hid (Below w.heap.size w W0)) (HI : Hid (blk W0 w.heap.size (insC ⟨op, ia, (x : Int), c, n⟩) 60))
    (HJ : Hid (blk w J #[.func (.func 112) #[] #[.pointer (some ⟨Pb, 0, none⟩)]] 120)) (HJ2 : Hid (blk w J2 #[.slice (some ⟨R, 0, none⟩) m m] 123)) (HR : Hid (blk w R (boolRow m row) 4)) (hs : s = true → x < m) (hm : m ≤ 1000) (hr : Hid ((s && row x) = r))
    (HST : Hid (∀ w1, Below w.heap.size w w1 → Calls Tryz.prog 71 #[.agg (insC ⟨op, ia, (x : Int), c, n⟩), .func (.func 112) #[] #[.pointer (some ⟨Pb, 0, none⟩)]] w1 (AggPost w1 (.bool s)))) :
    Calls Tryz.prog 70 #[.agg (insC ⟨op, ia, (x : Int), c, n⟩), .pointer (some ⟨J, 0, none⟩), .pointer (some ⟨J2, 0, none⟩)] w (AggPost w (.bool r)) := by
  have e0 : W0.cell? ⟨J, 0, none⟩ = some (.func (.func 112) #[] #[.pointer (some ⟨Pb, 0, none⟩)]) := blk_cell (blk_below HJ.out HB.out) 0 _ rfl
  have HC : Hid (∀ w1, Below w.heap.size w w1 → w1.cell? ⟨J2, 0, none⟩ = some (.slice (some ⟨R, 0, none⟩) m m) ∧ (x < m → w1.cell? ⟨R, x, none⟩ = some (.bool (row x)))) := Lib.hid fun w1 hb => ⟨blk_cell (blk_below HJ2.out hb) 0 _ rfl, fun hx => blk_cell (blk_below HR.out hb) x _ (boolRow_get hx)⟩
  clear HJ HJ2 HR
  rcases s with _ | _
  · have hr2 := hr.out
    rw [Bool.false_and] at hr2
    subst hr2
    clear hs hr HC
    go_enter Tryz.func70, Tryz.ntmps70
    go_upto_region 1 with (fail)
    rw [← hW0]
    clear hW0
    go_wp2_with (first
      | (refine wpList_loadB rfl 60 _ rfl w.heap.size (insC ⟨op, ia, (x : Int), c, n⟩) rfl 60 HI.out _ Tryz.underlying60 rfl ins_info ?_)
      | (go_at_call 71; ((with_reducible refine (HST.out _ HB.out).mono ?_); rintro e w1 ⟨rfl, hb⟩; have HB1 := Lib.hid (HB.out.trans (hb.mono HB.out.size)); clear hb)))
    go_ret
    exact ⟨rfl, HB1.out⟩
  · have hr2 := hr.out
    rw [Bool.true_and] at hr2
    have hxm := hs rfl
    have hxi : (x : Int) < (m : Int) := by omega
    rw [hr2] at HC
    clear hs hr hr2
    go_enter Tryz.func70, Tryz.ntmps70
    go_upto_region 1 with (fail)
    rw [← hW0]
    clear hW0
    go_wp2_with (first
      | (refine wpList_loadB rfl 60 _ rfl w.heap.size (insC ⟨op, ia, (x : Int), c, n⟩) rfl 60 HI.out _ Tryz.underlying60 rfl ins_info ?_)
      | (go_at_call 71; ((with_reducible refine (HST.out _ HB.out).mono ?_); rintro e w1 ⟨rfl, hb⟩; have HB1 := Lib.hid (HB.out.trans (hb.mono HB.out.size)); have c2 : w1.cell? ⟨w.heap.size, 2, none⟩ = some (.int .u8 (x : Int)) := blk_cell (blk_below HI.out hb) 2 _ rfl; obtain ⟨cj, cr⟩ := HC.out _ HB1.out; have cr := cr hxm; clear hb)))
    go_ret
    exact ⟨rfl, HB1.out⟩
theorem jleaksC_n (i : PIns) (w : World) (p : PProg) (J J2 R Pb m : Nat) (row : Nat → Bool) (hm : m = p.locals.length) (hl : p.locals.length ≤ 200) (hi : OkI i)
    (HJ : blk w J #[.func (.func 112) #[] #[.pointer (some ⟨Pb, 0, none⟩)]] 120) (HJ2 : blk w J2 #[.slice (some ⟨R, 0, none⟩) m m] 123) (HR : blk w R (boolRow m row) 4) (hT : ThW w Pb p) :
    Calls Tryz.prog 70 #[.agg (insC i), .pointer (some ⟨J, 0, none⟩), .pointer (some ⟨J2, 0, none⟩)] w (AggPost w (.bool (storB p i && row i.b.toNat))) := by
  obtain ⟨op, ia, b, c, n⟩ := i
  obtain ⟨x, hx⟩ : ∃ x : Nat, b = (x : Int) := ⟨b.toNat, by have := hi.b0; dsimp only at this; omega⟩
  subst hx
  refine jleaksC_at op ia c n x m w _ J J2 R Pb (storB p ⟨op, ia, (x : Int), c, n⟩) _ row rfl (Lib.hid ((Below.refl _ _).alloc (Nat.le_refl _) _)) (Lib.hid (blk_new _ _ _)) (Lib.hid HJ) (Lib.hid HJ2) (Lib.hid HR) (fun h => ?_) (by omega) (Lib.hid rfl) (Lib.hid fun w1 hb => jstores_n _ w1 Pb p (hT.below hb) hl hi)
  unfold storB at h
  simp only [Bool.and_eq_true, decide_eq_true_eq] at h
  omega
def IdxPost (w : World) (b : Bool) (e : Ending) (w' : World) : Prop := ∃ k : Int, e = .returned (.int .i64 k) ∧ decide (0 ≤ k) = b ∧ k ≤ 1000 ∧ Below w.heap.size w w'
set_option maxRecDepth 100000 in
set_option maxHeartbeats 4000000 in
theorem jidx_n (w : World) (p : PProg) (bb o k' J J2 : Nat) (F : PIns → Bool) (hlen : p.code.length ≤ 200) (g1 : p.code.length ≤ k') (g2 : k' ≤ 9223372036854775807) (hbb : bb < w.heap.size)
    (HCO : Hid (∀ m i, p.code[m]? = some i → w.rangeAt bb (o + m * 5) (insC i).toList))
    (HF : Hid (∀ w1 i, Below w.heap.size w w1 → i ∈ p.code → Calls Tryz.prog 70 #[.agg (insC i), .pointer (some ⟨J, 0, none⟩), .pointer (some ⟨J2, 0, none⟩)] w1 (AggPost w1 (.bool (F i))))) :
    Calls Tryz.prog 114 #[.slice (some ⟨bb, o, none⟩) p.code.length k', .func (.func 70) #[] #[.pointer (some ⟨J, 0, none⟩), .pointer (some ⟨J2, 0, none⟩)]] w (IdxPost w (p.code.any F)) := by
  go_enter Tryz.func114, Tryz.ntmps114
  go_wp2_with (fail)
  go_loopw [8] (fun v8 wr => ∃ m : Nat, m ≤ p.code.length ∧ v8 = .int .i64 m ∧ Hid (Below w.heap.size w wr) ∧ Hid ((p.code.take m).any F = false)) (fun v8 _ => p.code.length - (intOf v8).toNat)
  case atStart => exact ⟨0, Nat.zero_le _, rfl, Lib.hid (Below.refl _ _), Lib.hid rfl⟩
  case round =>
    obtain ⟨m, hm, rfl, HB, HN⟩ := hrel
    by_cases hml : m < p.code.length
    · have hmi : (m : Int) < (p.code.length : Int) := by omega
      have hm0 : (0 : Int) ≤ (m : Int) := by omega
      obtain ⟨i, hi⟩ : ∃ i, p.code[m]? = some i := ⟨_, List.getElem?_eq_getElem hml⟩
      have hr := rangeAt_below (HCO.out m i hi) hbb HB.out
      have hmem := List.mem_of_getElem? hi
      have HFI := Lib.hid (fun w1 hb => HF.out w1 i hb hmem)
      have HNX : Hid (F i = false → (p.code.take (m + 1)).any F = false) := Lib.hid fun h => by rw [List.take_add_one, hi, List.any_append, HN.out]; simp [h]
      have HYS : Hid (F i = true → p.code.any F = true) := Lib.hid fun h => List.any_eq_true.2 ⟨i, hmem, h⟩
      generalize F i = f at HFI HNX HYS
      obtain ⟨op, ia, b, c, nn⟩ := i
      obtain ⟨d0, d1, d2, d3, d4⟩ : (wr.cell? ⟨bb, o + m * 5, none⟩ = some (.int .u8 op)) ∧ wr.cell? ⟨bb, o + m * 5 + 1, none⟩ = some (.int .u8 ia) ∧ wr.cell? ⟨bb, o + m * 5 + 2, none⟩ = some (.int .u8 b) ∧ wr.cell? ⟨bb, o + m * 5 + 3, none⟩ = some (.int .u8 c) ∧ wr.cell? ⟨bb, o + m * 5 + 4, none⟩ = some (.int .i64 nn) := ⟨hr 0 _ rfl, hr 1 _ rfl, hr 2 _ rfl, hr 3 _ rfl, hr 4 _ rfl⟩
      clear hr hi hmem HN
      rcases f with _ | _
      · have HN2 := Lib.hid (HNX.out rfl)
        clear HNX HYS
        go_wp2_with (go_at_call 70; ((with_reducible refine (HFI.out _ HB.out).mono ?_); rintro e w5 ⟨rfl, hb⟩; have HB2 := Lib.hid (HB.out.trans (hb.mono HB.out.size)); clear hb))
        go_roundw
        case rel => exact ⟨m + 1, by omega, by go_num, HB2, HN2⟩
        case measure => simp [intOf]; omega
      · have HY := Lib.hid (HYS.out rfl)
        clear HNX HYS
        go_wp2_with (go_at_call 70; ((with_reducible refine (HFI.out _ HB.out).mono ?_); rintro e w5 ⟨rfl, hb⟩; have HB2 := Lib.hid (HB.out.trans (hb.mono HB.out.size)); clear hb))
        go_ret
        exact ⟨_, rfl, by rw [HY.out]; simp, by omega, HB2.out⟩
    · have hme : m = p.code.length := by omega
      have hmn : ¬ ((m : Int) < (p.code.length : Int)) := by omega
      have HE : Hid (p.code.any F = false) := Lib.hid (by have h9 := HN.out; rw [hme, List.take_length] at h9; exact h9)
      clear hme HN
      go_wp2
      go_ret
      exact ⟨_, rfl, by rw [HE.out]; decide, by omega, HB.out⟩
set_option maxRecDepth 100000 in
set_option maxHeartbeats 2000000 in
theorem jcont_n (w : World) (s f : Value) (b : Bool) (HX : Hid (Calls Tryz.prog 114 #[s, f] w (IdxPost w b))) :
    Calls Tryz.prog 69 #[s, f] w (AggPost w (.bool b)) := by
  go_enter Tryz.func69, Tryz.ntmps69
  go_wp2_with (go_at_call 114; refine HX.out.mono ?_; rintro e w1 ⟨k, rfl, hk, hk1, hb⟩; have HB := Lib.hid hb; have HK := Lib.hid hk; clear hb hk)
  go_ret
  exact ⟨congrArg (fun z => Ending.returned (.bool z)) HK.out, HB.out⟩
set_option maxRecDepth 100000 in
set_option maxHeartbeats 4000000 in
theorem jleaks_out (w W0 : World) (p : PProg) (vt' : Value) (x' : Option Addr) (k' : Nat) (k : Int)
    (hW0 : W0 = w.alloc (.cells (progC vt' p (.slice x' p.code.length k')) 25)) (HS : Hid (Below w.heap.size w W0)) (KP : Hid (blk W0 w.heap.size (progC vt' p (.slice x' p.code.length k')) 25))
    (hk : k < 0 ∨ (0 ≤ k ∧ (p.code.length : Int) ≤ k))
    (HTH : Hid (∀ w1, Calls Tryz.prog 66 #[.agg (progC vt' p (.slice x' p.code.length k'))] w1 fun e w' => e = .returned (.func (.func 112) #[] #[.pointer (some ⟨w1.heap.size, 0, none⟩)]) ∧ Below w1.heap.size w1 w' ∧ blk w' w1.heap.size (progC vt' p (.slice x' p.code.length k')) 25)) :
    Calls Tryz.prog 30 #[.agg (progC vt' p (.slice x' p.code.length k')), .int .i64 k] w (AggPost w (.bool false)) := by
  have HP3 : Hid (∀ w1, blk w1 w.heap.size (progC vt' p (.slice x' p.code.length k')) 25 → w1.cell? ⟨w.heap.size, 3, none⟩ = some (.slice x' p.code.length k')) := Lib.hid fun w1 h => blk_cell h 3 _ rfl
  rcases hk with hk | ⟨h0, hk⟩
  · go_enter Tryz.func30, Tryz.ntmps30
    go_upto_region 1 with (fail)
    rw [← hW0]
    clear hW0
    go_upto_region 2 with (first
      | (refine wpList_loadB rfl 25 _ rfl w.heap.size (progC vt' p (.slice x' p.code.length k')) rfl 25 KP.out _ Tryz.underlying25 rfl prog_info ?_)
      | (go_at_call 66; refine (HTH.out _).mono ?_; rintro e w1 ⟨rfl, hb, hq⟩; have HS1 := Lib.hid (HS.out.trans (hb.mono HS.out.size)); have KP1 := Lib.hid (blk_below KP.out hb); have HT1 : Hid (ThW w1 W0.heap.size p) := Lib.hid ⟨blk_lt hq, blk_cell hq 1 _ rfl⟩; clear hb hq))
    clear KP HS HTH
    obtain ⟨Pb, hPb⟩ : ∃ Pb, Pb = W0.heap.size := ⟨_, rfl⟩
    rw [← hPb] at HT1 ⊢
    obtain ⟨J, hJ⟩ : ∃ J, J = w1.heap.size := ⟨_, rfl⟩
    obtain ⟨wj, hwj⟩ : ∃ wj, wj = w1.alloc (.cells #[.func (.func 112) #[] #[.pointer (some ⟨Pb, 0, none⟩)]] 120) := ⟨_, rfl⟩
    have HWJ : Hid (Below w1.heap.size w1 wj ∧ blk wj w1.heap.size #[.func (.func 112) #[] #[.pointer (some ⟨Pb, 0, none⟩)]] 120) := Lib.hid (by
      rw [hwj]
      exact ⟨(Below.refl _ _).alloc (Nat.le_refl _) _, blk_new _ _ _⟩)
    rw [← hwj, ← hJ]
    rw [← hJ] at HWJ
    have HSJ : Hid (Below w.heap.size w wj) := Lib.hid (HS1.out.trans (HWJ.out.1.mono (by rw [hJ]; exact HS1.out.size)))
    have KPJ : Hid (blk wj w.heap.size (progC vt' p (.slice x' p.code.length k')) 25) := Lib.hid (blk_below KP1.out (by have h9 := HWJ.out.1; rw [hJ] at h9; exact h9))
    have HTJ : Hid (ThW wj Pb p) := Lib.hid (HT1.out.below (by have h9 := HWJ.out.1; rw [hJ] at h9; exact h9))
    have HJJ := Lib.hid HWJ.out.2
    clear hwj hJ hPb HS1 KP1 HT1 HWJ
    have p3 := HP3.out _ KPJ.out
    go_quiet (fail)
    go_wp2
    go_ret
    exact ⟨rfl, HSJ.out.trans ((jB wj _).mono HSJ.out.size)⟩
  · go_enter Tryz.func30, Tryz.ntmps30
    go_upto_region 1 with (fail)
    rw [← hW0]
    clear hW0
    go_upto_region 2 with (first
      | (refine wpList_loadB rfl 25 _ rfl w.heap.size (progC vt' p (.slice x' p.code.length k')) rfl 25 KP.out _ Tryz.underlying25 rfl prog_info ?_)
      | (go_at_call 66; refine (HTH.out _).mono ?_; rintro e w1 ⟨rfl, hb, hq⟩; have HS1 := Lib.hid (HS.out.trans (hb.mono HS.out.size)); have KP1 := Lib.hid (blk_below KP.out hb); have HT1 : Hid (ThW w1 W0.heap.size p) := Lib.hid ⟨blk_lt hq, blk_cell hq 1 _ rfl⟩; clear hb hq))
    clear KP HS HTH
    obtain ⟨Pb, hPb⟩ : ∃ Pb, Pb = W0.heap.size := ⟨_, rfl⟩
    rw [← hPb] at HT1 ⊢
    obtain ⟨J, hJ⟩ : ∃ J, J = w1.heap.size := ⟨_, rfl⟩
    obtain ⟨wj, hwj⟩ : ∃ wj, wj = w1.alloc (.cells #[.func (.func 112) #[] #[.pointer (some ⟨Pb, 0, none⟩)]] 120) := ⟨_, rfl⟩
    have HWJ : Hid (Below w1.heap.size w1 wj ∧ blk wj w1.heap.size #[.func (.func 112) #[] #[.pointer (some ⟨Pb, 0, none⟩)]] 120) := Lib.hid (by
      rw [hwj]
      exact ⟨(Below.refl _ _).alloc (Nat.le_refl _) _, blk_new _ _ _⟩)
    rw [← hwj, ← hJ]
    rw [← hJ] at HWJ
    have HSJ : Hid (Below w.heap.size w wj) := Lib.hid (HS1.out.trans (HWJ.out.1.mono (by rw [hJ]; exact HS1.out.size)))
    have KPJ : Hid (blk wj w.heap.size (progC vt' p (.slice x' p.code.length k')) 25) := Lib.hid (blk_below KP1.out (by have h9 := HWJ.out.1; rw [hJ] at h9; exact h9))
    have HTJ : Hid (ThW wj Pb p) := Lib.hid (HT1.out.below (by have h9 := HWJ.out.1; rw [hJ] at h9; exact h9))
    have HJJ := Lib.hid HWJ.out.2
    clear hwj hJ hPb HS1 KP1 HT1 HWJ
    have p3 := HP3.out _ KPJ.out
    go_quiet (fail)
    go_wp2
    go_ret
    exact ⟨rfl, HSJ.out.trans ((jB wj _).mono HSJ.out.size)⟩
end Go.Proofs.YtcjhgibhenocpaaGreatDoor
