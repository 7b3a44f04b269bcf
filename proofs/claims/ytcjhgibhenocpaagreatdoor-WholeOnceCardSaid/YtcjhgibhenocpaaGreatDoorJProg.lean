/-
  The program's leak: Leaks; both of its functions.
-/
import Derived.Test.YtcjhgibhenocpaaGreatDoorJProgE
import Derived.Deep.RegionHeld3
import Derived.Deep.RegionLaw
namespace Go.Proofs.YtcjhgibhenocpaaGreatDoor
set_option linter.unusedSimpArgs false
set_option linter.unusedVariables false
open Go.RowKit

/-- The world in Leaks. -/
structure LkW (w : World) (C : Array Value) (J Pb : Nat) (p : PProg) (wr : World) : Prop where
  below : Below w.heap.size w wr
  prog : blk wr w.heap.size C 25
  fn : blk wr J #[.func (.func 112) #[] #[.pointer (some ⟨Pb, 0, none⟩)]] 120
  th : ThW wr Pb p
theorem LkW.next {w wr w' : World} {C : Array Value} {J Pb : Nat} {p : PProg} (h : LkW w C J Pb p wr) (hb : Below wr.heap.size wr w') : LkW w C J Pb p w' :=
  ⟨h.below.trans (hb.mono h.below.size), blk_below h.prog hb, blk_below h.fn hb, h.th.below hb⟩
set_option maxRecDepth 100000 in
set_option maxHeartbeats 4000000 in
theorem jleaks_not (w W0 : World) (p : PProg) (vt' : Value) (bb o k' k : Nat) (op ia b c nn : Int)
    (hW0 : W0 = w.alloc (.cells (progC vt' p (.slice (some ⟨bb, o, none⟩) p.code.length k')) 25)) (HS : Hid (Below w.heap.size w W0)) (KP : Hid (blk W0 w.heap.size (progC vt' p (.slice (some ⟨bb, o, none⟩) p.code.length k')) 25))
    (hlen : p.code.length ≤ 200) (hk : k < p.code.length) (g1 : p.code.length ≤ k') (g2 : k' ≤ 9223372036854775807) (hbb : bb < w.heap.size)
    (HCO : Hid (∀ m i, p.code[m]? = some i → w.rangeAt bb (o + m * 5) (insC i).toList)) (HI : Hid (p.code[k]? = some ⟨op, ia, b, c, nn⟩))
    (HTH : Hid (∀ w1, Calls Tryz.prog 66 #[.agg (progC vt' p (.slice (some ⟨bb, o, none⟩) p.code.length k'))] w1 fun e w' => e = .returned (.func (.func 112) #[] #[.pointer (some ⟨w1.heap.size, 0, none⟩)]) ∧ Below w1.heap.size w1 w' ∧ blk w' w1.heap.size (progC vt' p (.slice (some ⟨bb, o, none⟩) p.code.length k')) 25))
    (HMK : Hid (∀ (w1 : World) (Pb : Nat), ThW w1 Pb p → Calls Tryz.prog 67 #[.agg (insC ⟨op, ia, b, c, nn⟩), .func (.func 112) #[] #[.pointer (some ⟨Pb, 0, none⟩)]] w1 (AggPost w1 (.bool (op == 5 && decide (ia < p.locals.length)))))) (hno : op ≠ 5) :
    Calls Tryz.prog 30 #[.agg (progC vt' p (.slice (some ⟨bb, o, none⟩) p.code.length k')), .int .i64 k] w (AggPost w (.bool false)) := by
  have hq : (op == 5 && decide (ia < p.locals.length)) = false := by simp [hno]
  rw [hq] at HMK
  clear hq hno
  have HFA : Hid (∀ J Pb w', Below w.heap.size w w' → blk w' w.heap.size (progC vt' p (.slice (some ⟨bb, o, none⟩) p.code.length k')) 25 → blk w' J #[.func (.func 112) #[] #[.pointer (some ⟨Pb, 0, none⟩)]] 120 → w'.cell? ⟨w.heap.size, 3, none⟩ = some (.slice (some ⟨bb, o, none⟩) p.code.length k') ∧ w'.cell? ⟨J, 0, none⟩ = some (.func (.func 112) #[] #[.pointer (some ⟨Pb, 0, none⟩)]) ∧ w'.cell? ⟨bb, o + k * 5, none⟩ = some (.int .u8 op) ∧ w'.cell? ⟨bb, o + k * 5 + 1, none⟩ = some (.int .u8 ia) ∧ w'.cell? ⟨bb, o + k * 5 + 2, none⟩ = some (.int .u8 b) ∧ w'.cell? ⟨bb, o + k * 5 + 3, none⟩ = some (.int .u8 c) ∧ w'.cell? ⟨bb, o + k * 5 + 4, none⟩ = some (.int .i64 nn)) := Lib.hid fun J Pb w' hb hp hj => by
    have hr := rangeAt_below (HCO.out k _ HI.out) hbb hb
    exact ⟨blk_cell hp 3 _ rfl, blk_cell hj 0 _ rfl, hr 0 _ rfl, hr 1 _ rfl, hr 2 _ rfl, hr 3 _ rfl, hr 4 _ rfl⟩
  have hki : (k : Int) < (p.code.length : Int) := by omega
  have hk0 : (0 : Int) ≤ (k : Int) := by omega
  have hkn : ¬ ((p.code.length : Int) ≤ (k : Int)) := by omega
  have hk1 : decide ((k : Int) < 0) = false := by simp
  have hk2 : decide ((p.code.length : Int) ≤ (k : Int)) = false := by simp; omega
  go_enter Tryz.func30, Tryz.ntmps30
  go_upto_region 1 with (fail)
  rw [← hW0]
  clear hW0
  go_upto_region 2 with (first
    | (refine wpList_loadB rfl 25 _ rfl w.heap.size (progC vt' p (.slice (some ⟨bb, o, none⟩) p.code.length k')) rfl 25 KP.out _ Tryz.underlying25 rfl prog_info ?_)
    | (go_at_call 66; refine (HTH.out _).mono ?_; rintro e w1 ⟨rfl, hb, hq⟩; have HS1 := Lib.hid (HS.out.trans (hb.mono HS.out.size)); have KP1 := Lib.hid (blk_below KP.out hb); have HT1 : Hid (ThW w1 W0.heap.size p) := Lib.hid ⟨blk_lt hq, blk_cell hq 1 _ rfl⟩; clear hb hq))
  clear KP HS HTH
  obtain ⟨Pb, hPb⟩ : ∃ Pb, Pb = W0.heap.size := ⟨_, rfl⟩
  rw [← hPb] at HT1 ⊢
  obtain ⟨J, hJ⟩ : ∃ J, J = w1.heap.size := ⟨_, rfl⟩
  obtain ⟨wj, hwj⟩ : ∃ wj, wj = w1.alloc (.cells #[.func (.func 112) #[] #[.pointer (some ⟨Pb, 0, none⟩)]] 120) := ⟨_, rfl⟩
  have HWJ : Hid (Below w1.heap.size w1 wj ∧ blk wj w1.heap.size #[.func (.func 112) #[] #[.pointer (some ⟨Pb, 0, none⟩)]] 120) := Lib.hid (by
    rw [hwj]
    exact ⟨(Below.refl _ _).alloc (Nat.le_refl _) _, blk_new _ _ _⟩)
  rw [← hwj, ← hJ]
  rw [← hJ] at HWJ
  have HSJ : Hid (Below w.heap.size w wj) := Lib.hid (HS1.out.trans (HWJ.out.1.mono (by rw [hJ]; exact HS1.out.size)))
  have KPJ : Hid (blk wj w.heap.size (progC vt' p (.slice (some ⟨bb, o, none⟩) p.code.length k')) 25) := Lib.hid (blk_below KP1.out (by have h9 := HWJ.out.1; rw [hJ] at h9; exact h9))
  have HTJ : Hid (ThW wj Pb p) := Lib.hid (HT1.out.below (by have h9 := HWJ.out.1; rw [hJ] at h9; exact h9))
  have HJJ := Lib.hid HWJ.out.2
  clear hwj hJ hPb HS1 KP1 HT1 HWJ
  obtain ⟨wk, hwk⟩ : ∃ wk, wk = wj := ⟨_, rfl⟩
  have HW0 : Hid (LkW w (progC vt' p (.slice (some ⟨bb, o, none⟩) p.code.length k')) J Pb p wj) := Lib.hid ⟨HSJ.out, KPJ.out, HJJ.out, HTJ.out⟩
  clear HSJ KPJ HJJ HTJ hwk
  have hne : Nonempty (InW (LkW w (progC vt' p (.slice (some ⟨bb, o, none⟩) p.code.length k')) J Pb p)) := ⟨⟨_, HW0.out⟩⟩
  refine wp_quiet_in (LkW w (progC vt' p (.slice (some ⟨bb, o, none⟩) p.code.length k')) J Pb p) rfl (by kernel_rfl) (HW0.out.next (Below.refl _ _).drew) ?_
  have q0 : ∀ u : InW (LkW w (progC vt' p (.slice (some ⟨bb, o, none⟩) p.code.length k')) J Pb p), u.w.cell? ⟨w.heap.size, 3, none⟩ = some (.slice (some ⟨bb, o, none⟩) p.code.length k') := fun u => (HFA.out J Pb _ u.ok.below u.ok.prog u.ok.fn).1
  have q1 : ∀ u : InW (LkW w (progC vt' p (.slice (some ⟨bb, o, none⟩) p.code.length k')) J Pb p), u.w.cell? ⟨J, 0, none⟩ = some (.func (.func 112) #[] #[.pointer (some ⟨Pb, 0, none⟩)]) := fun u => (HFA.out J Pb _ u.ok.below u.ok.prog u.ok.fn).2.1
  have q2 : ∀ u : InW (LkW w (progC vt' p (.slice (some ⟨bb, o, none⟩) p.code.length k')) J Pb p), u.w.cell? ⟨bb, o + k * 5, none⟩ = some (.int .u8 op) := fun u => (HFA.out J Pb _ u.ok.below u.ok.prog u.ok.fn).2.2.1
  have q3 : ∀ u : InW (LkW w (progC vt' p (.slice (some ⟨bb, o, none⟩) p.code.length k')) J Pb p), u.w.cell? ⟨bb, o + k * 5 + 1, none⟩ = some (.int .u8 ia) := fun u => (HFA.out J Pb _ u.ok.below u.ok.prog u.ok.fn).2.2.2.1
  have q4 : ∀ u : InW (LkW w (progC vt' p (.slice (some ⟨bb, o, none⟩) p.code.length k')) J Pb p), u.w.cell? ⟨bb, o + k * 5 + 2, none⟩ = some (.int .u8 b) := fun u => (HFA.out J Pb _ u.ok.below u.ok.prog u.ok.fn).2.2.2.2.1
  have q5 : ∀ u : InW (LkW w (progC vt' p (.slice (some ⟨bb, o, none⟩) p.code.length k')) J Pb p), u.w.cell? ⟨bb, o + k * 5 + 3, none⟩ = some (.int .u8 c) := fun u => (HFA.out J Pb _ u.ok.below u.ok.prog u.ok.fn).2.2.2.2.2.1
  have q6 : ∀ u : InW (LkW w (progC vt' p (.slice (some ⟨bb, o, none⟩) p.code.length k')) J Pb p), u.w.cell? ⟨bb, o + k * 5 + 4, none⟩ = some (.int .i64 nn) := fun u => (HFA.out J Pb _ u.ok.below u.ok.prog u.ok.fn).2.2.2.2.2.2
  have HKQ : Hid (∀ u : InW (LkW w (progC vt' p (.slice (some ⟨bb, o, none⟩) p.code.length k')) J Pb p), Calls Tryz.prog 67 #[.agg (insC ⟨op, ia, b, c, nn⟩), .func (.func 112) #[] #[.pointer (some ⟨Pb, 0, none⟩)]] u.w fun e w'' => e = .returned (.bool false) ∧ ∃ u' : InW (LkW w (progC vt' p (.slice (some ⟨bb, o, none⟩) p.code.length k')) J Pb p), w'' = u'.w) := Lib.hid fun u => (HMK.out u.w Pb u.ok.th).mono fun e w'' ⟨he, hb⟩ => ⟨he, ⟨⟨w'', u.ok.next hb⟩, rfl⟩⟩
  clear HW0
  repeat (first | go_big_quiet_step ((go_at_call 67; exact HKQ.out _)) | quiet_step ((go_at_call 67; exact HKQ.out _)))
  refine wpQuiet_nil ?_
  intro _ hw'
  obtain ⟨u, hw''⟩ := hw'
  subst hw''
  have HW := Lib.hid u.ok
  clear q0 q1 q2 q3 q4 q5 q6 HKQ
  go_wp2
  go_ret
  exact ⟨rfl, HW.out.below⟩
/-- What the closure over each instruction holds. -/
structure LkR (p : PProg) (k J2 R : Nat) (row : Nat → Bool) (wr : World) : Prop where
  box : blk wr J2 #[.slice (some ⟨R, 0, none⟩) p.locals.length p.locals.length] 123
  cells : blk wr R (boolRow p.locals.length row) 4
  any : (p.code.any fun j => storB p j && row j.b.toNat) = leakB p k
theorem LkW.put {w wr : World} {C : Array Value} {J Pb N : Nat} {p : PProg} (h : LkW w C J Pb p wr) (hN : w.heap.size < N) (hJ : J < N) (hP : Pb < N) (cs : Array Value) (t : TypeId) : LkW w C J Pb p (putB wr N cs t) := by
  have hb := putB_below wr (Nat.le_refl N) cs t
  refine ⟨h.below.trans (hb.mono (Nat.le_of_lt hN)), ?_, ?_, ?_, ?_⟩
  · unfold blk; rw [putB_ne _ (by omega)]; exact h.prog
  · unfold blk; rw [putB_ne _ (by omega)]; exact h.fn
  · rw [putB_size]; exact h.th.1
  · rw [hb.cell (p := ⟨Pb, 1, none⟩) hP]; exact h.th.2
theorem lk_first {w wu w5 : World} {C : Array Value} {J Pb G k y : Nat} {p : PProg} {ad : Nat → Nat} {M : Nat → Nat → Bool} (h5 : LkW w C J Pb p w5) (hg : GridW wu.drew.heap.size wu.drew w5 G p.locals.length p.locals.length p.locals.length ad M) (hyn : y < p.locals.length) (hm : (p.code.any fun j => storB p j && M y j.b.toNat) = leakB p k) :
    ∃ J2 R row, Value.pointer (some ⟨w5.heap.size, 0, none⟩) = .pointer (some ⟨J2, 0, none⟩) ∧ Hid (LkW w C J Pb p (w5.alloc (.cells #[.slice (some ⟨ad y, 0, none⟩) p.locals.length p.locals.length] 123))) ∧ Hid (LkR p k J2 R row (w5.alloc (.cells #[.slice (some ⟨ad y, 0, none⟩) p.locals.length p.locals.length] 123))) :=
  ⟨w5.heap.size, ad y, M y, rfl, Lib.hid (h5.next ((Below.refl _ _).alloc (Nat.le_refl _) _)), Lib.hid ⟨blk_new _ _ _, blk_alloc (hg.rows y hyn) _, hm⟩⟩
theorem lk_later {w wu w5 : World} {C : Array Value} {J Pb G k y : Nat} {p : PProg} {ad : Nat → Nat} {M : Nat → Nat → Bool} (hu : LkW w C J Pb p wu) (h5 : LkW w C J Pb p w5) (hg : GridW (wu.alloc (.cells #[.slice none 0 0] 123)).drew.heap.size (wu.alloc (.cells #[.slice none 0 0] 123)).drew w5 G p.locals.length p.locals.length p.locals.length ad M) (hk : blk w5 wu.heap.size #[.slice none 0 0] 123) (hyn : y < p.locals.length) (hm : (p.code.any fun j => storB p j && M y j.b.toNat) = leakB p k) :
    ∃ J2 R row, Value.pointer (some ⟨wu.heap.size, 0, none⟩) = .pointer (some ⟨J2, 0, none⟩) ∧ Hid (LkW w C J Pb p (w5.setCell ⟨wu.heap.size, 0, none⟩ (.slice (some ⟨ad y, 0, none⟩) p.locals.length p.locals.length))) ∧ Hid (LkR p k J2 R row (w5.setCell ⟨wu.heap.size, 0, none⟩ (.slice (some ⟨ad y, 0, none⟩) p.locals.length p.locals.length))) := by
  rw [setCell_putB hk]
  have hf := hg.far y hyn
  have hB := hg.hB
  have hs : (wu.alloc (.cells #[.slice none 0 0] 123)).drew.heap.size = wu.heap.size + 1 := by
    show (wu.alloc (.cells #[.slice none 0 0] 123)).heap.size = _
    simp
  rw [hs] at hB
  refine ⟨wu.heap.size, ad y, M y, rfl, Lib.hid (h5.put (blk_lt hu.prog) (blk_lt hu.fn) hu.th.1 _ _), Lib.hid ⟨putB_at hk _ _, ?_, hm⟩⟩
  unfold blk
  rw [putB_ne _ (by omega)]
  exact hg.rows y hyn
set_option maxRecDepth 100000 in
set_option maxHeartbeats 8000000 in
theorem jleaks_new (w W0 : World) (p : PProg) (vt' : Value) (bb o k' k : Nat) (b c nn : Int) (y : Nat)
    (hW0 : W0 = w.alloc (.cells (progC vt' p (.slice (some ⟨bb, o, none⟩) p.code.length k')) 25)) (HS : Hid (Below w.heap.size w W0)) (KP : Hid (blk W0 w.heap.size (progC vt' p (.slice (some ⟨bb, o, none⟩) p.code.length k')) 25))
    (hlen : p.code.length ≤ 200) (hk : k < p.code.length) (g1 : p.code.length ≤ k') (g2 : k' ≤ 9223372036854775807) (hbb : bb < w.heap.size)
    (HCO : Hid (∀ m i, p.code[m]? = some i → w.rangeAt bb (o + m * 5) (insC i).toList)) (HI : Hid (p.code[k]? = some ⟨5, (y : Int), b, c, nn⟩))
    (HTH : Hid (∀ w1, Calls Tryz.prog 66 #[.agg (progC vt' p (.slice (some ⟨bb, o, none⟩) p.code.length k'))] w1 fun e w' => e = .returned (.func (.func 112) #[] #[.pointer (some ⟨w1.heap.size, 0, none⟩)]) ∧ Below w1.heap.size w1 w' ∧ blk w' w1.heap.size (progC vt' p (.slice (some ⟨bb, o, none⟩) p.code.length k')) 25))
    (HMK : Hid (∀ (w1 : World) (Pb : Nat), ThW w1 Pb p → Calls Tryz.prog 67 #[.agg (insC ⟨5, (y : Int), b, c, nn⟩), .func (.func 112) #[] #[.pointer (some ⟨Pb, 0, none⟩)]] w1 (AggPost w1 (.bool true))))
    (hyn : y < p.locals.length) (hl8 : p.locals.length ≤ 8) (HOK : Hid (OkP p)) (HC : Hid ((checkL p).2 = 0))
    (HMV : Hid (∀ (w1 : World) (Pb : Nat), Below w.heap.size w w1 → ThW w1 Pb p → Calls Tryz.prog 68 #[.agg (progC vt' p (.slice (some ⟨bb, o, none⟩) p.code.length k')), .func (.func 112) #[] #[.pointer (some ⟨Pb, 0, none⟩)]] w1 (MvPost w1 p)))
    (HCN : Hid (∀ (w1 : World) (J J2 Pb R : Nat) (row : Nat → Bool), LkW w (progC vt' p (.slice (some ⟨bb, o, none⟩) p.code.length k')) J Pb p w1 → LkR p k J2 R row w1 → Calls Tryz.prog 69 #[.slice (some ⟨bb, o, none⟩) p.code.length k', .func (.func 70) #[] #[.pointer (some ⟨J, 0, none⟩), .pointer (some ⟨J2, 0, none⟩)]] w1 (AggPost w1 (.bool (leakB p k))))) :
    Calls Tryz.prog 30 #[.agg (progC vt' p (.slice (some ⟨bb, o, none⟩) p.code.length k')), .int .i64 k] w (AggPost w (.bool (leakB p k))) := by
  have HLA : Hid (∀ M, WayM p M → (p.code.any fun j => storB p j && M y j.b.toNat) = leakB p k) := Lib.hid fun M hM => leak_any HC.out HOK.out.ins hM HI.out rfl rfl hyn
  have HFA : Hid (∀ J Pb w', Below w.heap.size w w' → blk w' w.heap.size (progC vt' p (.slice (some ⟨bb, o, none⟩) p.code.length k')) 25 → blk w' J #[.func (.func 112) #[] #[.pointer (some ⟨Pb, 0, none⟩)]] 120 → w'.cell? ⟨w.heap.size, 3, none⟩ = some (.slice (some ⟨bb, o, none⟩) p.code.length k') ∧ w'.cell? ⟨J, 0, none⟩ = some (.func (.func 112) #[] #[.pointer (some ⟨Pb, 0, none⟩)]) ∧ w'.cell? ⟨bb, o + k * 5, none⟩ = some (.int .u8 5) ∧ w'.cell? ⟨bb, o + k * 5 + 1, none⟩ = some (.int .u8 (y : Int)) ∧ w'.cell? ⟨bb, o + k * 5 + 2, none⟩ = some (.int .u8 b) ∧ w'.cell? ⟨bb, o + k * 5 + 3, none⟩ = some (.int .u8 c) ∧ w'.cell? ⟨bb, o + k * 5 + 4, none⟩ = some (.int .i64 nn)) := Lib.hid fun J Pb w' hb hp hj => by
    have hr := rangeAt_below (HCO.out k _ HI.out) hbb hb
    exact ⟨blk_cell hp 3 _ rfl, blk_cell hj 0 _ rfl, hr 0 _ rfl, hr 1 _ rfl, hr 2 _ rfl, hr 3 _ rfl, hr 4 _ rfl⟩
  have hki : (k : Int) < (p.code.length : Int) := by omega
  have hk0 : (0 : Int) ≤ (k : Int) := by omega
  have hkn : ¬ ((p.code.length : Int) ≤ (k : Int)) := by omega
  have hk1 : decide ((k : Int) < 0) = false := by simp
  have hk2 : decide ((p.code.length : Int) ≤ (k : Int)) = false := by simp; omega
  go_enter Tryz.func30, Tryz.ntmps30
  go_upto_region 1 with (fail)
  rw [← hW0]
  clear hW0
  go_upto_region 2 with (first
    | (refine wpList_loadB rfl 25 _ rfl w.heap.size (progC vt' p (.slice (some ⟨bb, o, none⟩) p.code.length k')) rfl 25 KP.out _ Tryz.underlying25 rfl prog_info ?_)
    | (go_at_call 66; refine (HTH.out _).mono ?_; rintro e w1 ⟨rfl, hb, hq⟩; have HS1 := Lib.hid (HS.out.trans (hb.mono HS.out.size)); have KP1 := Lib.hid (blk_below KP.out hb); have HT1 : Hid (ThW w1 W0.heap.size p) := Lib.hid ⟨blk_lt hq, blk_cell hq 1 _ rfl⟩; clear hb hq))
  clear KP HS HTH
  obtain ⟨Pb, hPb⟩ : ∃ Pb, Pb = W0.heap.size := ⟨_, rfl⟩
  rw [← hPb] at HT1 ⊢
  obtain ⟨J, hJ⟩ : ∃ J, J = w1.heap.size := ⟨_, rfl⟩
  obtain ⟨wj, hwj⟩ : ∃ wj, wj = w1.alloc (.cells #[.func (.func 112) #[] #[.pointer (some ⟨Pb, 0, none⟩)]] 120) := ⟨_, rfl⟩
  have HWJ : Hid (Below w1.heap.size w1 wj ∧ blk wj w1.heap.size #[.func (.func 112) #[] #[.pointer (some ⟨Pb, 0, none⟩)]] 120) := Lib.hid (by
    rw [hwj]
    exact ⟨(Below.refl _ _).alloc (Nat.le_refl _) _, blk_new _ _ _⟩)
  rw [← hwj, ← hJ]
  rw [← hJ] at HWJ
  have HSJ : Hid (Below w.heap.size w wj) := Lib.hid (HS1.out.trans (HWJ.out.1.mono (by rw [hJ]; exact HS1.out.size)))
  have KPJ : Hid (blk wj w.heap.size (progC vt' p (.slice (some ⟨bb, o, none⟩) p.code.length k')) 25) := Lib.hid (blk_below KP1.out (by have h9 := HWJ.out.1; rw [hJ] at h9; exact h9))
  have HTJ : Hid (ThW wj Pb p) := Lib.hid (HT1.out.below (by have h9 := HWJ.out.1; rw [hJ] at h9; exact h9))
  have HJJ := Lib.hid HWJ.out.2
  clear hwj hJ hPb HS1 KP1 HT1 HWJ
  obtain ⟨wk, hwk⟩ : ∃ wk, wk = wj := ⟨_, rfl⟩
  have HW0 : Hid (LkW w (progC vt' p (.slice (some ⟨bb, o, none⟩) p.code.length k')) J Pb p wj) := Lib.hid ⟨HSJ.out, KPJ.out, HJJ.out, HTJ.out⟩
  clear HSJ KPJ HJJ HTJ hwk
  have hne : Nonempty (InW (LkW w (progC vt' p (.slice (some ⟨bb, o, none⟩) p.code.length k')) J Pb p)) := ⟨⟨_, HW0.out⟩⟩
  refine wp_quiet_in (LkW w (progC vt' p (.slice (some ⟨bb, o, none⟩) p.code.length k')) J Pb p) rfl (by kernel_rfl) (HW0.out.next (Below.refl _ _).drew) ?_
  have q0 : ∀ u : InW (LkW w (progC vt' p (.slice (some ⟨bb, o, none⟩) p.code.length k')) J Pb p), u.w.cell? ⟨w.heap.size, 3, none⟩ = some (.slice (some ⟨bb, o, none⟩) p.code.length k') := fun u => (HFA.out J Pb _ u.ok.below u.ok.prog u.ok.fn).1
  have q1 : ∀ u : InW (LkW w (progC vt' p (.slice (some ⟨bb, o, none⟩) p.code.length k')) J Pb p), u.w.cell? ⟨J, 0, none⟩ = some (.func (.func 112) #[] #[.pointer (some ⟨Pb, 0, none⟩)]) := fun u => (HFA.out J Pb _ u.ok.below u.ok.prog u.ok.fn).2.1
  have q2 : ∀ u : InW (LkW w (progC vt' p (.slice (some ⟨bb, o, none⟩) p.code.length k')) J Pb p), u.w.cell? ⟨bb, o + k * 5, none⟩ = some (.int .u8 5) := fun u => (HFA.out J Pb _ u.ok.below u.ok.prog u.ok.fn).2.2.1
  have q3 : ∀ u : InW (LkW w (progC vt' p (.slice (some ⟨bb, o, none⟩) p.code.length k')) J Pb p), u.w.cell? ⟨bb, o + k * 5 + 1, none⟩ = some (.int .u8 (y : Int)) := fun u => (HFA.out J Pb _ u.ok.below u.ok.prog u.ok.fn).2.2.2.1
  have q4 : ∀ u : InW (LkW w (progC vt' p (.slice (some ⟨bb, o, none⟩) p.code.length k')) J Pb p), u.w.cell? ⟨bb, o + k * 5 + 2, none⟩ = some (.int .u8 b) := fun u => (HFA.out J Pb _ u.ok.below u.ok.prog u.ok.fn).2.2.2.2.1
  have q5 : ∀ u : InW (LkW w (progC vt' p (.slice (some ⟨bb, o, none⟩) p.code.length k')) J Pb p), u.w.cell? ⟨bb, o + k * 5 + 3, none⟩ = some (.int .u8 c) := fun u => (HFA.out J Pb _ u.ok.below u.ok.prog u.ok.fn).2.2.2.2.2.1
  have q6 : ∀ u : InW (LkW w (progC vt' p (.slice (some ⟨bb, o, none⟩) p.code.length k')) J Pb p), u.w.cell? ⟨bb, o + k * 5 + 4, none⟩ = some (.int .i64 nn) := fun u => (HFA.out J Pb _ u.ok.below u.ok.prog u.ok.fn).2.2.2.2.2.2
  have HKQ : Hid (∀ u : InW (LkW w (progC vt' p (.slice (some ⟨bb, o, none⟩) p.code.length k')) J Pb p), Calls Tryz.prog 67 #[.agg (insC ⟨5, (y : Int), b, c, nn⟩), .func (.func 112) #[] #[.pointer (some ⟨Pb, 0, none⟩)]] u.w fun e w'' => e = .returned (.bool true) ∧ ∃ u' : InW (LkW w (progC vt' p (.slice (some ⟨bb, o, none⟩) p.code.length k')) J Pb p), w'' = u'.w) := Lib.hid fun u => (HMK.out u.w Pb u.ok.th).mono fun e w'' ⟨he, hb⟩ => ⟨he, ⟨⟨w'', u.ok.next hb⟩, rfl⟩⟩
  clear HW0
  repeat (first | go_big_quiet_step ((go_at_call 67; exact HKQ.out _)) | quiet_step ((go_at_call 67; exact HKQ.out _)))
  refine wpQuiet_nil ?_
  intro _ hw'
  obtain ⟨u, hw''⟩ := hw'
  subst hw''
  have HW := Lib.hid u.ok
  clear q0 q1 q2 q3 q4 q5 q6 HKQ
  have HF8 : Hid (∀ w', LkW w (progC vt' p (.slice (some ⟨bb, o, none⟩) p.code.length k')) J Pb p w' → w'.cell? ⟨w.heap.size, 0, none⟩ = some vt' ∧ w'.cell? ⟨w.heap.size, 1, none⟩ = some (str p.locals) ∧ w'.cell? ⟨w.heap.size, 2, none⟩ = some (str p.globs) ∧ w'.cell? ⟨w.heap.size, 3, none⟩ = some (.slice (some ⟨bb, o, none⟩) p.code.length k') ∧ w'.cell? ⟨J, 0, none⟩ = some (.func (.func 112) #[] #[.pointer (some ⟨Pb, 0, none⟩)]) ∧ w'.cell? ⟨bb, o + k * 5 + 1, none⟩ = some (.int .u8 (y : Int))) := Lib.hid fun w' h => ⟨blk_cell h.prog 0 _ rfl, blk_cell h.prog 1 _ rfl, blk_cell h.prog 2 _ rfl, blk_cell h.prog 3 _ rfl, (HFA.out J Pb _ h.below h.prog h.fn).2.1, (HFA.out J Pb _ h.below h.prog h.fn).2.2.2.1⟩
  generalize u.w = wu at HW ⊢
  clear HFA HMK hk1 hk2
  go_upto_region 4 with (fail)
  have hyi : (y : Int) < (p.locals.length : Int) := by omega
  go_cut [6] from 7 (fun v6 wx => ∃ J2 R row, v6 = .pointer (some ⟨J2, 0, none⟩) ∧ Hid (LkW w (progC vt' p (.slice (some ⟨bb, o, none⟩) p.code.length k')) J Pb p wx) ∧ Hid (LkR p k J2 R row wx))
  case first =>
    obtain ⟨p0, p1, p2, p3, cj, d1⟩ := HF8.out _ HW.out
    have HW1 := Lib.hid (HW.out.next (Below.refl _ _).drew)
    have HWZ := Lib.hid (HW.out.next (((Below.refl wu.heap.size wu).alloc (Nat.le_refl _) (.cells #[.slice none 0 0] 123)).drew))
    obtain ⟨x0, x1, x2, x3, xj, xd⟩ := HF8.out _ HWZ.out
    go_region_law (first
      | (go_simp; go_at_call 68; ((with_reducible refine (HMV.out wu.drew Pb HW1.out.below HW1.out.th).mono ?_); rintro e w5 ⟨G, ad, M, rfl, hg, hwm⟩; have HW5 := Lib.hid (HW1.out.next hg.below); have HG := Lib.hid hg; have HM := Lib.hid hwm; clear hg hwm p0 p1 p2 p3 cj d1; obtain ⟨p0, p1, p2, p3, cj, d1⟩ := HF8.out _ HW5.out; have cG := HG.out.cell hyn; have cZ := blk_cell (blk_alloc HG.out.out (.cells #[.slice none 0 0] 123)) y _ (gridC_get hyn (Nat.le_refl _)); have kN := blk_new w5 #[.slice none 0 0] 123; have cN := blk_cell kN 0 _ rfl; have fN := blk_frozen kN 0; obtain ⟨y0, y1, y2, y3, yj, yd⟩ := HF8.out _ (HW5.out.next ((Below.refl _ _).alloc (Nat.le_refl _) (.cells #[.slice none 0 0] 123)))))
      | (go_simp; go_at_call 68; ((with_reducible refine (HMV.out ((wu.alloc (.cells #[.slice none 0 0] 123)).drew) Pb HWZ.out.below HWZ.out.th).mono ?_); rintro e w5 ⟨G, ad, M, rfl, hg, hwm⟩; have HW5 := Lib.hid (HWZ.out.next hg.below); have HG := Lib.hid hg; have HM := Lib.hid hwm; clear hg hwm p0 p1 p2 p3 cj d1; obtain ⟨p0, p1, p2, p3, cj, d1⟩ := HF8.out _ HW5.out; have cG := HG.out.cell hyn; have kN : Hid (blk w5 wu.heap.size #[.slice none 0 0] 123) := Lib.hid (blk_below (w := (wu.alloc (.cells #[.slice none 0 0] 123)).drew) (blk_new wu #[.slice none 0 0] 123) HG.out.below); have cN := blk_cell kN.out 0 _ rfl; have fN := blk_frozen kN.out 0)))
    all_goals
      go_wp2_with fail
      go_meet
      first | exact lk_first HW5.out HG.out hyn (HLA.out M HM.out) | exact lk_later HW.out HW5.out HG.out kN.out hyn (HLA.out M HM.out)
  case rest =>
    obtain ⟨J2, R, row, rfl, HWX, HRX⟩ := hcut
    have p3 := (HF8.out _ HWX.out).2.2.2.1
    have hmf : ∀ (fn : Fn) (first cap : Array Value) (w : World), (Instr.makeFunc fn first cap).run Tryz.prog w = .ok (.func fn first cap) w := fun _ _ _ _ => rfl
    have HX := Lib.hid (HCN.out _ J J2 Pb R row HWX.out HRX.out)
    go_wp2_with (go_at_call 69; refine HX.out.mono ?_; rintro e w5 ⟨rfl, hb⟩; have HB := Lib.hid hb; clear hb)
    go_ret
    exact ⟨rfl, HWX.out.below.trans (HB.out.mono HWX.out.below.size)⟩

/-! ### Both, of programs that may be run -/
theorem jmoved_n (w : World) (p : PProg) (vt' : Value) (bb o kx' Pb : Nat) (hP : ProgAt w (.agg (progC vt' p (.slice (some ⟨bb, o, none⟩) p.code.length kx'))) p) (hs : OkP p) (hc : (checkL p).2 = 0) (hT : ThW w Pb p) (hbb : bb < w.heap.size) (g1 : p.code.length ≤ kx') (g2 : kx' ≤ 9223372036854775807) (hco : ∀ m i, p.code[m]? = some i → w.rangeAt bb (o + m * 5) (insC i).toList) :
    Calls Tryz.prog 68 #[.agg (progC vt' p (.slice (some ⟨bb, o, none⟩) p.code.length kx')), .func (.func 112) #[] #[.pointer (some ⟨Pb, 0, none⟩)]] w (MvPost w p) :=
  jmoved_at w _ p vt' bb o kx' Pb rfl (Lib.hid ((Below.refl _ _).alloc (Nat.le_refl _) _)) (Lib.hid (blk_new _ _ _)) (check_ok hc).2.2.1 (head_parts (check_ok hc).1).2.2.1 g1 g2 hbb (Lib.hid hco) (Lib.hid hs) (Lib.hid hc)
    (Lib.hid fun w1 a hb h0 h1 h2 => jthere_n w1 Pb p a true (hT.below hb).2 (by have := (head_parts (check_ok hc).1).2.2.1; omega) h0 h1 (Lib.hid (by simpa using h2)))
theorem prog_base {w : World} {p : PProg} {vt : Value} {x' : Option Addr} {kx' : Nat} (h : ProgAt w (.agg (progC vt p (.slice x' p.code.length kx'))) p) (hl : 1 ≤ p.code.length) : ∃ bb o, x' = some ⟨bb, o, none⟩ ∧ bb < w.heap.size ∧ ∀ m i, p.code[m]? = some i → w.rangeAt bb (o + m * 5) (insC i).toList := by
  obtain ⟨bb, o, rfl, hbb, _⟩ := prog_ins h (List.getElem?_eq_getElem (show 0 < p.code.length by omega))
  refine ⟨bb, o, rfl, hbb, fun m i hi => ?_⟩
  obtain ⟨b2, o2, e, _, hr⟩ := prog_ins h hi
  cases e
  exact hr
theorem jleaks_n (v : Value) (p : PProg) (w : World) (k : Int) (h : ProgAt w v p) (hs : OkP p) (hc : (checkL p).2 = 0) : Calls Tryz.prog 30 #[v, .int .i64 k] w (AggPost w (.bool (leakV p k))) := by
  obtain ⟨vt', vc, rfl, htl, hcc⟩ := id h
  obtain ⟨x', kx', rfl, g1, g2, g3⟩ := id hcc
  unfold maxLen at g2
  obtain ⟨hh, hl1, hl2, _⟩ := check_ok hc
  have hl8 := (head_parts hh).2.2.1
  obtain ⟨bb, o, rfl, hbb, hco⟩ := prog_base h hl1
  have hab : Below w.heap.size w (w.alloc (.cells (progC vt' p (.slice (some ⟨bb, o, none⟩) p.code.length kx')) 25)) := (Below.refl _ _).alloc (Nat.le_refl _) _
  by_cases hk : k < 0 ∨ (0 ≤ k ∧ (p.code.length : Int) ≤ k)
  · rw [leakV_no hc (k := k) (by
      rcases hk with hk | ⟨h0, hk⟩
      · exact .inl hk
      · exact .inr fun i hi => absurd (List.getElem?_eq_some_iff.1 hi).1 (by omega))]
    exact jleaks_out w _ p vt' _ kx' k rfl (Lib.hid hab) (Lib.hid (blk_new _ _ _)) hk (Lib.hid fun w1 => jisthere_n w1 p _ _)
  · obtain ⟨kn, rfl⟩ : ∃ kn : Nat, k = kn := ⟨k.toNat, by omega⟩
    have hkl : kn < p.code.length := by omega
    obtain ⟨i, hi⟩ : ∃ i, p.code[kn]? = some i := ⟨_, List.getElem?_eq_getElem hkl⟩
    have hm := List.mem_of_getElem? hi
    have hmk : ∀ (w1 : World) (Pb : Nat), ThW w1 Pb p → Calls Tryz.prog 67 #[.agg (insC i), .func (.func 112) #[] #[.pointer (some ⟨Pb, 0, none⟩)]] w1 (AggPost w1 (.bool (i.op == 5 && decide (i.a < p.locals.length)))) := fun w1 Pb hT => jmakes_n i w1 Pb p hT (by omega) (hs.ins i hm)
    by_cases h5 : i.op = 5
    · have hnl := new_local hc hm h5
      have a0 := (hs.ins i hm).a0
      have a2 := (local_lt hh a0 hnl).1
      rw [leakV_nat]
      obtain ⟨y, hy⟩ : ∃ y : Nat, i.a = (y : Int) := ⟨i.a.toNat, by omega⟩
      have hq : (i.op == 5 && decide (i.a < p.locals.length)) = true := by simp [h5, a2]
      rw [hq] at hmk
      obtain ⟨op, ia, b, c, nn⟩ := i
      dsimp only at h5 hy a0 a2
      subst hy h5
      exact jleaks_new w _ p vt' bb o kx' kn b c nn y rfl (Lib.hid hab) (Lib.hid (blk_new _ _ _)) hl2 hkl g1 (by omega) hbb (Lib.hid hco) (Lib.hid hi) (Lib.hid fun w1 => jisthere_n w1 p _ _) (Lib.hid hmk) (by omega) hl8 (Lib.hid hs) (Lib.hid hc)
        (Lib.hid fun w1 Pb hb hT => jmoved_n w1 p vt' bb o kx' Pb (h.below hb) hs hc hT (Nat.lt_of_lt_of_le hbb hb.size) g1 (by omega) (fun m i hi => rangeAt_below (hco m i hi) hbb hb))
        (Lib.hid fun w1 J J2 Pb R row hW hR => jcont_n w1 _ _ _ (Lib.hid (by
          rw [← hR.any]
          have hb1 := hW.below
          exact jidx_n w1 p bb o kx' J J2 _ hl2 g1 (by omega) (Nat.lt_of_lt_of_le hbb hb1.size) (Lib.hid fun m i hi => rangeAt_below (hco m i hi) hbb hb1) (Lib.hid fun w2 j hb2 hj => jleaksC_n j w2 p J J2 R Pb p.locals.length row rfl (by omega) (hs.ins j hj) (blk_below hW.fn hb2) (blk_below hR.box hb2) (blk_below hR.cells hb2) (hW.th.below hb2)))))
    · have hq : (i.op == 5 && decide (i.a < p.locals.length)) = false := by simp [h5]
      rw [leakV_no hc (.inr fun j hj => by rw [Int.toNat_natCast, hi] at hj; cases hj; exact h5)]
      obtain ⟨op, ia, b, c, nn⟩ := i
      exact jleaks_not w _ p vt' bb o kx' kn op ia b c nn rfl (Lib.hid hab) (Lib.hid (blk_new _ _ _)) hl2 hkl g1 (by omega) hbb (Lib.hid hco) (Lib.hid hi) (Lib.hid fun w1 => jisthere_n w1 p _ _) (Lib.hid hmk) h5
end Go.Proofs.YtcjhgibhenocpaaGreatDoor
