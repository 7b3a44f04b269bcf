/-
  The program's leak: is a local there, what makes, what stores, and the truths of a row added to another one's.
  The program's leak: what moves reach, of each local.
  The program's leak: May.
-/
import Derived.Test.YtjkpbajojgdooaaDoorJWB
import Derived.Test.YtjkpbajojgdooaaDoorFLU
import Derived.Deep.RegionHeld3
import Derived.Deep.QuietTactic
import Derived.StillTailTactics
import Derived.Deep.CutBlock

/- The program's leak: is a local there, what makes, what stores, and the truths of a row added to another one's. -/
namespace Go.Proofs.YtjkpbajojgdooaaDoor
set_option linter.unusedSimpArgs false
set_option linter.unusedVariables false
open Go.RowKit

set_option maxRecDepth 100000 in
set_option maxHeartbeats 2000000 in
theorem jthere_n (w : World) (Pb : Nat) (p : PProg) (a : Int) (r : Bool) (h1 : w.cell? ⟨Pb, 1, none⟩ = some (str p.locals)) (hl : p.locals.length ≤ 200) (h0 : 0 ≤ a) (ha : a ≤ 255) (hr : Hid (decide (a < p.locals.length) = r)) :
    Calls Tryd.prog 30 #[.int .u8 a, .pointer (some ⟨Pb, 0, none⟩)] w fun e w' => e = .returned (.bool r) ∧ w = w' := by
  rcases r with _ | _
  · have h2 : ¬ (a < (p.locals.length : Int)) := by simpa using hr.out
    go_enter Tryd.func30, Tryd.ntmps30
    go_wp2
    go_ret
    exact ⟨rfl, rfl⟩
  · have h2 : a < (p.locals.length : Int) := by simpa using hr.out
    go_enter Tryd.func30, Tryd.ntmps30
    go_wp2
    go_ret
    exact ⟨rfl, rfl⟩
set_option maxRecDepth 100000 in
set_option maxHeartbeats 2000000 in
theorem jisthere_n (w : World) (p : PProg) (vt vc : Value) :
    Calls Tryd.prog 15 #[.agg (progC vt p vc)] w fun e w' => e = .returned (.func (.func 30) #[] #[.pointer (some ⟨w.heap.size, 0, none⟩)]) ∧ Below w.heap.size w w' ∧ blk w' w.heap.size (progC vt p vc) 25 := by
  have hmf : ∀ (fn : Fn) (first cap : Array Value) (w : World), (Instr.makeFunc fn first cap).run Tryd.prog w = .ok (.func fn first cap) w := fun _ _ _ _ => rfl
  go_enter Tryd.func15, Tryd.ntmps15
  go_wp2
  go_ret
  exact ⟨rfl, (Below.refl _ _).alloc (Nat.le_refl _) _, blk_new _ _ _⟩
set_option maxRecDepth 100000 in
set_option maxHeartbeats 2000000 in
theorem jmakes_at (op ia b c n : Int) (w W0 : World) (Pb : Nat) (r : Bool) (hW0 : W0 = w.alloc (.cells (insC ⟨op, ia, b, c, n⟩) 45)) (HB : Hid (Below w.heap.size w W0)) (HI : Hid (blk W0 w.heap.size (insC ⟨op, ia, b, c, n⟩) 45))
    (HT : Hid (∀ w1, Below w.heap.size w w1 → Calls Tryd.prog 30 #[.int .u8 ia, .pointer (some ⟨Pb, 0, none⟩)] w1 fun e w' => e = .returned (.bool r) ∧ w1 = w')) :
    Calls Tryd.prog 17 #[.agg (insC ⟨op, ia, b, c, n⟩), .func (.func 30) #[] #[.pointer (some ⟨Pb, 0, none⟩)]] w (AggPost w (.bool (op == 5 && r))) := by
  have c0 : W0.cell? ⟨w.heap.size, 0, none⟩ = some (.int .u8 op) := blk_cell HI.out 0 _ rfl
  have c1 : W0.cell? ⟨w.heap.size, 1, none⟩ = some (.int .u8 ia) := blk_cell HI.out 1 _ rfl
  by_cases h5 : op = 5
  · have q5 : (op == 5) = true := by simpa using h5
    rw [q5, Bool.true_and]
    clear h5
    go_enter Tryd.func17, Tryd.ntmps17
    go_upto_region 1 with (fail)
    rw [← hW0]
    clear hW0
    go_wp2_with (go_at_call 30; ((with_reducible refine (HT.out _ HB.out).mono ?_); rintro e w1 ⟨rfl, rfl⟩))
    go_ret
    exact ⟨rfl, HB.out⟩
  · have q5 : (op == 5) = false := by simpa using h5
    rw [q5, Bool.false_and]
    clear h5
    go_enter Tryd.func17, Tryd.ntmps17
    go_upto_region 1 with (fail)
    rw [← hW0]
    clear hW0
    go_wp2
    go_ret
    exact ⟨rfl, HB.out⟩
/-- Where a closure's program lies. -/
def ThW (w : World) (Pb : Nat) (p : PProg) : Prop := Pb < w.heap.size ∧ w.cell? ⟨Pb, 1, none⟩ = some (str p.locals)
theorem ThW.below {w w' : World} {Pb : Nat} {p : PProg} (h : ThW w Pb p) (hb : Below w.heap.size w w') : ThW w' Pb p :=
  ⟨Nat.lt_of_lt_of_le h.1 hb.size, by rw [hb.cell h.1]; exact h.2⟩
theorem jmakes_n (i : PIns) (w : World) (Pb : Nat) (p : PProg) (h : ThW w Pb p) (hl : p.locals.length ≤ 200) (hi : OkI i) :
    Calls Tryd.prog 17 #[.agg (insC i), .func (.func 30) #[] #[.pointer (some ⟨Pb, 0, none⟩)]] w (AggPost w (.bool (i.op == 5 && decide (i.a < p.locals.length)))) := by
  obtain ⟨op, ia, b, c, n⟩ := i
  exact jmakes_at op ia b c n w _ Pb _ rfl (Lib.hid ((Below.refl _ _).alloc (Nat.le_refl _) _)) (Lib.hid (blk_new _ _ _)) (Lib.hid fun w1 hb => jthere_n w1 Pb p ia _ (h.below hb).2 hl hi.a0 hi.a1 (Lib.hid rfl))
set_option maxRecDepth 100000 in
set_option maxHeartbeats 2000000 in
theorem jstores_at (op ia b c n : Int) (w W0 : World) (Pb : Nat) (r : Bool) (hW0 : W0 = w.alloc (.cells (insC ⟨op, ia, b, c, n⟩) 45)) (HB : Hid (Below w.heap.size w W0)) (HI : Hid (blk W0 w.heap.size (insC ⟨op, ia, b, c, n⟩) 45))
    (HT : Hid (∀ w1, Below w.heap.size w w1 → Calls Tryd.prog 30 #[.int .u8 b, .pointer (some ⟨Pb, 0, none⟩)] w1 fun e w' => e = .returned (.bool r) ∧ w1 = w')) :
    Calls Tryd.prog 20 #[.agg (insC ⟨op, ia, b, c, n⟩), .func (.func 30) #[] #[.pointer (some ⟨Pb, 0, none⟩)]] w (AggPost w (.bool ((op == 11 || op == 13) && r))) := by
  have c0 : W0.cell? ⟨w.heap.size, 0, none⟩ = some (.int .u8 op) := blk_cell HI.out 0 _ rfl
  have c2 : W0.cell? ⟨w.heap.size, 2, none⟩ = some (.int .u8 b) := blk_cell HI.out 2 _ rfl
  by_cases h11 : op = 11
  · have q11 : (op == 11) = true := by simpa using h11
    rw [q11, Bool.true_or, Bool.true_and]
    clear h11
    go_enter Tryd.func20, Tryd.ntmps20
    go_upto_region 1 with (fail)
    rw [← hW0]
    clear hW0
    go_wp2_with (go_at_call 30; ((with_reducible refine (HT.out _ HB.out).mono ?_); rintro e w1 ⟨rfl, rfl⟩))
    go_ret
    exact ⟨rfl, HB.out⟩
  · have q11 : (op == 11) = false := by simpa using h11
    by_cases h13 : op = 13
    · have q13 : (op == 13) = true := by simpa using h13
      rw [q11, q13, Bool.false_or, Bool.true_and]
      clear h11 h13
      go_enter Tryd.func20, Tryd.ntmps20
      go_upto_region 1 with (fail)
      rw [← hW0]
      clear hW0
      go_wp2_with (go_at_call 30; ((with_reducible refine (HT.out _ HB.out).mono ?_); rintro e w1 ⟨rfl, rfl⟩))
      go_ret
      exact ⟨rfl, HB.out⟩
    · have q13 : (op == 13) = false := by simpa using h13
      rw [q11, q13, Bool.false_or, Bool.false_and]
      clear h11 h13
      go_enter Tryd.func20, Tryd.ntmps20
      go_upto_region 1 with (fail)
      rw [← hW0]
      clear hW0
      go_wp2
      go_ret
      exact ⟨rfl, HB.out⟩
def storB (p : PProg) (i : PIns) : Bool := (i.op == 11 || i.op == 13) && decide (i.b < p.locals.length)
theorem jstores_n (i : PIns) (w : World) (Pb : Nat) (p : PProg) (h : ThW w Pb p) (hl : p.locals.length ≤ 200) (hi : OkI i) :
    Calls Tryd.prog 20 #[.agg (insC i), .func (.func 30) #[] #[.pointer (some ⟨Pb, 0, none⟩)]] w (AggPost w (.bool (storB p i))) := by
  obtain ⟨op, ia, b, c, n⟩ := i
  exact jstores_at op ia b c n w _ Pb _ rfl (Lib.hid ((Below.refl _ _).alloc (Nat.le_refl _) _)) (Lib.hid (blk_new _ _ _)) (Lib.hid fun w1 hb => jthere_n w1 Pb p b _ (h.below hb).2 hl hi.b0 hi.b1 (Lib.hid rfl))

/-! ### add -/
def orK (r s : Nat → Bool) (k : Nat) : Nat → Bool := fun j => if j < k then r j || s j else r j
theorem orK_0 (r s : Nat → Bool) : orK r s 0 = r := by unfold orK; simp
theorem orK_next {r s : Nat → Bool} {k : Nat} {b : Bool} (hb : b = (r k || s k)) : (fun j => if j = k then b else orK r s k j) = orK r s (k + 1) := by
  subst hb
  funext j
  unfold orK
  by_cases e : j = k
  · subst e; simp
  · by_cases h : j < k
    · have h2 : j < k + 1 := by omega
      simp [e, h, h2]
    · have h2 : ¬ j < k + 1 := by omega
      simp [e, h, h2]
/-- One block alone is written. -/
structure OneB (w w' : World) (X : Nat) (cs : Array Value) (t : TypeId) : Prop where
  blk : blk w' X cs t
  below : ∀ B, B ≤ X → Below B w w'
  ne : ∀ g, g < w.heap.size → g ≠ X → w'.heap[g]? = w.heap[g]?
  size : w.heap.size ≤ w'.heap.size
section
variable {w wr w' : World} {X m k : Nat} {r : Nat → Bool} {cs : Array Value} {t : TypeId}
theorem OneB.refl (h : Go.Proofs.YtjkpbajojgdooaaDoor.blk w X cs t) : OneB w w X cs t := ⟨h, fun B _ => Below.refl B w, fun _ _ _ => rfl, Nat.le_refl _⟩
theorem OneB.set (h : OneB w wr X (boolRow m r) t) (b : Bool) : OneB w (wr.setCell ⟨X, k, none⟩ (.bool b)) X (boolRow m (fun j => if j = k then b else r j)) t := by
  rw [setCell_putB h.blk, boolRow_set]
  exact ⟨putB_at h.blk _ _, fun B hB => (h.below B hB).trans (putB_below wr hB _ _), fun g hg hn => by rw [putB_ne _ hn]; exact h.ne g hg hn, by rw [putB_size]; exact h.size⟩
end
set_option maxRecDepth 100000 in
set_option maxHeartbeats 4000000 in
theorem jadd_n (w : World) (X Y m : Nat) (r s : Nat → Bool) (hm : m ≤ 1000) (HX : Hid (blk w X (boolRow m r) 4)) (HY : Hid (blk w Y (boolRow m s) 4)) :
    Calls Tryd.prog 31 #[.slice (some ⟨X, 0, none⟩) m m, .slice (some ⟨Y, 0, none⟩) m m] w fun e w' => e = .returned undef ∧ OneB w w' X (boolRow m (fun j => r j || s j)) 4 := by
  have HXY : Hid (X = Y → boolRow m r = boolRow m s) := Lib.hid fun e => by
    subst e
    have h := HX.out.symm.trans HY.out
    simp only [Option.some.injEq, Obj.cells.injEq] at h
    exact h.1
  go_enter Tryd.func31, Tryd.ntmps31
  go_wp2_with (fail)
  go_loopw [8] (fun v8 wr => ∃ k : Nat, k ≤ m ∧ v8 = .int .i64 k ∧ Hid (OneB w wr X (boolRow m (orK r s k)) 4)) (fun v8 _ => m - (intOf v8).toNat)
  case atStart => exact ⟨0, Nat.zero_le _, rfl, Lib.hid (by rw [orK_0]; exact .refl HX.out)⟩
  case round =>
    obtain ⟨k, hk, rfl, HW⟩ := hrel
    by_cases hlt : k < m
    · have hki : (k : Int) < (m : Int) := by omega
      have hk0 : (0 : Int) ≤ (k : Int) := by omega
      have cx : wr.cell? ⟨X, k, none⟩ = some (.bool (r k)) := blk_cell HW.out.blk k _ (by rw [boolRow_get hlt]; unfold orK; rw [if_neg (Nat.lt_irrefl k)])
      have fx := blk_frozen HW.out.blk k
      have cy : wr.cell? ⟨Y, k, none⟩ = some (.bool (s k)) := by
        by_cases e : X = Y
        · have h9 := congrArg (fun z : Array Value => z[k]?) (HXY.out e)
          simp only [boolRow_get hlt, Option.some.injEq, Value.bool.injEq] at h9
          rw [← e, cx, h9]
        · refine blk_cell (show blk wr Y (boolRow m s) 4 from ?_) k _ (boolRow_get hlt)
          unfold blk
          rw [HW.out.ne Y (blk_lt HY.out) (fun h => e h.symm)]
          exact HY.out
      obtain ⟨b, hb⟩ : ∃ b, b = (r k || s k) := ⟨_, rfl⟩
      have HN : Hid (OneB w (wr.setCell ⟨X, k, none⟩ (.bool b)) X (boolRow m (orK r s (k + 1))) 4) := Lib.hid (by
        rw [← orK_next hb]; exact HW.out.set b)
      clear HW
      rcases hrk : r k with _ | _
      all_goals
        rw [hrk] at cx hb
        simp only [Bool.false_or, Bool.true_or] at hb
        subst hb
        clear hrk
        go_wp2
        go_roundw
        case rel => exact ⟨k + 1, by omega, by go_num, HN⟩
        case measure => simp [intOf]; omega
    · have hke : k = m := by omega
      have hkn : ¬ ((k : Int) < (m : Int)) := by omega
      have HE : Hid (OneB w wr X (boolRow m (fun j => r j || s j)) 4) := Lib.hid (by
        have h := HW.out
        rw [hke] at h
        rw [boolRow_congr (r := fun j => r j || s j) (s := orK r s m) (fun j hj => by unfold orK; rw [if_pos hj])]
        exact h)
      clear hke HW
      go_wp2
      refine bodyPost_end (results_none rfl _ _ _) rfl ?_
      exact ⟨rfl, HE.out⟩
end Go.Proofs.YtjkpbajojgdooaaDoor

/- The program's leak: what moves reach, of each local. -/
namespace Go.Proofs.YtjkpbajojgdooaaDoor
set_option linter.unusedSimpArgs false
set_option linter.unusedVariables false
open Go.RowKit

def MvPost (w : World) (q : PProg) (e : Ending) (w' : World) : Prop := ∃ G ad M, e = .returned (.slice (some ⟨G, 0, none⟩) q.locals.length q.locals.length) ∧ GridW w.heap.size w w' G q.locals.length q.locals.length q.locals.length ad M ∧ WayM q M
theorem eqM_next (k : Nat) : (fun x => if x = k then (fun y => if y = k then true else (if k = k then (fun _ => false) else (fun b => k == b)) y) else (if x = k then (fun _ => false) else (fun b => x == b))) = (fun (a b : Nat) => a == b) := by
  funext x y
  by_cases e : x = k
  · subst e
    by_cases e2 : y = x
    · subst e2; simp
    · have e3 : ¬ x = y := fun h => e2 h.symm
      simp [e2, e3]
  · simp [e]
section
variable {B : Nat} {w wr w' : World} {G n m k : Nat} {ad : Nat → Nat} {M : Nat → Nat → Bool}
theorem GridW.one (h : GridW B w wr G n m k ad M) {a : Nat} (ha : a < k) {r : Nat → Bool} (hw : OneB wr w' (ad a) (boolRow m r) 4) : GridW B w w' G n m k ad (fun x => if x = a then r else M x) := by
  have hf := h.far a ha
  have hB := h.hB
  refine ⟨h.below.trans (hw.below B (by omega)), h.hB, h.kn, ?_, fun x hx => ?_, h.far, h.inj⟩
  · unfold blk; rw [hw.ne G (blk_lt h.out) (by omega)]; exact h.out
  · by_cases e : x = a
    · subst e
      rw [if_pos rfl]
      exact hw.blk
    · rw [if_neg e]
      unfold blk
      rw [hw.ne _ (blk_lt (h.rows x hx)) (by
        rcases Nat.lt_or_gt_of_ne e with h1 | h1
        · have := h.inj x a h1 ha; omega
        · have := h.inj a x h1 hx; omega)]
      exact h.rows x hx
theorem GridW.drew (h : GridW B w wr G n m k ad M) : GridW B w wr.drew G n m k ad M := h.next (Below.refl _ _).drew
end
set_option maxRecDepth 100000 in
set_option maxHeartbeats 8000000 in
theorem jmoved_at (w W0 : World) (p : PProg) (vt' : Value) (bb o k' Pb : Nat)
    (hW0 : W0 = w.alloc (.cells (progC vt' p (.slice (some ⟨bb, o, none⟩) p.code.length k')) 25)) (HS : Hid (Below w.heap.size w W0)) (KP : Hid (blk W0 w.heap.size (progC vt' p (.slice (some ⟨bb, o, none⟩) p.code.length k')) 25))
    (hlen : p.code.length ≤ 200) (hl8 : p.locals.length ≤ 8) (g1 : p.code.length ≤ k') (g2 : k' ≤ 9223372036854775807) (hbb : bb < w.heap.size)
    (HCO : Hid (∀ m i, p.code[m]? = some i → w.rangeAt bb (o + m * 5) (insC i).toList)) (HOK : Hid (OkP p)) (HC : Hid ((checkL p).2 = 0))
    (HT : Hid (∀ (w1 : World) (a : Int), Below w.heap.size w w1 → 0 ≤ a → a ≤ 255 → a < p.locals.length → Calls Tryd.prog 30 #[.int .u8 a, .pointer (some ⟨Pb, 0, none⟩)] w1 fun e w' => e = .returned (.bool true) ∧ w1 = w')) :
    Calls Tryd.prog 16 #[.agg (progC vt' p (.slice (some ⟨bb, o, none⟩) p.code.length k')), .func (.func 30) #[] #[.pointer (some ⟨Pb, 0, none⟩)]] w (MvPost w p) := by
  have hmk : ∀ w, (Instr.makeSlice 28 (.int .i64 (min (p.locals.length : Int) 256)) (.int .i64 (min (p.locals.length : Int) 256))).run Tryd.prog w = .ok (.slice (some ⟨w.heap.size, 0, none⟩) p.locals.length p.locals.length) (w.alloc (.cells (madeCells #[.slice none 0 0] p.locals.length) 40)) := fun w => by
    rw [show min (p.locals.length : Int) 256 = (p.locals.length : Int) by omega]
    exact run_make_row' _ _ _ _ Tryd.underlying28 infoBoolsG rfl _ _ p.locals.length (by omega) (by omega) w
  have hmk2 : ∀ w, (Instr.makeSlice 40 (.int .i64 (p.locals.length : Int)) (.int .i64 (p.locals.length : Int))).run Tryd.prog w = .ok (.slice (some ⟨w.heap.size, 0, none⟩) p.locals.length p.locals.length) (w.alloc (.cells (madeCells #[.bool false] p.locals.length) 4)) := fun w => run_make_row' _ _ _ _ Tryd.underlying40 infoBoolG rfl _ _ p.locals.length (by omega) (by omega) w
  have HMK2 := Lib.hid hmk2
  have hn256 : (p.locals.length : Int) < 256 := by omega
  have p1 : W0.cell? ⟨w.heap.size, 1, none⟩ = some (str p.locals) := blk_cell KP.out 1 _ rfl
  clear hmk2
  go_enter Tryd.func16, Tryd.ntmps16
  go_upto_region 1 with (fail)
  rw [← hW0]
  clear hW0
  go_upto_region 2 with (fail)
  rw [gridC_zeros _ p.locals.length (fun _ => 0)]
  have HG0 : Hid (GridW W0.heap.size W0 (W0.alloc (.cells (gridC p.locals.length p.locals.length 0 (fun _ => 0)) 40)) W0.heap.size p.locals.length p.locals.length 0 (fun _ => 0) (fun a b => a == b)) := Lib.hid (GridW.new (Below.refl _ _) (Nat.le_refl _) _ _ _ _)
  obtain ⟨wa, hwa⟩ : ∃ wa, wa = W0.alloc (.cells (gridC p.locals.length p.locals.length 0 (fun _ => 0)) 40) := ⟨_, rfl⟩
  obtain ⟨G, hG⟩ : ∃ G, G = W0.heap.size := ⟨_, rfl⟩
  rw [← hwa, ← hG] at HG0 ⊢
  have hGl : w.heap.size < G := by rw [hG]; exact blk_lt KP.out
  have HWG : Hid (Below w.heap.size w W0 ∧ W0.heap.size = G) := Lib.hid ⟨HS.out, hG.symm⟩
  clear hwa hG hmk hn256 p1
  go_wp2_with (fail)
  go_loopw [18] (fun v18 wr => ∃ (k : Nat) (ad : Nat → Nat), k ≤ p.locals.length ∧ v18 = .int .i64 k ∧ Hid (GridW G W0 wr G p.locals.length p.locals.length k ad (fun a b => a == b))) (fun v18 _ => p.locals.length - (intOf v18).toNat)
  case atStart => exact ⟨0, _, Nat.zero_le _, rfl, HG0⟩
  case round =>
    obtain ⟨k, ad, hk, rfl, HG⟩ := hrel
    clear HG0
    by_cases hkl : k < p.locals.length
    · have hki : (k : Int) < (p.locals.length : Int) := by omega
      have hk0 : (0 : Int) ≤ (k : Int) := by omega
      have hba := blk_alloc HG.out.out (.cells (madeCells #[.bool false] p.locals.length) 4)
      have ch : (wr.alloc (.cells (madeCells #[.bool false] p.locals.length) 4)).cell? ⟨G, k, none⟩ = some (.slice none 0 0) := blk_cell hba k _ (gridC_last hkl)
      have fh := blk_frozen hba k
      clear hba
      have hmk2 := HMK2.out
      go_upto_region 6 with (fail)
      rw [boolRow_zeros]
      have HG2 := Lib.hid (HG.out.more hkl (fun _ => false))
      obtain ⟨w2, hw2⟩ : ∃ w2, w2 = (wr.alloc (.cells (boolRow p.locals.length (fun _ => false)) 4)).setCell ⟨G, k, none⟩ (.slice (some ⟨wr.heap.size, 0, none⟩) p.locals.length p.locals.length) := ⟨_, rfl⟩
      obtain ⟨R, hR⟩ : ∃ R, R = wr.heap.size := ⟨_, rfl⟩
      rw [← hR] at hw2 HG2
      rw [← hw2] at HG2
      rw [← hR, ← hw2]
      clear hw2 hmk2 ch fh HG hR
      have c1 : w2.cell? ⟨G, k, none⟩ = some (.slice (some ⟨R, 0, none⟩) p.locals.length p.locals.length) := by have h9 := HG2.out.cell (a := k) (by omega); simpa using h9
      have hb2 := HG2.out.rows k (by omega)
      simp only [if_pos] at hb2
      have c2 : w2.cell? ⟨R, k, none⟩ = some (.bool false) := blk_cell hb2 k _ (boolRow_get hkl)
      have f2 := blk_frozen hb2 k
      have HN : Hid (GridW G W0 (w2.setCell ⟨R, k, none⟩ (.bool true)) G p.locals.length p.locals.length (k + 1) (fun a => if a = k then R else ad a) (fun a b => a == b)) := Lib.hid (by
        have h9 := HG2.out.setc (a := k) (j := k) (by omega) true
        rw [eqM_next] at h9
        simp only [if_pos] at h9
        exact h9)
      clear hb2 HG2
      go_wp2
      go_roundw
      case rel => exact ⟨k + 1, _, by omega, by go_num, HN⟩
      case measure => simp [intOf]; omega
    · have hke : k = p.locals.length := by omega
      have hkn : ¬ ((k : Int) < (p.locals.length : Int)) := by omega
      have HG1 : Hid (GridW G W0 wr G p.locals.length p.locals.length p.locals.length ad (fun a b => a == b)) := Lib.hid (by have h9 := HG.out; rw [hke] at h9; exact h9)
      have HP3 : Hid (wr.cell? ⟨w.heap.size, 3, none⟩ = some (.slice (some ⟨bb, o, none⟩) p.code.length k')) := Lib.hid (by
        have h9 : blk wr w.heap.size (progC vt' p (.slice (some ⟨bb, o, none⟩) p.code.length k')) 25 := by
          unfold blk
          rw [HG.out.below.block _ hGl]
          exact KP.out
        exact blk_cell h9 3 _ rfl)
      clear hke HG HMK2 HS KP
      have HBW : Hid (∀ w', Below G W0 w' → Below w.heap.size w w') := Lib.hid fun w' hb => HWG.out.1.trans (hb.mono (Nat.le_of_lt hGl))
      have p3 := HP3.out
      clear HP3
      go_wp2_with (fail)
      clear p3
      go_loopw [37] (fun v37 wr => ∃ (m : Nat) (M : Nat → Nat → Bool), m ≤ p.code.length ∧ v37 = .int .i64 m ∧ Hid (GridW G W0 wr G p.locals.length p.locals.length p.locals.length ad M) ∧ Hid (EdgeT p m M)) (fun v37 _ => p.code.length - (intOf v37).toNat)
      case atStart => exact ⟨0, _, Nat.zero_le _, rfl, HG1, Lib.hid EdgeT.nought⟩
      case round =>
        obtain ⟨m, M, hm, rfl, HG, HE⟩ := hrel
        clear HG1
        by_cases hml : m < p.code.length
        · have hmi : (m : Int) < (p.code.length : Int) := by omega
          have hm0 : (0 : Int) ≤ (m : Int) := by omega
          obtain ⟨i, hi⟩ : ∃ i, p.code[m]? = some i := ⟨_, List.getElem?_eq_getElem hml⟩
          have hr := rangeAt_below (HCO.out m i hi) hbb (HBW.out _ HG.out.below)
          have hmem := List.mem_of_getElem? hi
          obtain ⟨-, -, ya0, ya1, yb0, yb1, -⟩ := HOK.out.ins i hmem
          by_cases h7 : i.op = 7
          · have hms := move_same HC.out hmem h7
            have hh := (check_ok HC.out).1
            have ya2 := (local_lt hh ya0 hms.1).1
            have yb2 := (local_lt hh yb0 (by have := hms.2; have := hms.1; omega)).1
            obtain ⟨x, hx⟩ : ∃ x : Nat, i.b = (x : Int) := ⟨i.b.toNat, by omega⟩
            obtain ⟨y, hy⟩ : ∃ y : Nat, i.a = (y : Int) := ⟨i.a.toNat, by omega⟩
            have HE2 := Lib.hid (HE.out.take hi h7 hx hy)
            obtain ⟨op, ia, b, c, nn⟩ := i
            dsimp only at h7 hx hy ya0 ya1 yb0 yb1 ya2 yb2
            subst hx hy h7
            obtain ⟨d0, d1, d2, d3, d4⟩ : (wr.cell? ⟨bb, o + m * 5, none⟩ = some (.int .u8 7)) ∧ wr.cell? ⟨bb, o + m * 5 + 1, none⟩ = some (.int .u8 (y : Int)) ∧ wr.cell? ⟨bb, o + m * 5 + 2, none⟩ = some (.int .u8 (x : Int)) ∧ wr.cell? ⟨bb, o + m * 5 + 3, none⟩ = some (.int .u8 c) ∧ wr.cell? ⟨bb, o + m * 5 + 4, none⟩ = some (.int .i64 nn) := ⟨hr 0 _ rfl, hr 1 _ rfl, hr 2 _ rfl, hr 3 _ rfl, hr 4 _ rfl⟩
            have hxn : x < p.locals.length := by omega
            have hyn : y < p.locals.length := by omega
            have HTA := Lib.hid (fun w1 hb => HT.out w1 (y : Int) (HBW.out w1 hb) ya0 ya1 ya2)
            have HTB := Lib.hid (fun w1 hb => HT.out w1 (x : Int) (HBW.out w1 hb) yb0 yb1 yb2)
            clear hr hi hmem hms hh HE
            go_upto_region 11 with (fail)
            have hab : Below wr.heap.size wr (wr.alloc (.cells (insC ⟨7, (y : Int), (x : Int), c, nn⟩) 45)) := (Below.refl _ _).alloc (Nat.le_refl _) _
            have HG2 := Lib.hid (HG.out.next hab)
            have HI : Hid (blk (wr.alloc (.cells (insC ⟨7, (y : Int), (x : Int), c, nn⟩) 45)) wr.heap.size (insC ⟨7, (y : Int), (x : Int), c, nn⟩) 45) := Lib.hid (blk_new _ _ _)
            obtain ⟨I, hI⟩ : ∃ I, I = wr.heap.size := ⟨_, rfl⟩
            obtain ⟨w3, hw3⟩ : ∃ w3, w3 = wr.alloc (.cells (insC ⟨7, (y : Int), (x : Int), c, nn⟩) 45) := ⟨_, rfl⟩
            rw [← hw3] at HG2 HI ⊢
            rw [← hI] at HI ⊢
            clear hab hw3 hI d0 d1 d2 d3 d4 HG
            have e0 : w3.cell? ⟨I, 0, none⟩ = some (.int .u8 7) := blk_cell HI.out 0 _ rfl
            have e1 : w3.cell? ⟨I, 1, none⟩ = some (.int .u8 (y : Int)) := blk_cell HI.out 1 _ rfl
            have e2 : w3.cell? ⟨I, 2, none⟩ = some (.int .u8 (x : Int)) := blk_cell HI.out 2 _ rfl
            go_upto_region 12 with (first
              | (go_at_call 30; ((with_reducible refine (HTA.out w3 HG2.out.below).mono ?_); rintro e w5 ⟨rfl, rfl⟩))
              | (go_at_call 30; ((with_reducible refine (HTB.out w3 HG2.out.below).mono ?_); rintro e w5 ⟨rfl, rfl⟩)))
            have cG := HG2.out.cell hxn
            have cR := HG2.out.at hxn hyn
            have fR := blk_frozen (HG2.out.rows x hxn) y
            have hxi : (x : Int) < (p.locals.length : Int) := by omega
            have hyi : (y : Int) < (p.locals.length : Int) := by omega
            refine wp_region_still_tail 8 (by kernel_rfl) (by kernel_rfl) ?_
            simp only [List.take_succ_cons, List.take_zero, List.drop_succ_cons, List.drop_zero]
            change wpStill _ _ w3.drew (fun a' => wpList _ _ _ _ a' w3.drew) _ _
            repeat still_step
            refine wpStill_nil ?_
            have HN : Hid (GridW G W0 (w3.drew.setCell ⟨ad x, y, none⟩ (.bool true)) G p.locals.length p.locals.length p.locals.length ad (setM M x y)) := Lib.hid (HG2.out.drew.setc hxn true)
            clear HG2 HI
            go_wp2
            go_roundw
            case rel => exact ⟨m + 1, _, by omega, by go_num, HN, HE2⟩
            case measure => simp [intOf]; omega
          · have HE2 := Lib.hid (HE.out.skip hi h7)
            obtain ⟨op, ia, b, c, nn⟩ := i
            have q7 : (op == 7) = false := by simpa using h7
            obtain ⟨d0, d1, d2, d3, d4⟩ : (wr.cell? ⟨bb, o + m * 5, none⟩ = some (.int .u8 op)) ∧ wr.cell? ⟨bb, o + m * 5 + 1, none⟩ = some (.int .u8 ia) ∧ wr.cell? ⟨bb, o + m * 5 + 2, none⟩ = some (.int .u8 b) ∧ wr.cell? ⟨bb, o + m * 5 + 3, none⟩ = some (.int .u8 c) ∧ wr.cell? ⟨bb, o + m * 5 + 4, none⟩ = some (.int .i64 nn) := ⟨hr 0 _ rfl, hr 1 _ rfl, hr 2 _ rfl, hr 3 _ rfl, hr 4 _ rfl⟩
            clear hr hi hmem HE ya0 ya1 yb0 yb1 h7
            go_upto_region 11 with (fail)
            have hab : Below wr.heap.size wr (wr.alloc (.cells (insC ⟨op, ia, b, c, nn⟩) 45)) := (Below.refl _ _).alloc (Nat.le_refl _) _
            have HG2 := Lib.hid (HG.out.next hab)
            have HI : Hid (blk (wr.alloc (.cells (insC ⟨op, ia, b, c, nn⟩) 45)) wr.heap.size (insC ⟨op, ia, b, c, nn⟩) 45) := Lib.hid (blk_new _ _ _)
            obtain ⟨I, hI⟩ : ∃ I, I = wr.heap.size := ⟨_, rfl⟩
            obtain ⟨w3, hw3⟩ : ∃ w3, w3 = wr.alloc (.cells (insC ⟨op, ia, b, c, nn⟩) 45) := ⟨_, rfl⟩
            rw [← hw3] at HG2 HI ⊢
            rw [← hI] at HI ⊢
            clear hab hw3 hI d0 d1 d2 d3 d4 HG
            have e0 : w3.cell? ⟨I, 0, none⟩ = some (.int .u8 op) := blk_cell HI.out 0 _ rfl
            clear HI
            go_wp2
            go_roundw
            case rel => exact ⟨m + 1, _, by omega, by go_num, HG2, HE2⟩
            case measure => simp [intOf]; omega
        · have hme : m = p.code.length := by omega
          have hmn : ¬ ((m : Int) < (p.code.length : Int)) := by omega
          have HA : Hid (WarM (EdgeQ p) p.locals.length 0 0 M) := Lib.hid (by have h9 := HE.out; rw [hme] at h9; exact h9.war)
          have HG1 := HG
          clear hme HE HG HT HCO
          go_wp2_with (fail)
          go_loopw [67] (fun v67 wr => ∃ (b : Nat) (M : Nat → Nat → Bool), b ≤ p.locals.length ∧ v67 = .int .i64 b ∧ Hid (GridW G W0 wr G p.locals.length p.locals.length p.locals.length ad M) ∧ Hid (WarM (EdgeQ p) p.locals.length b 0 M)) (fun v67 _ => p.locals.length - (intOf v67).toNat)
          case atStart => exact ⟨0, _, Nat.zero_le _, rfl, HG1, HA⟩
          case round =>
            obtain ⟨b, M, hb, rfl, HG, HA1⟩ := hrel
            clear HG1 HA
            by_cases hbl : b < p.locals.length
            · have hbi : (b : Int) < (p.locals.length : Int) := by omega
              have hb0 : (0 : Int) ≤ (b : Int) := by omega
              go_wp2_with (fail)
              go_loopw [72] (fun v72 wr => ∃ (k : Nat) (M : Nat → Nat → Bool), k ≤ p.locals.length ∧ v72 = .int .i64 k ∧ Hid (GridW G W0 wr G p.locals.length p.locals.length p.locals.length ad M) ∧ Hid (WarM (EdgeQ p) p.locals.length b k M)) (fun v72 _ => p.locals.length - (intOf v72).toNat)
              case atStart => exact ⟨0, _, Nat.zero_le _, rfl, HG, HA1⟩
              case round =>
                obtain ⟨k, M, hk, rfl, HG2, HA2⟩ := hrel
                clear HG HA1
                by_cases hkl : k < p.locals.length
                · have hki : (k : Int) < (p.locals.length : Int) := by omega
                  have hk0 : (0 : Int) ≤ (k : Int) := by omega
                  have cK := HG2.out.cell hkl
                  have cB := HG2.out.cell hbl
                  have cV := HG2.out.at hkl hbl
                  rcases hv : M k b with _ | _
                  · rw [hv] at cV
                    have HN := Lib.hid (HA2.out.skip hkl hv)
                    clear hv HA2
                    go_wp2
                    go_roundw
                    case rel => exact ⟨k + 1, _, by omega, by go_num, HG2, HN⟩
                    case measure => simp [intOf]; omega
                  · rw [hv] at cV
                    have HN := Lib.hid (HA2.out.take hkl hbl hv)
                    clear hv HA2
                    have HAD := Lib.hid (jadd_n wr.drew (ad k) (ad b) p.locals.length (M k) (M b) (by omega) (Lib.hid (HG2.out.drew.rows k hkl)) (Lib.hid (HG2.out.drew.rows b hbl)))
                    go_upto_region 21 with (fail)
                    refine wp_region_still_tail 8 (by kernel_rfl) (by kernel_rfl) ?_
                    simp only [List.take_succ_cons, List.take_zero, List.drop_succ_cons, List.drop_zero]
                    change wpStill _ _ wr.drew (fun a' => wpList _ _ _ _ a' wr.drew) _ _
                    repeat still_step
                    refine wpStill_nil ?_
                    go_wp2_with (go_at_call 31; refine HAD.out.mono ?_; rintro e w5 ⟨rfl, ho⟩; have HG3 : Hid (GridW G W0 w5 G p.locals.length p.locals.length p.locals.length ad (orR M k b)) := Lib.hid (HG2.out.drew.one hkl ho); clear ho)
                    clear HG2 HAD
                    go_roundw
                    case rel => exact ⟨k + 1, _, by omega, by go_num, HG3, HN⟩
                    case measure => simp [intOf]; omega
                · have hke : k = p.locals.length := by omega
                  have hkn2 : ¬ ((k : Int) < (p.locals.length : Int)) := by omega
                  have HN : Hid (WarM (EdgeQ p) p.locals.length (b + 1) 0 M) := Lib.hid (by have h9 := HA2.out; rw [hke] at h9; exact h9.next)
                  clear hke HA2
                  go_wp2
                  go_roundw
                  case rel => exact ⟨b + 1, _, by omega, by go_num, HG2, HN⟩
                  case measure => simp [intOf]; omega
            · have hbe : b = p.locals.length := by omega
              have hbn : ¬ ((b : Int) < (p.locals.length : Int)) := by omega
              have HX : Hid (MvPost w p (.returned (.slice (some ⟨G, 0, none⟩) p.locals.length p.locals.length)) wr) := Lib.hid (by
                have h9 := HA1.out
                rw [hbe] at h9
                exact ⟨G, ad, M, rfl, { HG.out with below := HBW.out _ HG.out.below, hB := Nat.le_of_lt hGl }, h9.way HC.out HOK.out.ins⟩)
              clear hbe HA1 HG
              go_wp2
              go_ret
              exact HX.out
end Go.Proofs.YtjkpbajojgdooaaDoor

/- The program's leak: May. -/
namespace Go.Proofs.YtjkpbajojgdooaaDoor
set_option linter.unusedSimpArgs false
set_option linter.unusedVariables false
open Go.RowKit

section
variable {q : PProg}
theorem may_way {M : Nat → Nat → Bool} (hok : ∀ i ∈ q.code, OkI i) (hw : WayM q M) {i : PIns} {k y : Nat} (hi : q.code[k]? = some i) (h5 : i.op = 5) (hy : i.a = (y : Int)) (hyn : y < q.locals.length) (b : Nat) : mayB q (b : Int) k = M y b := by
  have h1 : mayB q (b : Int) k = true ↔ M y b = true := by
    rw [mayB_iff, may_star hok, hw y b hyn]
    constructor
    · rintro ⟨j, a, hj, _, ha, hs⟩
      rw [hi] at hj
      cases hj
      have : a = y := by omega
      rw [← this]; exact hs
    · intro hs
      exact ⟨i, y, hi, h5, hy, hs⟩
  exact Bool.eq_iff_iff.2 h1
theorem may_none (hok : ∀ i ∈ q.code, OkI i) {k : Nat} (h : ∀ i, q.code[k]? = some i → i.op ≠ 5) (b : Nat) : mayB q (b : Int) k = false := by
  rw [mayB_no, may_star hok]
  rintro ⟨i, _, hi, h5, _⟩
  exact h i hi h5
/-- The truths of May behind the first m places. -/
def MayM (q : PProg) (m : Nat) (M : Nat → Nat → Bool) : Prop := ∀ a j, a < q.locals.length → M a j = (decide (j < m) && mayB q (a : Int) j)
def MayI (q : PProg) (m x : Nat) (M : Nat → Nat → Bool) : Prop := ∀ a j, a < q.locals.length → M a j = ((decide (j < m) && mayB q (a : Int) j) || (decide (j = m) && decide (a < x) && mayB q (a : Int) m))
theorem MayM.nought : MayM q 0 (fun _ _ => false) := fun a j _ => by simp
theorem MayM.skip {m : Nat} {M : Nat → Nat → Bool} (h : MayM q m M) (hn : ∀ b : Nat, mayB q (b : Int) m = false) : MayM q (m + 1) M := fun a j ha => by
  rw [h a j ha]
  by_cases e : j = m
  · subst e; simp [hn]
  · have e2 : (j < m + 1) = (j < m) := propext (by omega)
    simp [e2]
theorem MayM.inner {m : Nat} {M : Nat → Nat → Bool} (h : MayM q m M) : MayI q m 0 M := fun a j ha => by
  rw [h a j ha]; simp
theorem MayI.next {m x : Nat} {M : Nat → Nat → Bool} {r : Bool} (h : MayI q m x M) (hr : mayB q (x : Int) m = r) : MayI q m (x + 1) (fun a => if a = x then (fun j => if j = m then r else M x j) else M a) := fun a j ha => by
  show (if a = x then (fun j => if j = m then r else M x j) else M a) j = _
  by_cases e : a = x
  · subst e
    rw [if_pos rfl]
    by_cases e2 : j = m
    · subst e2
      simp [hr]
    · have h9 := h a j ha
      simp [e2] at h9 ⊢
      exact h9
  · rw [if_neg e, h a j ha]
    have e2 : (a < x + 1) = (a < x) := propext (by omega)
    simp [e2]
theorem MayI.done {m : Nat} {M : Nat → Nat → Bool} (h : MayI q m q.locals.length M) : MayM q (m + 1) M := fun a j ha => by
  rw [h a j ha]
  by_cases e : j = m
  · subst e; simp [ha]
  · have e2 : (j < m + 1) = (j < m) := propext (by omega)
    simp [e, e2]
theorem MayM.done {M : Nat → Nat → Bool} (hok : ∀ i ∈ q.code, OkI i) (h : MayM q q.code.length M) {a k : Nat} (ha : a < q.locals.length) (hk : k ≤ q.code.length) : M a k = mayB q (a : Int) k := by
  rw [h a k ha]
  by_cases e : k < q.code.length
  · simp [e]
  · rw [may_none hok (fun i hi => absurd (List.getElem?_eq_some_iff.1 hi).1 e)]
    simp
theorem GridW.mayAt {B : Nat} {w wr : World} {H : Nat} {ad : Nat → Nat} {M : Nat → Nat → Bool} (h : GridW B w wr H q.locals.length (q.code.length + 1) q.locals.length ad M) (hok : ∀ i ∈ q.code, OkI i) (hM : MayM q q.code.length M) (hn : q.locals.length ≤ 8) (hl : q.code.length ≤ 200) :
    MayAt wr (.slice (some ⟨H, 0, none⟩) q.locals.length q.locals.length) q := by
  refine ⟨(List.range q.locals.length).map fun a => Value.slice (some ⟨ad a, 0, none⟩) (q.code.length + 1) (q.code.length + 1), by simp, ?_, fun a r hr => ?_⟩
  · refine ⟨some ⟨H, 0, none⟩, q.locals.length, by simp, by simp, by unfold maxLen; omega, .inr ⟨H, 0, rfl, blk_lt h.out, fun j x hx => ?_⟩⟩
    rw [List.getElem?_map] at hx
    have hj : j < q.locals.length := by
      by_cases e : j < q.locals.length
      · exact e
      · rw [List.getElem?_eq_none (by simp; omega)] at hx; simp at hx
    rw [List.getElem?_range hj] at hx
    simp only [Option.map_some, Option.some.injEq] at hx
    rw [Nat.zero_add, ← hx]
    exact h.cell hj
  · rw [List.getElem?_map] at hr
    have ha : a < q.locals.length := by
      by_cases e : a < q.locals.length
      · exact e
      · rw [List.getElem?_eq_none (by simp; omega)] at hr; simp at hr
    rw [List.getElem?_range ha] at hr
    simp only [Option.map_some, Option.some.injEq] at hr
    subst hr
    refine ⟨some ⟨ad a, 0, none⟩, q.code.length + 1, by rw [mayRow_len], by rw [mayRow_len]; exact Nat.le_refl _, by unfold maxLen; omega, .inr ⟨ad a, 0, rfl, blk_lt (h.rows a ha), fun k x hx => ?_⟩⟩
    have hk : k ≤ q.code.length := by
      have := (List.getElem?_eq_some_iff.1 hx).1
      rw [mayRow_len] at this; omega
    rw [mayRow_at hk] at hx
    cases hx
    rw [Nat.zero_add, ← hM.done hok ha hk]
    exact h.at ha (by omega)
end
set_option maxRecDepth 100000 in
set_option maxHeartbeats 8000000 in
theorem jmay_at (w W0 : World) (p : PProg) (vt' : Value) (bb o k' : Nat)
    (hW0 : W0 = w.alloc (.cells (progC vt' p (.slice (some ⟨bb, o, none⟩) p.code.length k')) 25)) (HS : Hid (Below w.heap.size w W0)) (KP : Hid (blk W0 w.heap.size (progC vt' p (.slice (some ⟨bb, o, none⟩) p.code.length k')) 25))
    (hlen : p.code.length ≤ 200) (hl8 : p.locals.length ≤ 8) (g1 : p.code.length ≤ k') (g2 : k' ≤ 9223372036854775807) (hbb : bb < w.heap.size)
    (HCO : Hid (∀ m i, p.code[m]? = some i → w.rangeAt bb (o + m * 5) (insC i).toList)) (HOK : Hid (OkP p)) (HC : Hid ((checkL p).2 = 0))
    (HTH : Hid (∀ w1, Calls Tryd.prog 15 #[.agg (progC vt' p (.slice (some ⟨bb, o, none⟩) p.code.length k'))] w1 fun e w' => e = .returned (.func (.func 30) #[] #[.pointer (some ⟨w1.heap.size, 0, none⟩)]) ∧ Below w1.heap.size w1 w' ∧ blk w' w1.heap.size (progC vt' p (.slice (some ⟨bb, o, none⟩) p.code.length k')) 25))
    (HMV : Hid (∀ (w1 : World) (Pb : Nat), Below w.heap.size w w1 → ThW w1 Pb p → Calls Tryd.prog 16 #[.agg (progC vt' p (.slice (some ⟨bb, o, none⟩) p.code.length k')), .func (.func 30) #[] #[.pointer (some ⟨Pb, 0, none⟩)]] w1 (MvPost w1 p)))
    (HMK : Hid (∀ (w1 : World) (Pb : Nat) (i : PIns), ThW w1 Pb p → i ∈ p.code → Calls Tryd.prog 17 #[.agg (insC i), .func (.func 30) #[] #[.pointer (some ⟨Pb, 0, none⟩)]] w1 (AggPost w1 (.bool (i.op == 5 && decide (i.a < p.locals.length)))))) :
    Calls Tryd.prog 8 #[.agg (progC vt' p (.slice (some ⟨bb, o, none⟩) p.code.length k'))] w (MayPost w p) := by
  have hmk : ∀ w, (Instr.makeSlice 28 (.int .i64 (p.locals.length : Int)) (.int .i64 (p.locals.length : Int))).run Tryd.prog w = .ok (.slice (some ⟨w.heap.size, 0, none⟩) p.locals.length p.locals.length) (w.alloc (.cells (madeCells #[.slice none 0 0] p.locals.length) 40)) := fun w => run_make_row' _ _ _ _ Tryd.underlying28 infoBoolsG rfl _ _ p.locals.length (by omega) (by omega) w
  have hmk2 : ∀ w, (Instr.makeSlice 40 (.int .i64 ((p.code.length : Int) + 1)) (.int .i64 ((p.code.length : Int) + 1))).run Tryd.prog w = .ok (.slice (some ⟨w.heap.size, 0, none⟩) (p.code.length + 1) (p.code.length + 1)) (w.alloc (.cells (madeCells #[.bool false] (p.code.length + 1)) 4)) := fun w => run_make_row' _ _ _ _ Tryd.underlying40 infoBoolG rfl _ _ (p.code.length + 1) (by omega) (by omega) w
  have HMK2 := Lib.hid hmk2
  clear hmk2
  go_enter Tryd.func8, Tryd.ntmps8
  go_upto_region 1 with (fail)
  rw [← hW0]
  clear hW0
  go_upto_region 2 with (first
    | (refine wpList_loadB rfl 25 _ rfl w.heap.size (progC vt' p (.slice (some ⟨bb, o, none⟩) p.code.length k')) rfl 25 KP.out _ Tryd.underlying25 rfl prog_info ?_)
    | (go_at_call 15; refine (HTH.out _).mono ?_; rintro e w1 ⟨rfl, hb, hq⟩; have HS1 := Lib.hid (HS.out.trans (hb.mono HS.out.size)); have KP1 := Lib.hid (blk_below KP.out hb); have HT1 : Hid (ThW w1 W0.heap.size p) := Lib.hid ⟨blk_lt hq, blk_cell hq 1 _ rfl⟩; clear hb hq))
  generalize W0.heap.size = Pb at HT1 ⊢
  clear KP HS HTH
  go_upto_region 3 with (first
    | (refine wpList_loadB rfl 25 _ rfl w.heap.size (progC vt' p (.slice (some ⟨bb, o, none⟩) p.code.length k')) rfl 25 KP1.out _ Tryd.underlying25 rfl prog_info ?_)
    | (go_at_call 16; refine (HMV.out _ Pb HS1.out HT1.out).mono ?_; rintro e w2 ⟨G, ad, M, rfl, hg, hwm⟩; have HS2 := Lib.hid (HS1.out.trans (hg.below.mono HS1.out.size)); have KP2 := Lib.hid (blk_below KP1.out hg.below); have HT2 := Lib.hid (HT1.out.below hg.below); have HGG : Hid (GridW w.heap.size w w2 G p.locals.length p.locals.length p.locals.length ad M) := Lib.hid { hg with below := HS2.out, hB := Nat.le_trans HS1.out.size hg.hB }; have HWM := Lib.hid hwm; clear hg hwm))
  clear KP1 HS1 HT1 HMV
  have p1 : w2.cell? ⟨w.heap.size, 1, none⟩ = some (str p.locals) := blk_cell KP2.out 1 _ rfl
  go_upto_region 4 with (fail)
  rw [gridC_zeros _ (p.code.length + 1) (fun _ => 0)]
  have HG0 : Hid (GridW w2.heap.size w2 (w2.alloc (.cells (gridC p.locals.length (p.code.length + 1) 0 (fun _ => 0)) 40)) w2.heap.size p.locals.length (p.code.length + 1) 0 (fun _ => 0) (fun _ _ => false)) := Lib.hid (GridW.new (Below.refl _ _) (Nat.le_refl _) _ _ _ _)
  obtain ⟨wa, hwa⟩ : ∃ wa, wa = w2.alloc (.cells (gridC p.locals.length (p.code.length + 1) 0 (fun _ => 0)) 40) := ⟨_, rfl⟩
  obtain ⟨H, hH⟩ : ∃ H, H = w2.heap.size := ⟨_, rfl⟩
  rw [← hwa, ← hH] at HG0 ⊢
  have HHH := Lib.hid hH
  have HFA : Hid (∀ w', Below H w2 w' → w'.cell? ⟨w.heap.size, 3, none⟩ = some (.slice (some ⟨bb, o, none⟩) p.code.length k') ∧ Below w.heap.size w w' ∧ ThW w' Pb p ∧ GridW w.heap.size w w' G p.locals.length p.locals.length p.locals.length ad M) := Lib.hid fun w' hb => by
    rw [HHH.out] at hb
    exact ⟨blk_cell (blk_below KP2.out hb) 3 _ rfl, HS2.out.trans (hb.mono HS2.out.size), HT2.out.below hb, HGG.out.next hb⟩
  clear hwa hH hmk p1 HT2 HGG HS2 KP2
  go_wp2_with (fail)
  go_loopw [22] (fun v22 wr => ∃ (k : Nat) (a2 : Nat → Nat), k ≤ p.locals.length ∧ v22 = .int .i64 k ∧ Hid (GridW H w2 wr H p.locals.length (p.code.length + 1) k a2 (fun _ _ => false))) (fun v22 _ => p.locals.length - (intOf v22).toNat)
  case atStart => exact ⟨0, _, Nat.zero_le _, rfl, HG0⟩
  case round =>
    obtain ⟨k, a2, hk, rfl, HG⟩ := hrel
    clear HG0
    by_cases hkl : k < p.locals.length
    · have hki : (k : Int) < (p.locals.length : Int) := by omega
      have hk0 : (0 : Int) ≤ (k : Int) := by omega
      have p3 := (HFA.out _ HG.out.below).1
      have hba := blk_alloc HG.out.out (.cells (madeCells #[.bool false] (p.code.length + 1)) 4)
      have ch : (wr.alloc (.cells (madeCells #[.bool false] (p.code.length + 1)) 4)).cell? ⟨H, k, none⟩ = some (.slice none 0 0) := blk_cell hba k _ (gridC_last hkl)
      have fh := blk_frozen hba k
      have hmk2 := HMK2.out
      have HN : Hid (GridW H w2 ((wr.alloc (.cells (madeCells #[.bool false] (p.code.length + 1)) 4)).setCell ⟨H, k, none⟩ (.slice (some ⟨wr.heap.size, 0, none⟩) (p.code.length + 1) (p.code.length + 1))) H p.locals.length (p.code.length + 1) (k + 1) (fun a => if a = k then wr.heap.size else a2 a) (fun _ _ => false)) := Lib.hid (by
        have h9 := HG.out.more hkl (fun _ => false)
        rw [← boolRow_zeros] at h9
        have e : (fun a => if a = k then (fun _ => false) else (fun (a b : Nat) => false) a) = (fun (a b : Nat) => false) := by funext a b; split <;> rfl
        rw [e] at h9
        exact h9)
      clear hba HG
      go_wp2
      go_roundw
      case rel => exact ⟨k + 1, _, by omega, by go_num, HN⟩
      case measure => simp [intOf]; omega
    · have hke : k = p.locals.length := by omega
      have hkn : ¬ ((k : Int) < (p.locals.length : Int)) := by omega
      have HG1 : Hid (GridW H w2 wr H p.locals.length (p.code.length + 1) p.locals.length a2 (fun _ _ => false)) := Lib.hid (by have h9 := HG.out; rw [hke] at h9; exact h9)
      have p3 := (HFA.out _ HG.out.below).1
      clear hke HG HMK2
      go_wp2_with (fail)
      clear p3
      go_loopw [37] (fun v37 wr => ∃ (m : Nat) (M2 : Nat → Nat → Bool), m ≤ p.code.length ∧ v37 = .int .i64 m ∧ Hid (GridW H w2 wr H p.locals.length (p.code.length + 1) p.locals.length a2 M2) ∧ Hid (MayM p m M2)) (fun v37 _ => p.code.length - (intOf v37).toNat)
      case atStart => exact ⟨0, _, Nat.zero_le _, rfl, HG1, Lib.hid MayM.nought⟩
      case round =>
        obtain ⟨m, M2, hm, rfl, HG, HE⟩ := hrel
        clear HG1
        by_cases hml : m < p.code.length
        · have hmi : (m : Int) < (p.code.length : Int) := by omega
          have hm0 : (0 : Int) ≤ (m : Int) := by omega
          obtain ⟨i, hi⟩ : ∃ i, p.code[m]? = some i := ⟨_, List.getElem?_eq_getElem hml⟩
          have hr := rangeAt_below (HCO.out m i hi) hbb (HFA.out _ HG.out.below).2.1
          have hmem := List.mem_of_getElem? hi
          obtain ⟨-, -, ya0, ya1, -⟩ := HOK.out.ins i hmem
          have HMI := Lib.hid (fun (w1 : World) (hb : Below H w2 w1) => HMK.out w1 Pb i (HFA.out _ hb).2.2.1 hmem)
          by_cases h5 : i.op = 5
          · have hnl := new_local HC.out hmem h5
            have ya2 := (local_lt (check_ok HC.out).1 ya0 hnl).1
            obtain ⟨y, hy⟩ : ∃ y : Nat, i.a = (y : Int) := ⟨i.a.toNat, by omega⟩
            have HWY := Lib.hid (fun b => may_way HOK.out.ins HWM.out hi h5 hy (by omega) b)
            have hq : (i.op == 5 && decide (i.a < p.locals.length)) = true := by simp [h5, ya2]
            rw [hq] at HMI
            obtain ⟨op, ia, b, c, nn⟩ := i
            dsimp only at h5 hy ya0 ya1 ya2
            subst hy h5
            obtain ⟨d0, d1, d2, d3, d4⟩ : (wr.cell? ⟨bb, o + m * 5, none⟩ = some (.int .u8 5)) ∧ wr.cell? ⟨bb, o + m * 5 + 1, none⟩ = some (.int .u8 (y : Int)) ∧ wr.cell? ⟨bb, o + m * 5 + 2, none⟩ = some (.int .u8 b) ∧ wr.cell? ⟨bb, o + m * 5 + 3, none⟩ = some (.int .u8 c) ∧ wr.cell? ⟨bb, o + m * 5 + 4, none⟩ = some (.int .i64 nn) := ⟨hr 0 _ rfl, hr 1 _ rfl, hr 2 _ rfl, hr 3 _ rfl, hr 4 _ rfl⟩
            have hyn : y < p.locals.length := by omega
            clear hr hi hmem hnl hq
            go_upto_region 12 with (fail)
            have hab : Below wr.heap.size wr (wr.alloc (.cells (insC ⟨5, (y : Int), b, c, nn⟩) 45)) := (Below.refl _ _).alloc (Nat.le_refl _) _
            have HG2 := Lib.hid (HG.out.next hab)
            have HI : Hid (blk (wr.alloc (.cells (insC ⟨5, (y : Int), b, c, nn⟩) 45)) wr.heap.size (insC ⟨5, (y : Int), b, c, nn⟩) 45) := Lib.hid (blk_new _ _ _)
            obtain ⟨I, hI⟩ : ∃ I, I = wr.heap.size := ⟨_, rfl⟩
            obtain ⟨w3, hw3⟩ : ∃ w3, w3 = wr.alloc (.cells (insC ⟨5, (y : Int), b, c, nn⟩) 45) := ⟨_, rfl⟩
            rw [← hw3] at HG2 HI ⊢
            rw [← hI] at HI ⊢
            clear hab hw3 hI d0 d1 d2 d3 d4 HG
            go_upto_region 13 with (first
              | (refine wpList_loadB rfl 45 _ rfl I (insC ⟨5, (y : Int), b, c, nn⟩) rfl 45 HI.out _ Tryd.underlying45 rfl ins_info ?_)
              | (go_at_call 17; ((with_reducible refine (HMI.out _ HG2.out.below).mono ?_); rintro e w5 ⟨rfl, hb⟩; have HG3 := Lib.hid (HG2.out.next hb); have HI3 := Lib.hid (blk_below HI.out hb); clear hb)))
            clear HG2 HI HMI
            have e1 : w5.cell? ⟨I, 1, none⟩ = some (.int .u8 (y : Int)) := blk_cell HI3.out 1 _ rfl
            have cG := (HFA.out _ HG3.out.below).2.2.2.cell hyn
            have hyi : (y : Int) < (p.locals.length : Int) := by omega
            go_wp2_with (fail)
            clear e1 cG HI3
            have HE3 := Lib.hid HE.out.inner
            clear HE
            go_loopw [52] (fun v52 wr => ∃ (x : Nat) (M2 : Nat → Nat → Bool), x ≤ p.locals.length ∧ v52 = .int .i64 x ∧ Hid (GridW H w2 wr H p.locals.length (p.code.length + 1) p.locals.length a2 M2) ∧ Hid (MayI p m x M2)) (fun v52 _ => p.locals.length - (intOf v52).toNat)
            case atStart => exact ⟨0, _, Nat.zero_le _, rfl, HG3, HE3⟩
            case round =>
              obtain ⟨x, M2, hx, rfl, HG, HE⟩ := hrel
              clear HG3 HE3
              by_cases hxl : x < p.locals.length
              · have hxi : (x : Int) < (p.locals.length : Int) := by omega
                have hx0 : (0 : Int) ≤ (x : Int) := by omega
                have hml2 : (m : Int) < (p.code.length : Int) + 1 := by omega
                have cM := (HFA.out _ HG.out.below).2.2.2.at hyn hxl
                have cH := HG.out.cell hxl
                have cR := HG.out.at hxl (j := m) (by omega)
                have fR := blk_frozen (HG.out.rows x hxl) m
                have HE2 := Lib.hid (HE.out.next (HWY.out x))
                have HN := Lib.hid (HG.out.setc (j := m) hxl (M y x))
                clear HG HE
                go_wp2
                go_roundw
                case rel => exact ⟨x + 1, _, by omega, by go_num, HN, HE2⟩
                case measure => simp [intOf]; omega
              · have hxe : x = p.locals.length := by omega
                have hxn : ¬ ((x : Int) < (p.locals.length : Int)) := by omega
                have HE2 : Hid (MayM p (m + 1) M2) := Lib.hid (by have h9 := HE.out; rw [hxe] at h9; exact h9.done)
                clear hxe HE
                go_wp2
                go_roundw
                case rel => exact ⟨m + 1, _, by omega, by go_num, HG, HE2⟩
                case measure => simp [intOf]; omega
          · have HE2 := Lib.hid (HE.out.skip (may_none HOK.out.ins (fun j hj => by rw [hi] at hj; cases hj; exact h5)))
            have hq : (i.op == 5 && decide (i.a < p.locals.length)) = false := by simp [h5]
            rw [hq] at HMI
            obtain ⟨op, ia, b, c, nn⟩ := i
            obtain ⟨d0, d1, d2, d3, d4⟩ : (wr.cell? ⟨bb, o + m * 5, none⟩ = some (.int .u8 op)) ∧ wr.cell? ⟨bb, o + m * 5 + 1, none⟩ = some (.int .u8 ia) ∧ wr.cell? ⟨bb, o + m * 5 + 2, none⟩ = some (.int .u8 b) ∧ wr.cell? ⟨bb, o + m * 5 + 3, none⟩ = some (.int .u8 c) ∧ wr.cell? ⟨bb, o + m * 5 + 4, none⟩ = some (.int .i64 nn) := ⟨hr 0 _ rfl, hr 1 _ rfl, hr 2 _ rfl, hr 3 _ rfl, hr 4 _ rfl⟩
            clear hr hi hmem HE hq h5 ya0 ya1
            go_upto_region 12 with (fail)
            have hab : Below wr.heap.size wr (wr.alloc (.cells (insC ⟨op, ia, b, c, nn⟩) 45)) := (Below.refl _ _).alloc (Nat.le_refl _) _
            have HG2 := Lib.hid (HG.out.next hab)
            have HI : Hid (blk (wr.alloc (.cells (insC ⟨op, ia, b, c, nn⟩) 45)) wr.heap.size (insC ⟨op, ia, b, c, nn⟩) 45) := Lib.hid (blk_new _ _ _)
            obtain ⟨I, hI⟩ : ∃ I, I = wr.heap.size := ⟨_, rfl⟩
            obtain ⟨w3, hw3⟩ : ∃ w3, w3 = wr.alloc (.cells (insC ⟨op, ia, b, c, nn⟩) 45) := ⟨_, rfl⟩
            rw [← hw3] at HG2 HI ⊢
            rw [← hI] at HI ⊢
            clear hab hw3 hI d0 d1 d2 d3 d4 HG
            go_wp2_with (first
              | (refine wpList_loadB rfl 45 _ rfl I (insC ⟨op, ia, b, c, nn⟩) rfl 45 HI.out _ Tryd.underlying45 rfl ins_info ?_)
              | (go_at_call 17; ((with_reducible refine (HMI.out _ HG2.out.below).mono ?_); rintro e w5 ⟨rfl, hb⟩; have HG3 := Lib.hid (HG2.out.next hb); clear hb)))
            go_roundw
            case rel => exact ⟨m + 1, _, by omega, by go_num, HG3, HE2⟩
            case measure => simp [intOf]; omega
        · have hme : m = p.code.length := by omega
          have hmn : ¬ ((m : Int) < (p.code.length : Int)) := by omega
          have HX : Hid (MayPost w p (.returned (.slice (some ⟨H, 0, none⟩) p.locals.length p.locals.length)) wr) := Lib.hid (by
            have h9 := HE.out
            rw [hme] at h9
            exact ⟨_, rfl, HG.out.mayAt HOK.out.ins h9 hl8 hlen, (HFA.out _ HG.out.below).2.1⟩)
          clear hme HE HG
          go_wp2
          go_ret
          exact HX.out
end Go.Proofs.YtjkpbajojgdooaaDoor
