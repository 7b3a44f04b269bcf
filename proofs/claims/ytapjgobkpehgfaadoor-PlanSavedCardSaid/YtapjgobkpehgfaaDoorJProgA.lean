/-
  The program's leak: is a local there, what makes, what stores, and the truths of a row added to another one's.
-/
import Derived.Test.YtapjgobkpehgfaaDoorJBox
import Derived.Test.YtapjgobkpehgfaaDoorJWar
import Derived.Test.YtapjgobkpehgfaaDoorUBA
import Derived.Deep.RegionHeld3
import Derived.Deep.QuietTactic
namespace Go.Proofs.YtapjgobkpehgfaaDoor
set_option linter.unusedSimpArgs false
set_option linter.unusedVariables false
open Go.RowKit

set_option maxRecDepth 100000 in
set_option maxHeartbeats 2000000 in
theorem jthere_n (w : World) (Pb : Nat) (p : PProg) (a : Int) (r : Bool) (h1 : w.cell? ⟨Pb, 1, none⟩ = some (str p.locals)) (hl : p.locals.length ≤ 200) (h0 : 0 ≤ a) (ha : a ≤ 255) (hr : Hid (decide (a < p.locals.length) = r)) :
    Calls Tryd.prog 34 #[.int .u8 a, .pointer (some ⟨Pb, 0, none⟩)] w fun e w' => e = .returned (.bool r) ∧ w = w' := by
  rcases r with _ | _
  · have h2 : ¬ (a < (p.locals.length : Int)) := by simpa using hr.out
    go_enter Tryd.func34, Tryd.ntmps34
    go_wp2
    go_ret
    exact ⟨rfl, rfl⟩
  · have h2 : a < (p.locals.length : Int) := by simpa using hr.out
    go_enter Tryd.func34, Tryd.ntmps34
    go_wp2
    go_ret
    exact ⟨rfl, rfl⟩
set_option maxRecDepth 100000 in
set_option maxHeartbeats 2000000 in
theorem jisthere_n (w : World) (p : PProg) (vt vc : Value) :
    Calls Tryd.prog 20 #[.agg (progC vt p vc)] w fun e w' => e = .returned (.func (.func 34) #[] #[.pointer (some ⟨w.heap.size, 0, none⟩)]) ∧ Below w.heap.size w w' ∧ blk w' w.heap.size (progC vt p vc) 32 := by
  have hmf : ∀ (fn : Fn) (first cap : Array Value) (w : World), (Instr.makeFunc fn first cap).run Tryd.prog w = .ok (.func fn first cap) w := fun _ _ _ _ => rfl
  go_enter Tryd.func20, Tryd.ntmps20
  go_wp2
  go_ret
  exact ⟨rfl, (Below.refl _ _).alloc (Nat.le_refl _) _, blk_new _ _ _⟩
set_option maxRecDepth 100000 in
set_option maxHeartbeats 2000000 in
theorem jmakes_at (op ia b c n : Int) (w W0 : World) (Pb : Nat) (r : Bool) (hW0 : W0 = w.alloc (.cells (insC ⟨op, ia, b, c, n⟩) 29)) (HB : Hid (Below w.heap.size w W0)) (HI : Hid (blk W0 w.heap.size (insC ⟨op, ia, b, c, n⟩) 29))
    (HT : Hid (∀ w1, Below w.heap.size w w1 → Calls Tryd.prog 34 #[.int .u8 ia, .pointer (some ⟨Pb, 0, none⟩)] w1 fun e w' => e = .returned (.bool r) ∧ w1 = w')) :
    Calls Tryd.prog 21 #[.agg (insC ⟨op, ia, b, c, n⟩), .func (.func 34) #[] #[.pointer (some ⟨Pb, 0, none⟩)]] w (AggPost w (.bool (op == 5 && r))) := by
  have c0 : W0.cell? ⟨w.heap.size, 0, none⟩ = some (.int .u8 op) := blk_cell HI.out 0 _ rfl
  have c1 : W0.cell? ⟨w.heap.size, 1, none⟩ = some (.int .u8 ia) := blk_cell HI.out 1 _ rfl
  by_cases h5 : op = 5
  · have q5 : (op == 5) = true := by simpa using h5
    rw [q5, Bool.true_and]
    clear h5
    go_enter Tryd.func21, Tryd.ntmps21
    go_upto_region 1 with (fail)
    rw [← hW0]
    clear hW0
    go_wp2_with (go_at_call 34; ((with_reducible refine (HT.out _ HB.out).mono ?_); rintro e w1 ⟨rfl, rfl⟩))
    go_ret
    exact ⟨rfl, HB.out⟩
  · have q5 : (op == 5) = false := by simpa using h5
    rw [q5, Bool.false_and]
    clear h5
    go_enter Tryd.func21, Tryd.ntmps21
    go_upto_region 1 with (fail)
    rw [← hW0]
    clear hW0
    go_wp2
    go_ret
    exact ⟨rfl, HB.out⟩
/-- Where a closure's program lies. -/
def ThW (w : World) (Pb : Nat) (p : PProg) : Prop := Pb < w.heap.size ∧ w.cell? ⟨Pb, 1, none⟩ = some (str p.locals)
theorem ThW.below {w w' : World} {Pb : Nat} {p : PProg} (h : ThW w Pb p) (hb : Below w.heap.size w w') : ThW w' Pb p :=
  ⟨Nat.lt_of_lt_of_le h.1 hb.size, by rw [hb.cell h.1]; exact h.2⟩
theorem jmakes_n (i : PIns) (w : World) (Pb : Nat) (p : PProg) (h : ThW w Pb p) (hl : p.locals.length ≤ 200) (hi : OkI i) :
    Calls Tryd.prog 21 #[.agg (insC i), .func (.func 34) #[] #[.pointer (some ⟨Pb, 0, none⟩)]] w (AggPost w (.bool (i.op == 5 && decide (i.a < p.locals.length)))) := by
  obtain ⟨op, ia, b, c, n⟩ := i
  exact jmakes_at op ia b c n w _ Pb _ rfl (Lib.hid ((Below.refl _ _).alloc (Nat.le_refl _) _)) (Lib.hid (blk_new _ _ _)) (Lib.hid fun w1 hb => jthere_n w1 Pb p ia _ (h.below hb).2 hl hi.a0 hi.a1 (Lib.hid rfl))
set_option maxRecDepth 100000 in
set_option maxHeartbeats 2000000 in
theorem jstores_at (op ia b c n : Int) (w W0 : World) (Pb : Nat) (r : Bool) (hW0 : W0 = w.alloc (.cells (insC ⟨op, ia, b, c, n⟩) 29)) (HB : Hid (Below w.heap.size w W0)) (HI : Hid (blk W0 w.heap.size (insC ⟨op, ia, b, c, n⟩) 29))
    (HT : Hid (∀ w1, Below w.heap.size w w1 → Calls Tryd.prog 34 #[.int .u8 b, .pointer (some ⟨Pb, 0, none⟩)] w1 fun e w' => e = .returned (.bool r) ∧ w1 = w')) :
    Calls Tryd.prog 25 #[.agg (insC ⟨op, ia, b, c, n⟩), .func (.func 34) #[] #[.pointer (some ⟨Pb, 0, none⟩)]] w (AggPost w (.bool ((op == 11 || op == 13) && r))) := by
  have c0 : W0.cell? ⟨w.heap.size, 0, none⟩ = some (.int .u8 op) := blk_cell HI.out 0 _ rfl
  have c2 : W0.cell? ⟨w.heap.size, 2, none⟩ = some (.int .u8 b) := blk_cell HI.out 2 _ rfl
  by_cases h11 : op = 11
  · have q11 : (op == 11) = true := by simpa using h11
    rw [q11, Bool.true_or, Bool.true_and]
    clear h11
    go_enter Tryd.func25, Tryd.ntmps25
    go_upto_region 1 with (fail)
    rw [← hW0]
    clear hW0
    go_wp2_with (go_at_call 34; ((with_reducible refine (HT.out _ HB.out).mono ?_); rintro e w1 ⟨rfl, rfl⟩))
    go_ret
    exact ⟨rfl, HB.out⟩
  · have q11 : (op == 11) = false := by simpa using h11
    by_cases h13 : op = 13
    · have q13 : (op == 13) = true := by simpa using h13
      rw [q11, q13, Bool.false_or, Bool.true_and]
      clear h11 h13
      go_enter Tryd.func25, Tryd.ntmps25
      go_upto_region 1 with (fail)
      rw [← hW0]
      clear hW0
      go_wp2_with (go_at_call 34; ((with_reducible refine (HT.out _ HB.out).mono ?_); rintro e w1 ⟨rfl, rfl⟩))
      go_ret
      exact ⟨rfl, HB.out⟩
    · have q13 : (op == 13) = false := by simpa using h13
      rw [q11, q13, Bool.false_or, Bool.false_and]
      clear h11 h13
      go_enter Tryd.func25, Tryd.ntmps25
      go_upto_region 1 with (fail)
      rw [← hW0]
      clear hW0
      go_wp2
      go_ret
      exact ⟨rfl, HB.out⟩
def storB (p : PProg) (i : PIns) : Bool := (i.op == 11 || i.op == 13) && decide (i.b < p.locals.length)
theorem jstores_n (i : PIns) (w : World) (Pb : Nat) (p : PProg) (h : ThW w Pb p) (hl : p.locals.length ≤ 200) (hi : OkI i) :
    Calls Tryd.prog 25 #[.agg (insC i), .func (.func 34) #[] #[.pointer (some ⟨Pb, 0, none⟩)]] w (AggPost w (.bool (storB p i))) := by
  obtain ⟨op, ia, b, c, n⟩ := i
  exact jstores_at op ia b c n w _ Pb _ rfl (Lib.hid ((Below.refl _ _).alloc (Nat.le_refl _) _)) (Lib.hid (blk_new _ _ _)) (Lib.hid fun w1 hb => jthere_n w1 Pb p b _ (h.below hb).2 hl hi.b0 hi.b1 (Lib.hid rfl))

/-! ### add -/
def orK (r s : Nat → Bool) (k : Nat) : Nat → Bool := fun j => if j < k then r j || s j else r j
theorem orK_0 (r s : Nat → Bool) : orK r s 0 = r := by unfold orK; simp
theorem orK_next {r s : Nat → Bool} {k : Nat} {b : Bool} (hb : b = (r k || s k)) : (fun j => if j = k then b else orK r s k j) = orK r s (k + 1) := by
  subst hb
  funext j
  unfold orK
  by_cases e : j = k
  · subst e; simp
  · by_cases h : j < k
    · have h2 : j < k + 1 := by omega
      simp [e, h, h2]
    · have h2 : ¬ j < k + 1 := by omega
      simp [e, h, h2]
/-- One block alone is written. -/
structure OneB (w w' : World) (X : Nat) (cs : Array Value) (t : TypeId) : Prop where
  blk : blk w' X cs t
  below : ∀ B, B ≤ X → Below B w w'
  ne : ∀ g, g < w.heap.size → g ≠ X → w'.heap[g]? = w.heap[g]?
  size : w.heap.size ≤ w'.heap.size
section
variable {w wr w' : World} {X m k : Nat} {r : Nat → Bool} {cs : Array Value} {t : TypeId}
theorem OneB.refl (h : Go.Proofs.YtapjgobkpehgfaaDoor.blk w X cs t) : OneB w w X cs t := ⟨h, fun B _ => Below.refl B w, fun _ _ _ => rfl, Nat.le_refl _⟩
theorem OneB.set (h : OneB w wr X (boolRow m r) t) (b : Bool) : OneB w (wr.setCell ⟨X, k, none⟩ (.bool b)) X (boolRow m (fun j => if j = k then b else r j)) t := by
  rw [setCell_putB h.blk, boolRow_set]
  exact ⟨putB_at h.blk _ _, fun B hB => (h.below B hB).trans (putB_below wr hB _ _), fun g hg hn => by rw [putB_ne _ hn]; exact h.ne g hg hn, by rw [putB_size]; exact h.size⟩
end
set_option maxRecDepth 100000 in
set_option maxHeartbeats 4000000 in
theorem jadd_n (w : World) (X Y m : Nat) (r s : Nat → Bool) (hm : m ≤ 1000) (HX : Hid (blk w X (boolRow m r) 4)) (HY : Hid (blk w Y (boolRow m s) 4)) :
    Calls Tryd.prog 35 #[.slice (some ⟨X, 0, none⟩) m m, .slice (some ⟨Y, 0, none⟩) m m] w fun e w' => e = .returned undef ∧ OneB w w' X (boolRow m (fun j => r j || s j)) 4 := by
  have HXY : Hid (X = Y → boolRow m r = boolRow m s) := Lib.hid fun e => by
    subst e
    have h := HX.out.symm.trans HY.out
    simp only [Option.some.injEq, Obj.cells.injEq] at h
    exact h.1
  go_enter Tryd.func35, Tryd.ntmps35
  go_wp2_with (fail)
  go_loopw [8] (fun v8 wr => ∃ k : Nat, k ≤ m ∧ v8 = .int .i64 k ∧ Hid (OneB w wr X (boolRow m (orK r s k)) 4)) (fun v8 _ => m - (intOf v8).toNat)
  case atStart => exact ⟨0, Nat.zero_le _, rfl, Lib.hid (by rw [orK_0]; exact .refl HX.out)⟩
  case round =>
    obtain ⟨k, hk, rfl, HW⟩ := hrel
    by_cases hlt : k < m
    · have hki : (k : Int) < (m : Int) := by omega
      have hk0 : (0 : Int) ≤ (k : Int) := by omega
      have cx : wr.cell? ⟨X, k, none⟩ = some (.bool (r k)) := blk_cell HW.out.blk k _ (by rw [boolRow_get hlt]; unfold orK; rw [if_neg (Nat.lt_irrefl k)])
      have fx := blk_frozen HW.out.blk k
      have cy : wr.cell? ⟨Y, k, none⟩ = some (.bool (s k)) := by
        by_cases e : X = Y
        · have h9 := congrArg (fun z : Array Value => z[k]?) (HXY.out e)
          simp only [boolRow_get hlt, Option.some.injEq, Value.bool.injEq] at h9
          rw [← e, cx, h9]
        · refine blk_cell (show blk wr Y (boolRow m s) 4 from ?_) k _ (boolRow_get hlt)
          unfold blk
          rw [HW.out.ne Y (blk_lt HY.out) (fun h => e h.symm)]
          exact HY.out
      obtain ⟨b, hb⟩ : ∃ b, b = (r k || s k) := ⟨_, rfl⟩
      have HN : Hid (OneB w (wr.setCell ⟨X, k, none⟩ (.bool b)) X (boolRow m (orK r s (k + 1))) 4) := Lib.hid (by
        rw [← orK_next hb]; exact HW.out.set b)
      clear HW
      rcases hrk : r k with _ | _
      all_goals
        rw [hrk] at cx hb
        simp only [Bool.false_or, Bool.true_or] at hb
        subst hb
        clear hrk
        go_wp2
        go_roundw
        case rel => exact ⟨k + 1, by omega, by go_num, HN⟩
        case measure => simp [intOf]; omega
    · have hke : k = m := by omega
      have hkn : ¬ ((k : Int) < (m : Int)) := by omega
      have HE : Hid (OneB w wr X (boolRow m (fun j => r j || s j)) 4) := Lib.hid (by
        have h := HW.out
        rw [hke] at h
        rw [boolRow_congr (r := fun j => r j || s j) (s := orK r s m) (fun j hj => by unfold orK; rw [if_pos hj])]
        exact h)
      clear hke HW
      go_wp2
      refine bodyPost_end (results_none rfl _ _ _) rfl ?_
      exact ⟨rfl, HE.out⟩
end Go.Proofs.YtapjgobkpehgfaaDoor
