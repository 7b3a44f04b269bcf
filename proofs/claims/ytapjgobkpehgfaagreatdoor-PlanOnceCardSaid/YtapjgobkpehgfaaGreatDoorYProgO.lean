/-
  The program's fresh: its Out does what it is to do; what a round of its In takes away.
-/
import Derived.Test.YtapjgobkpehgfaaGreatDoorUBH
import Derived.Test.YtapjgobkpehgfaaGreatDoorUBI
import Derived.Laws.Shifts
import Derived.Laws.ShiftsVarLaws
namespace Go.Proofs.YtapjgobkpehgfaaGreatDoor
set_option linter.unusedSimpArgs false
set_option linter.unusedVariables false
open Go.RowKit

/-! ### What a round takes away -/
theorem meet_keep {v n : Nat} {out : List Nat} (h : butN (out.getD n 0) v = 0) : meetN v out n = out := meet_same fun a ha => by
  have h1 := congrArg (fun z => z.testBit a) h
  simp only [testBit_but, ha, Bool.true_and, Nat.zero_testBit] at h1
  simpa using h1
theorem but_and {x v : Nat} (h : ¬ butN x v = 0) : x &&& v ≠ x := by
  intro e
  refine h (but_le fun a ha => ?_)
  rw [← e, Nat.testBit_and, Bool.and_eq_true] at ha
  exact ha.2
/-- Of these sets those were taken: b tells whether any is less. -/
structure ShrF (out0 out : List Nat) (b : Bool) : Prop where
  le : totN out ≤ totN out0
  same : b = false → out = out0
  less : b = true → totN out < totN out0
theorem ShrF.start (out : List Nat) : ShrF out out false := ⟨Nat.le_refl _, fun _ => rfl, by intro h; cases h⟩
theorem ShrF.took {out0 out : List Nat} {b : Bool} {q : PProg} {v n : Nat} (h : ShrF out0 out b) (hp : PartF q out) (hp2 : PartF q (meetN v out n)) (hn : n ≤ q.code.length) (hb : ¬ butN (out.getD n 0) v = 0) : ShrF out0 (meetN v out n) true := by
  have h1 : totN (meetN v out n) < totN out := tot_less (meet_le v out n) hp2.lt hp.lt ⟨n, by
    rw [meet_get, if_pos ⟨rfl, by rw [hp.len]; omega⟩]
    exact but_and hb⟩
  exact ⟨by have := h.le; omega, by (intro h; cases h), fun _ => by have := h.le; omega⟩
theorem shr_done {q : PProg} {out0 out : List Nat} (h : ShrF out0 out false) (hp : PartF q out0) (ht : out = turnF q out0) : out = freshL q := by
  have e := h.same rfl
  subst e
  exact hp.done (by
    have h1 := closed_of_same hp.len (fun k _ => by rw [← ht])
    rwa [← ht] at h1)
theorem tot_most {q : PProg} {out : List Nat} (hp : PartF q out) : totN out ≤ 8 * (q.code.length + 1) := by
  have := tot_max out
  rw [hp.len] at this
  exact this

/-! ### bit and Out -/
set_option maxRecDepth 100000 in
set_option maxHeartbeats 2000000 in
theorem ybit_n (a : Int) (w : World) (h0 : 0 ≤ a) (h1 : a ≤ 255) : Calls Tryz.prog 89 #[.int .u8 a] w fun e w' => e = .returned (.int .u8 ((bitN a : Nat) : Int)) ∧ w = w' := by
  have HE : Hid ((2 : Int) ^ min a.toNat 8 % 256 = ((bitN a : Nat) : Int)) := Lib.hid (shl_bit h0)
  clear h1
  go_enter Tryz.func89, Tryz.ntmps89
  go_wp2
  go_ret
  exact ⟨congrArg (fun z => Ending.returned (.int .u8 z)) HE.out, rfl⟩
set_option maxRecDepth 100000 in
set_option maxHeartbeats 4000000 in
theorem yout_at (w W0 : World) (p : PProg) (vt' : Value) (bb o k' : Nat) (k : Nat) (op a b c n : Int) (m mA mB r : Nat) (sf : Bool) (sI : Int)
    (hW0 : W0 = w.alloc (.cells (progC vt' p (.slice (some ⟨bb, o, none⟩) p.code.length k')) 25)) (HS : Hid (Below w.heap.size w W0)) (KP : Hid (blk W0 w.heap.size (progC vt' p (.slice (some ⟨bb, o, none⟩) p.code.length k')) 25))
    (hk : k < p.code.length) (g1 : p.code.length ≤ k') (g2 : k' ≤ 9223372036854775807) (HR : Hid (∀ w1, Below w.heap.size w w1 → w1.rangeAt bb (o + k * 5) (insC ⟨op, a, b, c, n⟩).toList))
    (HSF : Hid (∀ w1, Below w.heap.size w w1 → Calls Tryz.prog 88 #[.agg (progC vt' p (.slice (some ⟨bb, o, none⟩) p.code.length k')), .int .i64 k] w1 (AggPost w1 (.bool sf))))
    (HA : Hid (∀ w, Calls Tryz.prog 89 #[.int .u8 a] w fun e w' => e = .returned (.int .u8 ((mA : Nat) : Int)) ∧ w = w'))
    (HBB : Hid (∀ w, Calls Tryz.prog 89 #[.int .u8 b] w fun e w' => e = .returned (.int .u8 ((mB : Nat) : Int)) ∧ w = w'))
    (hs : (sf = true ∧ sI = 0) ∨ (sf = false ∧ sI = (m : Int)))
    (hc : ((op == 5) = true ∧ Hid (bits .or .u8 sI (mA : Int) = (r : Int))) ∨ ((op == 5) = false ∧ (op == 6) = true ∧ Hid (bits .or .u8 sI (mA : Int) = (r : Int))) ∨ ((op == 5) = false ∧ (op == 6) = false ∧ (op == 7) = true ∧ (bits .and .u8 sI (mB : Int) != 0) = false ∧ Hid (bits .andNot .u8 sI (mA : Int) = (r : Int))) ∨
      ((op == 5) = false ∧ (op == 6) = false ∧ (op == 7) = true ∧ (bits .and .u8 sI (mB : Int) != 0) = true ∧ Hid (bits .or .u8 sI (mA : Int) = (r : Int))) ∨ ((op == 5) = false ∧ (op == 6) = false ∧ (op == 7) = false ∧ (op == 10) = true ∧ Hid (bits .andNot .u8 sI (mA : Int) = (r : Int))) ∨
      ((op == 5) = false ∧ (op == 6) = false ∧ (op == 7) = false ∧ (op == 10) = false ∧ (op == 12) = true ∧ Hid (bits .andNot .u8 sI (mA : Int) = (r : Int))) ∨ ((op == 5) = false ∧ (op == 6) = false ∧ (op == 7) = false ∧ (op == 10) = false ∧ (op == 12) = false ∧ Hid (sI = (r : Int)))) :
    Calls Tryz.prog 60 #[.agg (progC vt' p (.slice (some ⟨bb, o, none⟩) p.code.length k')), .int .i64 k, .int .u8 (m : Int)] w (AggPost w (.int .u8 (r : Int))) := by
  have hki : (k : Int) < (p.code.length : Int) := by omega
  have hkn : ¬ ((p.code.length : Int) ≤ (k : Int)) := by omega
  have hk0 : (0 : Int) ≤ (k : Int) := by omega
  have p3 := blk_cell KP.out 3 _ rfl
  go_enter Tryz.func60, Tryz.ntmps60
  go_upto_region 1 with (fail)
  rw [← hW0]
  clear hW0
  go_upto_region 4 with (fail)
  clear p3
  rcases hs with ⟨rfl, rfl⟩ | ⟨rfl, rfl⟩
  all_goals
    go_upto_region 6 with (first
      | (refine wpList_loadB rfl 25 _ rfl w.heap.size (progC vt' p (.slice (some ⟨bb, o, none⟩) p.code.length k')) rfl 25 KP.out _ Tryz.underlying25 rfl prog_info ?_)
      | (go_at_call 88; ((with_reducible refine (HSF.out _ HS.out).mono ?_); rintro e w3 ⟨rfl, hb⟩; have HS3 := Lib.hid (HS.out.trans (hb.mono HS.out.size)); have KP3 := Lib.hid (blk_below KP.out hb); clear hb)))
    have HR3 := Lib.hid (HR.out w3 HS3.out)
    have p3 := blk_cell KP3.out 3 _ rfl
    obtain ⟨d0, d1, d2, d3, d4⟩ : (w3.cell? ⟨bb, o + k * 5, none⟩ = some (.int .u8 op)) ∧ w3.cell? ⟨bb, o + k * 5 + 1, none⟩ = some (.int .u8 a) ∧ w3.cell? ⟨bb, o + k * 5 + 2, none⟩ = some (.int .u8 b) ∧ w3.cell? ⟨bb, o + k * 5 + 3, none⟩ = some (.int .u8 c) ∧ w3.cell? ⟨bb, o + k * 5 + 4, none⟩ = some (.int .i64 n) := ⟨HR3.out 0 _ rfl, HR3.out 1 _ rfl, HR3.out 2 _ rfl, HR3.out 3 _ rfl, HR3.out 4 _ rfl⟩
    go_upto_region 7 with (fail)
    have hab : Below w3.heap.size w3 (w3.alloc (.cells (insC ⟨op, a, b, c, n⟩) 46)) := (Below.refl _ _).alloc (Nat.le_refl _) _
    have HB2 : Hid (Below w.heap.size w (w3.alloc (.cells (insC ⟨op, a, b, c, n⟩) 46))) := Lib.hid (HS3.out.trans (hab.mono HS3.out.size))
    have HI : Hid (blk (w3.alloc (.cells (insC ⟨op, a, b, c, n⟩) 46)) w3.heap.size (insC ⟨op, a, b, c, n⟩) 46) := Lib.hid (blk_new _ _ _)
    obtain ⟨w2, hw2⟩ : ∃ w2, w2 = w3.alloc (.cells (insC ⟨op, a, b, c, n⟩) 46) := ⟨_, rfl⟩
    obtain ⟨I, hI⟩ : ∃ I, I = w3.heap.size := ⟨_, rfl⟩
    rw [← hw2] at HB2 HI ⊢
    rw [← hI] at HI ⊢
    clear hab hw2 hI p3 d0 d1 d2 d3 d4 HR3 KP3 HS3 HR KP HS HSF
    have e0 : w2.cell? ⟨I, 0, none⟩ = some (.int .u8 op) := blk_cell HI.out 0 _ rfl
    have e1 : w2.cell? ⟨I, 1, none⟩ = some (.int .u8 a) := blk_cell HI.out 1 _ rfl
    have e2 : w2.cell? ⟨I, 2, none⟩ = some (.int .u8 b) := blk_cell HI.out 2 _ rfl
    rcases hc with ⟨h1, HX⟩ | ⟨h1, h2, HX⟩ | ⟨h1, h2, h3, h4, HX⟩ | ⟨h1, h2, h3, h4, HX⟩ | ⟨h1, h2, h3, h4, HX⟩ | ⟨h1, h2, h3, h4, h5, HX⟩ | ⟨h1, h2, h3, h4, h5, HX⟩
    all_goals
      go_wp2_with (first
        | (go_at_call 89; ((with_reducible refine (HA.out _).mono ?_); rintro e w' ⟨rfl, rfl⟩))
        | (go_at_call 89; ((with_reducible refine (HBB.out _).mono ?_); rintro e w' ⟨rfl, rfl⟩)))
      go_ret
      exact ⟨congrArg (fun z => Ending.returned (.int .u8 z)) HX.out, HB2.out⟩
set_option maxRecDepth 100000 in
set_option maxHeartbeats 4000000 in
theorem yout_bad (w W0 : World) (p : PProg) (vt' : Value) (x' : Option Addr) (k' : Nat) (k : Int) (m : Nat)
    (hW0 : W0 = w.alloc (.cells (progC vt' p (.slice x' p.code.length k')) 25)) (HS : Hid (Below w.heap.size w W0)) (KP : Hid (blk W0 w.heap.size (progC vt' p (.slice x' p.code.length k')) 25))
    (hk : k < 0 ∨ (0 ≤ k ∧ (p.code.length : Int) ≤ k)) :
    Calls Tryz.prog 60 #[.agg (progC vt' p (.slice x' p.code.length k')), .int .i64 k, .int .u8 (m : Int)] w (AggPost w (.int .u8 (m : Int))) := by
  have p3 := blk_cell KP.out 3 _ rfl
  rcases hk with hk | ⟨h0, hk⟩
  all_goals
    go_enter Tryz.func60, Tryz.ntmps60
    go_upto_region 1 with (fail)
    rw [← hW0]
    clear hW0
    go_wp2
    go_ret
    exact ⟨rfl, HS.out⟩
theorem yout_n (v : Value) (p : PProg) (w : World) (k : Int) (m : Nat) (h : ProgAt w v p) (hok : ∀ i ∈ p.code, OkI i) (hm : m < 256) : Calls Tryz.prog 60 #[v, .int .i64 k, .int .u8 (m : Int)] w (AggPost w (.int .u8 ((outV p k m : Nat) : Int))) := by
  obtain ⟨vt', vc, rfl, htl, hc⟩ := id h
  obtain ⟨x', kx', rfl, g1, g2, g3⟩ := id hc
  unfold maxLen at g2
  have hwb : Below w.heap.size w (w.alloc (.cells (progC vt' p (.slice x' p.code.length kx')) 25)) := (Below.refl _ _).alloc (Nat.le_refl _) _
  by_cases hk : k < 0 ∨ (p.code.length : Int) ≤ k
  · rw [outV_none hk]
    exact yout_bad w _ p vt' x' kx' k m rfl (Lib.hid hwb) (Lib.hid (blk_new _ _ _)) (by omega)
  · obtain ⟨kn, rfl⟩ : ∃ kn : Nat, k = kn := ⟨k.toNat, by omega⟩
    have hi : p.code[kn]? = some (p.code[kn]'(by omega)) := List.getElem?_eq_getElem (by omega)
    generalize p.code[kn]'(by omega) = i at hi
    obtain ⟨bb, o, rfl, hbb, hrng⟩ := g3 kn i hi
    have hoki := hok i (List.mem_of_getElem? hi)
    rw [outV_nat (by omega), outN_at hi]
    have hll := left_lt (sf := safeL p kn) hm
    have hsv : safeV p (kn : Int) = safeL p kn := by unfold safeV; simp
    obtain ⟨op, a, b, c, n⟩ := i
    obtain ⟨o0, o1, a0, a1, b0, b1, c0, c1, n0, n1⟩ := hoki
    simp only at o0 o1 a0 a1 b0 b1 c0 c1 n0 n1
    have hal := bit_lt a
    have hbl := bit_lt b
    refine yout_at w _ p vt' bb o kx' kn op a b c n m (bitN a) (bitN b) _ (safeL p kn) ((leftN (safeL p kn) m : Nat) : Int) rfl (Lib.hid hwb) (Lib.hid (blk_new _ _ _)) (by omega) g1 (by omega) (Lib.hid fun w1 hb => rangeAt_below hrng hbb hb) (Lib.hid fun w1 hb => psafe_n _ p w1 _ _ (h.below hb) hsv) (Lib.hid fun w => ybit_n a w a0 a1) (Lib.hid fun w => ybit_n b w b0 b1) ?_ ?_
    · unfold leftN
      rcases safeL p kn with _ | _
      · exact .inr ⟨rfl, rfl⟩
      · exact .inl ⟨rfl, rfl⟩
    · generalize leftN (safeL p kn) m = s at hll
      unfold outI
      have hS : (op = 5 ∨ op = 6 ∨ op = 7 ∨ op = 10 ∨ op = 12) → setsN ⟨op, a, b, c, n⟩ = bitN a := fun h => sets_bit h
      have hU : op = 7 → usesN ⟨op, a, b, c, n⟩ = bitN b := fun h => by unfold usesN; rw [if_pos (.inl h)]
      by_cases h5 : op = 5
      · exact .inl ⟨by simpa using h5, Lib.hid (by rw [if_pos (.inl h5), hS (by omega)]; exact or_u8 hll hal)⟩
      have q5 : (op == 5) = false := by simpa using h5
      by_cases h6 : op = 6
      · exact .inr (.inl ⟨q5, by simpa using h6, Lib.hid (by rw [if_pos (.inr h6), hS (by omega)]; exact or_u8 hll hal)⟩)
      have q6 : (op == 6) = false := by simpa using h6
      have n56 : ¬ (op = 5 ∨ op = 6) := by omega
      by_cases h7 : op = 7
      · rw [hS (by omega), hU h7]
        by_cases hu : s &&& bitN b = 0
        · exact .inr (.inr (.inl ⟨q5, q6, by simpa using h7, by rw [and9_u8 hll hbl, hu]; rfl, Lib.hid (by rw [if_neg n56, if_pos h7, if_pos hu]; exact but_u8 hll hal)⟩))
        · exact .inr (.inr (.inr (.inl ⟨q5, q6, by simpa using h7, by rw [and9_u8 hll hbl]; simpa using hu, Lib.hid (by rw [if_neg n56, if_pos h7, if_neg hu]; exact or_u8 hll hal)⟩)))
      have q7 : (op == 7) = false := by simpa using h7
      by_cases h10 : op = 10
      · exact .inr (.inr (.inr (.inr (.inl ⟨q5, q6, q7, by simpa using h10, Lib.hid (by rw [if_neg n56, if_neg h7, if_pos (.inl h10), hS (by omega)]; exact but_u8 hll hal)⟩))))
      have q10 : (op == 10) = false := by simpa using h10
      by_cases h12 : op = 12
      · exact .inr (.inr (.inr (.inr (.inr (.inl ⟨q5, q6, q7, q10, by simpa using h12, Lib.hid (by rw [if_neg n56, if_neg h7, if_pos (.inr h12), hS (by omega)]; exact but_u8 hll hal)⟩)))))
      · exact .inr (.inr (.inr (.inr (.inr (.inr ⟨q5, q6, q7, q10, by simpa using h12, Lib.hid (by rw [if_neg n56, if_neg h7, if_neg (show ¬ (op = 10 ∨ op = 12) by omega)])⟩)))))
end Go.Proofs.YtapjgobkpehgfaaGreatDoor
