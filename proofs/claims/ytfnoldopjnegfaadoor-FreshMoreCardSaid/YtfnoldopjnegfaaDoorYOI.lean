/-
  The document's Out.
  The document's In.
-/
import Derived.Test.YtfnoldopjnegfaaDoorVPa
import Derived.Test.YtfnoldopjnegfaaDoorVBI
import Derived.Test.YtfnoldopjnegfaaDoorFLU
import Derived.Test.YtfnoldopjnegfaaDoorFNR
import Derived.Deep.LoopGhost

/- The document's Out. -/
namespace Go.Proofs.YtfnoldopjnegfaaDoor
set_option linter.unusedSimpArgs false
set_option linter.unusedVariables false
open Go.RowKit

theorem and9_u8 {a b : Nat} (ha : a < 256) (hb : b < 256) : bits .and .u8 (a : Int) (b : Int) = ((a &&& b : Nat) : Int) :=
  (bits_nat .u8 8 (Nat.le_refl _) (fun n h0 h1 => wraps_u8 n h0 h1) a b ha hb).1
set_option maxRecDepth 100000 in
set_option maxHeartbeats 8000000 in
theorem rout9_at (w W0 : World) (p : PProg) (vt' : Value) (bb o k' : Nat) (k : Nat) (op a b c n : Int) (m sN uN r : Nat) (sf : Bool) (sI : Int)
    (hW0 : W0 = w.alloc (.cells (progC vt' p (.slice (some ⟨bb, o, none⟩) p.code.length k')) 25)) (HS : Hid (Below w.heap.size w W0)) (KP : Hid (blk W0 w.heap.size (progC vt' p (.slice (some ⟨bb, o, none⟩) p.code.length k')) 25))
    (hk : k < p.code.length) (g1 : p.code.length ≤ k') (g2 : k' ≤ 9223372036854775807) (HR : Hid (W0.rangeAt bb (o + k * 5) (insC ⟨op, a, b, c, n⟩).toList))
    (HSF : Hid (∀ w1, Below w.heap.size w w1 → Calls Tryd.prog 16 #[.agg (progC vt' p (.slice (some ⟨bb, o, none⟩) p.code.length k')), .int .i64 k] w1 (AggPost w1 (.bool sf))))
    (HSE : Hid (∀ w1, Calls Tryd.prog 26 #[.agg (insC ⟨op, a, b, c, n⟩)] w1 (AggPost w1 (.int .u8 (sN : Int))))) (HUS : Hid (∀ w1, Calls Tryd.prog 27 #[.agg (insC ⟨op, a, b, c, n⟩)] w1 (AggPost w1 (.int .u8 (uN : Int)))))
    (hs : (sf = true ∧ sI = 0) ∨ (sf = false ∧ sI = (m : Int)))
    (hc : ((op == 5) = true ∧ Hid (bits .or .u8 sI (sN : Int) = (r : Int))) ∨ ((op == 5) = false ∧ (op == 6) = true ∧ Hid (bits .or .u8 sI (sN : Int) = (r : Int))) ∨ ((op == 5) = false ∧ (op == 6) = false ∧ (op == 7) = true ∧ (bits .and .u8 sI (uN : Int) != 0) = false ∧ Hid (bits .andNot .u8 sI (sN : Int) = (r : Int))) ∨
      ((op == 5) = false ∧ (op == 6) = false ∧ (op == 7) = true ∧ (bits .and .u8 sI (uN : Int) != 0) = true ∧ Hid (bits .or .u8 sI (sN : Int) = (r : Int))) ∨ ((op == 5) = false ∧ (op == 6) = false ∧ (op == 7) = false ∧ (op == 10) = true ∧ Hid (bits .andNot .u8 sI (sN : Int) = (r : Int))) ∨
      ((op == 5) = false ∧ (op == 6) = false ∧ (op == 7) = false ∧ (op == 10) = false ∧ (op == 12) = true ∧ Hid (bits .andNot .u8 sI (sN : Int) = (r : Int))) ∨ ((op == 5) = false ∧ (op == 6) = false ∧ (op == 7) = false ∧ (op == 10) = false ∧ (op == 12) = false ∧ Hid (sI = (r : Int)))) :
    Calls Tryd.prog 15 #[.agg (progC vt' p (.slice (some ⟨bb, o, none⟩) p.code.length k')), .int .i64 k, .int .u8 (m : Int)] w (AggPost w (.int .u8 (r : Int))) := by
  have hki : (k : Int) < (p.code.length : Int) := by omega
  have hkn : ¬ ((p.code.length : Int) ≤ (k : Int)) := by omega
  have hk0 : (0 : Int) ≤ (k : Int) := by omega
  have p3 := blk_cell KP.out 3 _ rfl
  obtain ⟨d0, d1, d2, d3, d4⟩ : (W0.cell? ⟨bb, o + k * 5, none⟩ = some (.int .u8 op)) ∧ W0.cell? ⟨bb, o + k * 5 + 1, none⟩ = some (.int .u8 a) ∧ W0.cell? ⟨bb, o + k * 5 + 2, none⟩ = some (.int .u8 b) ∧ W0.cell? ⟨bb, o + k * 5 + 3, none⟩ = some (.int .u8 c) ∧ W0.cell? ⟨bb, o + k * 5 + 4, none⟩ = some (.int .i64 n) := ⟨HR.out 0 _ rfl, HR.out 1 _ rfl, HR.out 2 _ rfl, HR.out 3 _ rfl, HR.out 4 _ rfl⟩
  go_enter Tryd.func15, Tryd.ntmps15
  go_upto_region 1 with (fail)
  rw [← hW0]
  clear hW0
  go_upto_region 4 with (fail)
  have hab : Below W0.heap.size W0 (W0.alloc (.cells (insC ⟨op, a, b, c, n⟩) 47)) := (Below.refl _ _).alloc (Nat.le_refl _) _
  have HB2 : Hid (Below w.heap.size w (W0.alloc (.cells (insC ⟨op, a, b, c, n⟩) 47))) := Lib.hid (HS.out.trans (hab.mono HS.out.size))
  have HI : Hid (blk (W0.alloc (.cells (insC ⟨op, a, b, c, n⟩) 47)) W0.heap.size (insC ⟨op, a, b, c, n⟩) 47) := Lib.hid (blk_new _ _ _)
  have KP2 : Hid (blk (W0.alloc (.cells (insC ⟨op, a, b, c, n⟩) 47)) w.heap.size (progC vt' p (.slice (some ⟨bb, o, none⟩) p.code.length k')) 25) := Lib.hid (blk_below KP.out hab)
  obtain ⟨w2, hw2⟩ : ∃ w2, w2 = W0.alloc (.cells (insC ⟨op, a, b, c, n⟩) 47) := ⟨_, rfl⟩
  obtain ⟨I, hI⟩ : ∃ I, I = W0.heap.size := ⟨_, rfl⟩
  rw [← hw2] at HB2 HI KP2 ⊢
  rw [← hI] at HI ⊢
  clear hab hw2 hI p3 d0 d1 d2 d3 d4 HR KP HS
  rcases hs with ⟨rfl, rfl⟩ | ⟨rfl, rfl⟩
  all_goals
    go_upto_region 8 with (first
      | (refine wpList_loadB rfl 25 _ rfl w.heap.size (progC vt' p (.slice (some ⟨bb, o, none⟩) p.code.length k')) rfl 25 KP2.out _ Tryd.underlying25 rfl prog_info ?_)
      | (refine wpList_loadBw (by rfl) 47 _ rfl I (insC ⟨op, a, b, c, n⟩) rfl 47 HI.out _ Tryd.underlying47 rfl ins_info ?_)
      | (go_at_call 16; ((with_reducible refine (HSF.out _ HB2.out).mono ?_); rintro e w3 ⟨rfl, hb⟩; have HB2 := Lib.hid (HB2.out.trans (hb.mono HB2.out.size)); have HI := Lib.hid (blk_below HI.out hb); clear hb))
      | (go_at_call 26; ((with_reducible refine (HSE.out _).mono ?_); rintro e w4 ⟨rfl, hb⟩; have HB2 := Lib.hid (HB2.out.trans (hb.mono HB2.out.size)); have HI := Lib.hid (blk_below HI.out hb); clear hb)))
    have e0 : w4.cell? ⟨I, 0, none⟩ = some (.int .u8 op) := blk_cell HI.out 0 _ rfl
    clear KP2 HSF HSE
    rcases hc with ⟨h1, HX⟩ | ⟨h1, h2, HX⟩ | ⟨h1, h2, h3, h4, HX⟩ | ⟨h1, h2, h3, h4, HX⟩ | ⟨h1, h2, h3, h4, HX⟩ | ⟨h1, h2, h3, h4, h5, HX⟩ | ⟨h1, h2, h3, h4, h5, HX⟩
    all_goals
      go_wp2_with (first
        | (refine wpList_loadBw (by rfl) 47 _ rfl I (insC ⟨op, a, b, c, n⟩) rfl 47 HI.out _ Tryd.underlying47 rfl ins_info ?_)
        | (go_at_call 27; ((with_reducible refine (HUS.out _).mono ?_); rintro e w5 ⟨rfl, hb⟩; have HB2 := Lib.hid (HB2.out.trans (hb.mono HB2.out.size)); clear hb)))
      go_ret
      exact ⟨congrArg (fun z => Ending.returned (.int .u8 z)) HX.out, HB2.out⟩
set_option maxRecDepth 100000 in
set_option maxHeartbeats 4000000 in
theorem rout9_bad (w W0 : World) (p : PProg) (vt' : Value) (x' : Option Addr) (k' : Nat) (k : Int) (m : Nat)
    (hW0 : W0 = w.alloc (.cells (progC vt' p (.slice x' p.code.length k')) 25)) (HS : Hid (Below w.heap.size w W0)) (KP : Hid (blk W0 w.heap.size (progC vt' p (.slice x' p.code.length k')) 25))
    (hk : k < 0 ∨ (0 ≤ k ∧ (p.code.length : Int) ≤ k)) :
    Calls Tryd.prog 15 #[.agg (progC vt' p (.slice x' p.code.length k')), .int .i64 k, .int .u8 (m : Int)] w (AggPost w (.int .u8 (m : Int))) := by
  have p3 := blk_cell KP.out 3 _ rfl
  rcases hk with hk | ⟨h0, hk⟩
  all_goals
    go_enter Tryd.func15, Tryd.ntmps15
    go_upto_region 1 with (fail)
    rw [← hW0]
    clear hW0
    go_wp2
    go_ret
    exact ⟨rfl, HS.out⟩
theorem rout9_n (v : Value) (p : PProg) (w : World) (k : Int) (m : Nat) (h : ProgAt w v p) (hok : ∀ i ∈ p.code, OkI i) (hm : m < 256) : Calls Tryd.prog 15 #[v, .int .i64 k, .int .u8 (m : Int)] w (AggPost w (.int .u8 ((outV p k m : Nat) : Int))) := by
  obtain ⟨vt', vc, rfl, htl, hc⟩ := id h
  obtain ⟨x', kx', rfl, g1, g2, g3⟩ := id hc
  unfold maxLen at g2
  have hwb : Below w.heap.size w (w.alloc (.cells (progC vt' p (.slice x' p.code.length kx')) 25)) := (Below.refl _ _).alloc (Nat.le_refl _) _
  by_cases hk : k < 0 ∨ (p.code.length : Int) ≤ k
  · rw [outV_none hk]
    exact rout9_bad w _ p vt' x' kx' k m rfl (Lib.hid hwb) (Lib.hid (blk_new _ _ _)) (by omega)
  · obtain ⟨kn, rfl⟩ : ∃ kn : Nat, k = kn := ⟨k.toNat, by omega⟩
    have hi : p.code[kn]? = some (p.code[kn]'(by omega)) := List.getElem?_eq_getElem (by omega)
    generalize p.code[kn]'(by omega) = i at hi
    obtain ⟨bb, o, rfl, hbb, hrng⟩ := g3 kn i hi
    have hoki := hok i (List.mem_of_getElem? hi)
    rw [outV_nat (by omega), outN_at hi]
    have hsl := sets_lt i
    have hul := uses_lt i
    have hll := left_lt (sf := safeL p kn) hm
    have hsv : safeV p (kn : Int) = safeL p kn := by unfold safeV; simp
    obtain ⟨op, a, b, c, n⟩ := i
    refine rout9_at w _ p vt' bb o kx' kn op a b c n m (setsN ⟨op, a, b, c, n⟩) (usesN ⟨op, a, b, c, n⟩) _ (safeL p kn) ((leftN (safeL p kn) m : Nat) : Int) rfl (Lib.hid hwb) (Lib.hid (blk_new _ _ _)) (by omega) g1 (by omega) (Lib.hid (rangeAt_below hrng hbb hwb)) (Lib.hid fun w1 hb => rsafe_n _ p w1 _ _ (h.below hb) hsv) (Lib.hid fun w1 => rsets_n _ w1 hoki) (Lib.hid fun w1 => ruses_n _ w1 hoki) ?_ ?_
    · unfold leftN
      rcases safeL p kn with _ | _
      · exact .inr ⟨rfl, rfl⟩
      · exact .inl ⟨rfl, rfl⟩
    · generalize leftN (safeL p kn) m = s at hll
      unfold outI
      by_cases h5 : op = 5
      · exact .inl ⟨by simpa using h5, Lib.hid (by rw [if_pos (.inl h5)]; exact or_u8 hll hsl)⟩
      have q5 : (op == 5) = false := by simpa using h5
      by_cases h6 : op = 6
      · exact .inr (.inl ⟨q5, by simpa using h6, Lib.hid (by rw [if_pos (.inr h6)]; exact or_u8 hll hsl)⟩)
      have q6 : (op == 6) = false := by simpa using h6
      have n56 : ¬ (op = 5 ∨ op = 6) := by omega
      by_cases h7 : op = 7
      · by_cases hu : s &&& usesN ⟨op, a, b, c, n⟩ = 0
        · exact .inr (.inr (.inl ⟨q5, q6, by simpa using h7, by rw [and9_u8 hll hul, hu]; rfl, Lib.hid (by rw [if_neg n56, if_pos h7, if_pos hu]; exact but_u8 hll hsl)⟩))
        · exact .inr (.inr (.inr (.inl ⟨q5, q6, by simpa using h7, by rw [and9_u8 hll hul]; simpa using hu, Lib.hid (by rw [if_neg n56, if_pos h7, if_neg hu]; exact or_u8 hll hsl)⟩)))
      have q7 : (op == 7) = false := by simpa using h7
      by_cases h10 : op = 10
      · exact .inr (.inr (.inr (.inr (.inl ⟨q5, q6, q7, by simpa using h10, Lib.hid (by rw [if_neg n56, if_neg h7, if_pos (.inl h10)]; exact but_u8 hll hsl)⟩))))
      have q10 : (op == 10) = false := by simpa using h10
      by_cases h12 : op = 12
      · exact .inr (.inr (.inr (.inr (.inr (.inl ⟨q5, q6, q7, q10, by simpa using h12, Lib.hid (by rw [if_neg n56, if_neg h7, if_pos (.inr h12)]; exact but_u8 hll hsl)⟩)))))
      · exact .inr (.inr (.inr (.inr (.inr (.inr ⟨q5, q6, q7, q10, by simpa using h12, Lib.hid (by rw [if_neg n56, if_neg h7, if_neg (show ¬ (op = 10 ∨ op = 12) by omega)])⟩)))))
end Go.Proofs.YtfnoldopjnegfaaDoor

/- The document's In. -/
namespace Go.Proofs.YtfnoldopjnegfaaDoor
set_option linter.unusedSimpArgs false
set_option linter.unusedVariables false
open Go.RowKit

theorem fill_put {n t : Nat} (h : t < n) : (List.replicate t 255 ++ List.replicate (n - t) 0).set t 255 = List.replicate (t + 1) 255 ++ List.replicate (n - (t + 1)) (0 : Nat) := by
  have e : n - t = (n - (t + 1)) + 1 := by omega
  rw [e, List.replicate_succ, List.set_append_right _ _ (by simp), List.length_replicate, Nat.sub_self, List.set_cons_zero, List.replicate_succ', List.append_assoc]
  rfl
theorem fill_len {n t : Nat} (h : t ≤ n) : (List.replicate t 255 ++ List.replicate (n - t) (0 : Nat)).length = n := by simp; omega
theorem fill_end {n : Nat} : List.replicate n 255 ++ List.replicate (n - n) (0 : Nat) = List.replicate n 255 := by simp
theorem meets_next {out : List Nat} {v j n : Nat} {ns : List Nat} (h : ns[j]? = some n) : (ns.take (j + 1)).foldl (meetN v) out = meetN v ((ns.take j).foldl (meetN v) out) n := by
  rw [List.take_add_one, h, List.foldl_append]; rfl
theorem sweepsF_next {q : PProg} {k : Nat} {out : List Nat} : (List.range (k + 1)).foldl (sweepF q) out = sweepF q ((List.range k).foldl (sweepF q) out) k := by
  rw [List.range_succ, List.foldl_append]; rfl
set_option maxRecDepth 100000 in
set_option maxHeartbeats 8000000 in
theorem rin9_at (w W0 : World) (p : PProg) (vt' : Value) (x' : Option Addr) (k' : Nat)
    (hW0 : W0 = w.alloc (.cells (progC vt' p (.slice x' p.code.length k')) 25)) (HS : Hid (Below w.heap.size w W0)) (KP : Hid (blk W0 w.heap.size (progC vt' p (.slice x' p.code.length k')) 25))
    (hlen : p.code.length ≤ 200) (hin : Hid (InP p)) (g1 : p.code.length ≤ k') (g2 : k' ≤ 9223372036854775807)
    (HO : Hid (∀ (w1 : World) (k m : Nat), Below w.heap.size w w1 → k < p.code.length → m < 256 → Calls Tryd.prog 15 #[.agg #[vt', str p.locals, str p.globs, .slice x' p.code.length k'], .int .i64 k, .int .u8 (m : Int)] w1 (AggPost w1 (.int .u8 ((outN p k m : Nat) : Int)))))
    (HN : Hid (∀ (w1 : World) (k : Nat), Below w.heap.size w w1 → Calls Tryd.prog 19 #[.agg (progC vt' p (.slice x' p.code.length k')), .int .i64 k] w1 (RowPost w1 (nextV p k)))) :
    Calls Tryd.prog 13 #[.agg (progC vt' p (.slice x' p.code.length k'))] w (U8sPost w (freshL p)) := by
  have p3 : W0.cell? ⟨w.heap.size, 3, none⟩ = some (.slice x' p.code.length k') := blk_cell KP.out 3 _ rfl
  have hmk : ∀ w, (Instr.makeSlice 28 (.int .i64 ((p.code.length : Int) + 1)) (.int .i64 ((p.code.length : Int) + 1))).run Tryd.prog w = .ok (.slice (some ⟨w.heap.size, 0, none⟩) (p.code.length + 1) (p.code.length + 1)) (w.alloc (.cells (madeCells #[.int .u8 0] (p.code.length + 1)) 5)) := fun w => run_make_row' _ _ _ _ Tryd.underlying28 infoU8 rfl _ _ (p.code.length + 1) (by omega) (by omega) w
  go_enter Tryd.func13, Tryd.ntmps13
  go_upto_region 1 with (fail)
  rw [← hW0]
  clear hW0
  go_upto_region 2 with (fail)
  rw [u8Arr_zeros]
  have HW0 : Hid (LvW w (W0.alloc (.cells (u8Arr (List.replicate 0 255 ++ List.replicate (p.code.length + 1 - 0) 0)) 5)) W0.heap.size (progC vt' p (.slice x' p.code.length k')) (List.replicate 0 255 ++ List.replicate (p.code.length + 1 - 0) 0)) := Lib.hid
    ⟨HS.out.trans (((Below.refl _ _).alloc (Nat.le_refl _) _).mono HS.out.size), blk_alloc KP.out _, blk_new _ _ _, blk_lt KP.out⟩
  obtain ⟨H, hH⟩ : ∃ H, H = W0.heap.size := ⟨_, rfl⟩
  obtain ⟨wb, hwb⟩ : ∃ wb, wb = W0.alloc (.cells (u8Arr (List.replicate (p.code.length + 1) 0)) 5) := ⟨_, rfl⟩
  have hwb' : wb = W0.alloc (.cells (u8Arr (List.replicate 0 255 ++ List.replicate (p.code.length + 1 - 0) 0)) 5) := hwb
  rw [← hwb'] at HW0
  rw [← hwb]
  rw [← hH] at HW0 ⊢
  clear hwb hwb' hH p3 hmk KP HS
  go_wp2_with (fail)
  go_loopw [4] (fun v4 wr => ∃ (t : Nat), t ≤ p.code.length + 1 ∧ v4 = .int .i64 t ∧ Hid (LvW w wr H (progC vt' p (.slice x' p.code.length k')) (List.replicate t 255 ++ List.replicate (p.code.length + 1 - t) 0))) (fun v4 _ => p.code.length + 1 - (intOf v4).toNat)
  case atStart => exact ⟨0, Nat.zero_le _, rfl, HW0⟩
  case round =>
    obtain ⟨t, ht, rfl, HW⟩ := hrel
    clear HW0
    have p3 : wr.cell? ⟨w.heap.size, 3, none⟩ = some (.slice x' p.code.length k') := blk_cell HW.out.prog 3 _ rfl
    by_cases htl : t ≤ p.code.length
    · have hti : (t : Int) ≤ (p.code.length : Int) := by omega
      have hti2 : (t : Int) < (p.code.length : Int) + 1 := by omega
      have ht0 : (0 : Int) ≤ (t : Int) := by omega
      have ch := blk_cell HW.out.ar t _ (u8Arr_get (by rw [fill_len ht]; omega))
      have fh := blk_frozen HW.out.ar t
      have HW2 : Hid (LvW w (wr.setCell ⟨H, t, none⟩ (.int .u8 ((255 : Nat) : Int))) H (progC vt' p (.slice x' p.code.length k')) (List.replicate (t + 1) 255 ++ List.replicate (p.code.length + 1 - (t + 1)) 0)) := Lib.hid (by
        rw [← fill_put (by omega)]; exact HW.out.put t 255)
      clear HW
      go_wp2
      go_roundw
      case rel => exact ⟨t + 1, by omega, by go_num, HW2⟩
      case measure => simp [intOf]; omega
    · have hte : t = p.code.length + 1 := by omega
      have htn : ¬ ((t : Int) ≤ (p.code.length : Int)) := by omega
      have HW0 : Hid (LvW w wr H (progC vt' p (.slice x' p.code.length k')) (List.replicate (p.code.length + 1) 255)) := Lib.hid (by
        have h1 := HW.out
        rw [hte, fill_end] at h1
        exact h1)
      have HP0 := Lib.hid (PartF.start (q := p))
      clear hte HW
      go_wp2_with (fail)
      clear p3
      go_loopw [5] (fun v5 wr => ∃ (r : Nat) (out : List Nat), r ≤ 8 * p.code.length + 1 ∧ v5 = .int .i64 r ∧ Hid (LvW w wr H (progC vt' p (.slice x' p.code.length k')) out) ∧ Hid (PartF p out) ∧ Hid (turnsF p (8 * p.code.length + 1 - r) out = freshL p)) (fun v5 _ => 8 * p.code.length + 1 - (intOf v5).toNat)
      case atStart => exact ⟨0, _, Nat.zero_le _, rfl, HW0, HP0, Lib.hid rfl⟩
      case round =>
        obtain ⟨r, out0, hr, rfl, HW, HP, HQ⟩ := hrel
        clear HW0 HP0
        have p3 : wr.cell? ⟨w.heap.size, 3, none⟩ = some (.slice x' p.code.length k') := blk_cell HW.out.prog 3 _ rfl
        by_cases hrl : r ≤ 8 * p.code.length
        · have hri : (r : Int) ≤ 8 * (p.code.length : Int) := by omega
          go_wp2_with (fail)
          obtain ⟨wo, hwo⟩ : ∃ wo : World, wo = wr := ⟨_, rfl⟩
          rw [← hwo] at HW ⊢
          clear p3 hwo
          go_loopw [6] (fun v6 wr => ∃ (k : Nat) (out : List Nat), k ≤ p.code.length ∧ v6 = .int .i64 k ∧ Hid (LvW w wr H (progC vt' p (.slice x' p.code.length k')) out) ∧ Hid (PartF p out) ∧ Hid (out = (List.range k).foldl (sweepF p) out0)) (fun v6 _ => p.code.length - (intOf v6).toNat)
          case atStart => exact ⟨0, out0, Nat.zero_le _, rfl, HW, HP, Lib.hid rfl⟩
          case round =>
            obtain ⟨k, out, hk, rfl, HW, HP, HR⟩ := hrel
            by_cases hkl : k < p.code.length
            · have hki : (k : Int) < (p.code.length : Int) := by omega
              have hki2 : (k : Int) < (p.code.length : Int) + 1 := by omega
              have hk0 : (0 : Int) ≤ (k : Int) := by omega
              have hol : k < out.length := by have := HP.out.len; omega
              have hz := HP.out.lt k
              have ch := blk_cell HW.out.ar k _ (u8Arr_get hol)
              obtain ⟨z, hzz⟩ : ∃ z, z = out.getD k 0 := ⟨_, rfl⟩
              have HZ := Lib.hid hzz
              rw [← hzz] at hz ch
              have HCE : Hid (∀ w', LvW w w' H (progC vt' p (.slice x' p.code.length k')) out → w'.cell? ⟨w.heap.size, 0, none⟩ = some vt' ∧ w'.cell? ⟨w.heap.size, 1, none⟩ = some (str p.locals) ∧ w'.cell? ⟨w.heap.size, 2, none⟩ = some (str p.globs) ∧ w'.cell? ⟨w.heap.size, 3, none⟩ = some (.slice x' p.code.length k')) := Lib.hid fun w' hq => ⟨blk_cell hq.prog 0 _ rfl, blk_cell hq.prog 1 _ rfl, blk_cell hq.prog 2 _ rfl, blk_cell hq.prog 3 _ rfl⟩
              have p3 : wr.cell? ⟨w.heap.size, 3, none⟩ = some (.slice x' p.code.length k') := blk_cell HW.out.prog 3 _ rfl
              clear hzz
              go_upto_region 12 with (fail)
              clear p3
              obtain ⟨p0, p1, p2, p3⟩ := HCE.out _ HW.out
              go_region_held3 (fun w' => w'.cell? ⟨H, k, none⟩ = some (.int .u8 (z : Int)) ∧ w'.cell? ⟨w.heap.size, 0, none⟩ = some vt' ∧ w'.cell? ⟨w.heap.size, 1, none⟩ = some (str p.locals) ∧ w'.cell? ⟨w.heap.size, 2, none⟩ = some (str p.globs) ∧ w'.cell? ⟨w.heap.size, 3, none⟩ = some (.slice x' p.code.length k')) (go_keep) (first
                | (go_at_call 15; ((with_reducible refine (HO.out _ k z (HW.out.below.trans ((Below.refl wr.heap.size wr).drew.mono HW.out.below.size)) hkl hz).mono ?_); rintro e1 w4 ⟨rfl, hb4⟩; have HW4 := Lib.hid (HW.out.next ((Below.refl wr.heap.size wr).drew.trans hb4)); clear hb4 ch p0 p1 p2 p3; have ch : w4.cell? ⟨H, k, none⟩ = some (.int .u8 (z : Int)) := (by rw [HZ.out]; exact blk_cell HW4.out.ar k _ (u8Arr_get hol)); obtain ⟨p0, p1, p2, p3⟩ := HCE.out _ HW4.out)))
              all_goals
                clear ch p0 p1 p2 p3 HCE
                have hml : outN p k z < 256 := outN_lt hz
                have HSW : Hid (sweepF p out k = (nextL p k).foldl (meetN (outN p k z)) out) := Lib.hid (by unfold sweepF; rw [HZ.out])
                have HPM : Hid (∀ j, PartF p (((nextL p k).take j).foldl (meetN (outN p k z)) out)) := Lib.hid fun j => PartF.meets (m := z) hk hz (fun S hS a ha hx => by rw [HZ.out]; exact HP.out.sure S hS k hk a ha hx) _ (fun n hn => List.mem_of_mem_take hn) HP.out
                generalize outN p k z = m at hml HSW HPM
                clear HZ hz
                go_wp2_with (first
                  | (refine wpList_loadB rfl 25 _ rfl w.heap.size (progC vt' p (.slice x' p.code.length k')) rfl 25 HW4.out.prog _ Tryd.underlying25 rfl prog_info ?_)
                  | (go_at_call 19; refine (HN.out _ k HW4.out.below).mono ?_; rintro e1 w5 ⟨v8, rfl, ho, hb5⟩; obtain ⟨ad, cap, hv8, hcp, hcp2⟩ := own_form ho; subst hv8; have HO5 := Lib.hid (ownsRow_le ho (Nat.zero_le _)); have HW5 := Lib.hid (HW4.out.next hb5); clear ho hb5))
                have hll : (nextV p k).length = (nextL p k).length := by rw [nextL_cast]; simp
                rw [hll] at hcp HO5 ⊢
                clear hll HW4 HW
                have hl2 := (next_sorted (q := p) k).1
                go_loopw [9] (fun v9 wr => ∃ (j : Nat) (hc : List Nat), j ≤ (nextL p k).length ∧ v9 = .int .i64 j ∧ Hid (LvW w wr H (progC vt' p (.slice x' p.code.length k')) hc) ∧ Hid (wr.ownsRow 0 3 1 (.slice ad (nextL p k).length cap) (nextL p k).length (i64s (nextV p k))) ∧
                  Hid (hc = ((nextL p k).take j).foldl (meetN m) out)) (fun v9 _ => (nextL p k).length - (intOf v9).toNat)
                case atStart => exact ⟨0, out, Nat.zero_le _, rfl, HW5, HO5, Lib.hid rfl⟩
                case round =>
                  obtain ⟨j, hc, hj, rfl, HW, HO, HS⟩ := hrel
                  clear HW5 HO5
                  have hpc : PartF p hc := by rw [HS.out]; exact HPM.out j
                  by_cases hjl : j < (nextL p k).length
                  · have hji : (j : Int) < ((nextL p k).length : Int) := by omega
                    obtain ⟨n, hn⟩ : ∃ n, (nextL p k)[j]? = some n := ⟨_, List.getElem?_eq_getElem hjl⟩
                    have hnl := (next_le hin.out (List.mem_of_getElem? hn)).1
                    have hni : (n : Int) < (p.code.length : Int) + 1 := by omega
                    have hn0 : (0 : Int) ≤ (n : Int) := by omega
                    have hnv : (nextV p k)[j]? = some (n : Int) := by rw [nextL_cast]; simp [hn]
                    obtain ⟨g, hg, cn⟩ : ∃ g, ad = some ⟨g, 0, none⟩ ∧ wr.cell? ⟨g, j, none⟩ = some (.int .i64 (n : Int)) := by
                      obtain ⟨a0, c0, e0, -, -, h3⟩ := RowAt.of_own HO.out
                      simp only [Value.slice.injEq] at e0
                      obtain ⟨rfl, -, -⟩ := e0
                      rcases h3 with h3 | ⟨b1, o1, rfl, -, hc1⟩
                      · have := congrArg List.length h3; simp at this; rw [nextL_cast] at this; simp at this; rw [this] at hn; simp at hn
                      · rcases HO.out.2 with ⟨hv, _⟩ | ⟨g, cp, cr, hv, _⟩
                        · simp at hv
                        · simp only [Value.slice.injEq, Option.some.injEq, Addr.mk.injEq] at hv
                          obtain ⟨⟨rfl, rfl, -⟩, -, -⟩ := hv
                          exact ⟨b1, rfl, by have := hc1 j _ (i64s_get hnv); rw [Nat.zero_add] at this; exact this⟩
                    subst hg
                    have hcl : n < hc.length := by have := hpc.len; omega
                    have hyl := hpc.lt n
                    have ch := blk_cell HW.out.ar n _ (u8Arr_get hcl)
                    have fh := blk_frozen HW.out.ar n
                    have HAN := Lib.hid (and9_u8 hyl hml)
                    have HW2 : Hid (LvW w (wr.setCell ⟨H, n, none⟩ (.int .u8 (bits .and .u8 ((hc.getD n 0 : Nat) : Int) (m : Int)))) H (progC vt' p (.slice x' p.code.length k')) (meetN m hc n)) := Lib.hid (by rw [HAN.out]; exact HW.out.put n _)
                    have HOn : Hid ((wr.setCell ⟨H, n, none⟩ (.int .u8 (bits .and .u8 ((hc.getD n 0 : Nat) : Int) (m : Int)))).ownsRow 0 3 1 (.slice (some ⟨g, 0, none⟩) (nextL p k).length cap) (nextL p k).length (i64s (nextV p k))) := Lib.hid (by
                      rw [setCell_putB HW.out.ar]
                      exact own_same HO.out (fun g' hg' _ => putB_ne wr (own_ne HO.out HW.out.ar (by decide) g' hg') _ _))
                    have HS2 : Hid (meetN m hc n = ((nextL p k).take (j + 1)).foldl (meetN m) out) := Lib.hid (by rw [meets_next hn, ← HS.out])
                    generalize hc.getD n 0 = y at ch HW2 HOn
                    clear hn hnv hpc hyl HAN HW HO HS
                    go_wp2
                    go_roundw
                    case rel => exact ⟨j + 1, _, by omega, by go_num, HW2, HOn, HS2⟩
                    case measure => simp [intOf]; omega
                  · have hje : j = (nextL p k).length := by omega
                    have HE : Hid (hc = (List.range (k + 1)).foldl (sweepF p) out0) := Lib.hid (by
                      have h1 := HS.out
                      rw [hje, List.take_length] at h1
                      rw [sweepsF_next, ← HR.out, HSW.out, h1])
                    have HP2 := Lib.hid hpc
                    have hjn : ¬ ((j : Int) < ((nextL p k).length : Int)) := by omega
                    clear hje HS HO hpc HPM HSW HR HP
                    go_wp2
                    go_roundw
                    case rel => exact ⟨k + 1, hc, by omega, by go_num, HW, HP2, HE⟩
                    case measure => simp [intOf]; omega
            · have hke : k = p.code.length := by omega
              have HE : Hid (turnsF p (8 * p.code.length + 1 - (r + 1)) out = freshL p) := Lib.hid (by
                have h1 := HR.out
                rw [hke] at h1
                have h2 := HQ.out
                rw [show 8 * p.code.length + 1 - r = (8 * p.code.length + 1 - (r + 1)) + 1 by omega] at h2
                unfold turnsF at h2
                have h3 : turnF p out0 = out := h1.symm
                rw [h3] at h2
                exact h2)
              have p3 : wr.cell? ⟨w.heap.size, 3, none⟩ = some (.slice x' p.code.length k') := blk_cell HW.out.prog 3 _ rfl
              have hkn : ¬ ((k : Int) < (p.code.length : Int)) := by omega
              clear hke HR HQ
              go_wp2
              go_roundw
              case rel => exact ⟨r + 1, out, by omega, by go_num, HW, HP, HE⟩
              case measure => simp [intOf]; omega
        · have HE : Hid (out0 = freshL p) := Lib.hid (by
            have h2 := HQ.out
            rw [show 8 * p.code.length + 1 - r = 0 by omega] at h2
            exact h2)
          have hrn : ¬ ((r : Int) ≤ 8 * (p.code.length : Int)) := by omega
          have HX : Hid (U8sPost w (freshL p) (.returned (.slice (some ⟨H, 0, none⟩) (p.code.length + 1) (p.code.length + 1))) wr) := Lib.hid (by
            have h1 := HW.out.post HP.out.len (by omega)
            rw [HE.out] at h1
            exact h1)
          clear HQ HW HP HE
          go_wp2
          go_ret
          exact HX.out
theorem rin9_n (v : Value) (p : PProg) (w : World) (h : ProgAt w v p) (hs : OkP p) (hin : InP p) (hlen : p.code.length ≤ 200) : Calls Tryd.prog 13 #[v] w (U8sPost w (freshL p)) := by
  obtain ⟨vt', vc, rfl, htl, hc⟩ := id h
  obtain ⟨x', kx', rfl, g1, g2, g3⟩ := id hc
  unfold maxLen at g2
  have hwb : Below w.heap.size w (w.alloc (.cells (progC vt' p (.slice x' p.code.length kx')) 25)) := (Below.refl _ _).alloc (Nat.le_refl _) _
  exact rin9_at w _ p vt' x' kx' rfl (Lib.hid hwb) (Lib.hid (blk_new _ _ _)) hlen (Lib.hid hin) g1 (by omega) (Lib.hid fun w1 k m hb hk hm => by rw [← outV_nat hk]; exact rout9_n _ p w1 k m (h.below hb) hs.ins hm) (Lib.hid fun w1 k hb => rnext_n _ p w1 k (h.below hb) hs hin (by omega))
end Go.Proofs.YtfnoldopjnegfaaDoor
