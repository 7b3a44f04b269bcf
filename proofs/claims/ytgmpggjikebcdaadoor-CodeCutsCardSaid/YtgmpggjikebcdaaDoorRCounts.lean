/-
  CodeCounts: the walk.
-/
import Derived.Test.YtgmpggjikebcdaaDoorRAgain
namespace Go.Proofs.YtgmpggjikebcdaaDoor
open Go.RowKit

theorem count_lines {G : List (List Bs)} (hG : ∀ x ∈ G, GoodW x) : (joinL G).count 10 = G.length := by
  have h := splitL_length 10 (joinL G)
  rw [split_joinL G hG] at h
  simp at h
  omega
theorem linesP_len (p : PProg) : (linesP p).length = p.types.length + 2 + p.code.length := by
  rw [← lines_all]; exact code_len p (Nat.le_refl _)
theorem joinL_last {G : List (List Bs)} (h : G ≠ []) : ∃ s, joinL G = s ++ [10] := by
  rcases List.eq_nil_or_concat G with rfl | ⟨I, x, rfl⟩
  · exact absurd rfl h
  · rw [List.concat_eq_append, joinL_app, joinL_one]
    exact ⟨joinL I ++ Lib.join x [32], by simp⟩
theorem count_take {s : ByteArray} {k : Nat} (hk : k < s.size) : (s.data.toList.take (k + 1)).count 10 = (s.data.toList.take k).count 10 + (if s[k] = 10 then 1 else 0) := by
  have hk' : k < s.data.toList.length := by rw [len_size]; exact hk
  rw [List.take_succ_eq_append_getElem hk', List.count_append]
  have e : s.data.toList[k] = s[k] := rfl
  rw [e, List.count_singleton]
  simp

set_option maxRecDepth 100000 in
set_option maxHeartbeats 2000000 in
theorem counts_big (v : Value) (p : PProg) (w : World) (h : ProgAt w v p) (hs : OkP p) (hA : HasAll w) (hf : fewP p = false) : Calls Tryd.prog 7 #[v] w (AggPost w (.bool true)) := by
  obtain ⟨vt, vc, rfl, ht, hc⟩ := h
  have hwb : Below w.heap.size w (w.alloc (.cells (progC vt p vc) 25)) := (Below.refl _ _).alloc (Nat.le_refl _) _
  have HAL := Lib.hid (alive_any _ (hA.below hwb))
  have HF : Hid (∀ w1, Below (w.alloc (.cells (progC vt p vc) 25)).heap.size (w.alloc (.cells (progC vt p vc) 25)) w1 → Calls Tryd.prog 9 #[.agg (progC vt p vc)] w1 (AggPost w1 (.bool false))) :=
    Lib.hid fun w1 hb => few_b _ p false w1 ⟨vt, vc, rfl, (ht.below hwb).below hb, (hc.below hwb).below hb⟩ hs hf
  have HW := Lib.hid hwb
  clear ht hc hs hA hf hwb
  go_enter Tryd.func7, Tryd.ntmps7
  go_wp2_with (first
    | (go_at_call 8; refine HAL.out.mono ?_; rintro e w1 ⟨rfl, hb1⟩; have K1 := Lib.hid (blk_below (blk_new w (progC vt p vc) 25) hb1); have s1 := hb1.size; rw [World.size_alloc] at s1; have HB1 := Lib.hid hb1; clear hb1)
    | (refine wpList_loadB rfl 25 _ rfl w.heap.size (progC vt p vc) rfl 25 K1.out _ Tryd.underlying25 rfl prog_info ?_)
    | (go_at_call 9; refine (HF.out _ HB1.out).mono ?_; rintro e w2 ⟨rfl, hb2⟩))
  go_ret
  have b1 := HB1.out
  rw [World.size_alloc] at b1
  exact ⟨rfl, (HW.out.trans (b1.mono (by omega))).trans (hb2.mono (by omega))⟩
set_option maxRecDepth 100000 in
set_option maxHeartbeats 2000000 in
theorem counts_bad (w W0 : World) (p : PProg) (a a' : Option Addr) (c c' : Nat) (hW0 : W0 = (w.alloc (.cells #[.slice a p.types.length c, str p.locals, str p.globs, .slice a' p.code.length c'] 25))) (KP : Hid (Keep W0 w.heap.size (.slice a p.types.length c) (.slice a' p.code.length c') p)) (HS : Hid (Below w.heap.size w W0))
    (HAL : Hid (∀ w1, Below W0.heap.size W0 w1 → Calls Tryd.prog 8 #[] w1 (AggPost w1 (.bool true))))
    (HF : Hid (∀ w1, Below W0.heap.size W0 w1 → Calls Tryd.prog 9 #[.agg #[.slice a p.types.length c, str p.locals, str p.globs, .slice a' p.code.length c']] w1 (AggPost w1 (.bool true))))
    (HP : Hid (∀ w1, Below W0.heap.size W0 w1 → Calls Tryd.prog 10 #[.agg #[.slice a p.types.length c, str p.locals, str p.globs, .slice a' p.code.length c']] w1 (PrintPost w1 ([], 2)))) :
    Calls Tryd.prog 7 #[.agg #[.slice a p.types.length c, str p.locals, str p.globs, .slice a' p.code.length c']] w (AggPost w (.bool true)) := by
  have HB := Lib.hid (Below.refl W0.heap.size W0)
  obtain ⟨c0, c1, c2, c3⟩ := KP.out.cells
  go_enter Tryd.func7, Tryd.ntmps7
  go_wp2_with (fail)
  rw [← hW0]
  clear hW0
  go_wp2_with (first
    | (go_at_call 8; refine (HAL.out _ HB.out).mono ?_; rintro e w1 ⟨rfl, hb⟩; clear HAL; have HB := Lib.hid (HB.out.trans (hb.mono HB.out.size)); have KP := Lib.hid (KP.out.below hb); clear hb c0 c1 c2 c3; obtain ⟨c0, c1, c2, c3⟩ := KP.out.cells)
    | (go_at_call 9; refine (HF.out _ HB.out).mono ?_; rintro e w2 ⟨rfl, hb⟩; clear HF; have HB := Lib.hid (HB.out.trans (hb.mono HB.out.size)); have KP := Lib.hid (KP.out.below hb); clear hb c0 c1 c2 c3; obtain ⟨c0, c1, c2, c3⟩ := KP.out.cells)
    | (go_at_call 10; refine (HP.out _ HB.out).mono ?_; rintro e w3 ⟨rfl, hb⟩; clear HP; have HB := Lib.hid (HB.out.trans (hb.mono HB.out.size)); have KP := Lib.hid (KP.out.below hb); clear hb c0 c1 c2 c3; obtain ⟨c0, c1, c2, c3⟩ := KP.out.cells))
  go_ret
  exact ⟨rfl, HS.out.trans (HB.out.mono HS.out.size)⟩
set_option maxRecDepth 100000 in
set_option maxHeartbeats 2000000 in
theorem counts_ok (w W0 : World) (p : PProg) (a a' : Option Addr) (c c' : Nat) (tb : ByteArray) (N : Nat) (hW0 : W0 = (w.alloc (.cells #[.slice a p.types.length c, str p.locals, str p.globs, .slice a' p.code.length c'] 25))) (KP : Hid (Keep W0 w.heap.size (.slice a p.types.length c) (.slice a' p.code.length c') p)) (HS : Hid (Below w.heap.size w W0))
    (HAL : Hid (∀ w1, Below W0.heap.size W0 w1 → Calls Tryd.prog 8 #[] w1 (AggPost w1 (.bool true))))
    (HF : Hid (∀ w1, Below W0.heap.size W0 w1 → Calls Tryd.prog 9 #[.agg #[.slice a p.types.length c, str p.locals, str p.globs, .slice a' p.code.length c']] w1 (AggPost w1 (.bool true))))
    (HP : Hid (∀ w1, Below W0.heap.size W0 w1 → Calls Tryd.prog 10 #[.agg #[.slice a p.types.length c, str p.locals, str p.globs, .slice a' p.code.length c']] w1 fun e w' => e = .returned (.tuple #[.string tb, .int .i64 0]) ∧ Below w1.heap.size w1 w'))
    (HL : Hid (∀ w1, Below W0.heap.size W0 w1 → Calls Tryd.prog 13 #[.string tb] w1 fun e w' => ∃ ga gc, e = .returned (.tuple #[.slice ga N gc, .int .i64 0, .int .i64 0]) ∧ Below w1.heap.size w1 w'))
    (hN : N = p.types.length + 2 + p.code.length) (hN2 : N ≤ 100000) (hsz : tb.size ≤ 20000) (h0 : 1 ≤ tb.size) (HC : Hid (tb.data.toList.count 10 = N)) (HLA : Hid (∀ h : tb.size - 1 < tb.size, tb[tb.size - 1] = 10)) :
    Calls Tryd.prog 7 #[.agg #[.slice a p.types.length c, str p.locals, str p.globs, .slice a' p.code.length c']] w (AggPost w (.bool true)) := by
  have HB := Lib.hid (Below.refl W0.heap.size W0)
  obtain ⟨c0, c1, c2, c3⟩ := KP.out.cells
  go_enter Tryd.func7, Tryd.ntmps7
  go_wp2_with (fail)
  rw [← hW0]
  clear hW0
  go_wp2_with (first
    | (go_at_call 8; refine (HAL.out _ HB.out).mono ?_; rintro e w1 ⟨rfl, hb⟩; clear HAL; have HB := Lib.hid (HB.out.trans (hb.mono HB.out.size)); have KP := Lib.hid (KP.out.below hb); clear hb c0 c1 c2 c3; obtain ⟨c0, c1, c2, c3⟩ := KP.out.cells)
    | (go_at_call 9; refine (HF.out _ HB.out).mono ?_; rintro e w2 ⟨rfl, hb⟩; clear HF; have HB := Lib.hid (HB.out.trans (hb.mono HB.out.size)); have KP := Lib.hid (KP.out.below hb); clear hb c0 c1 c2 c3; obtain ⟨c0, c1, c2, c3⟩ := KP.out.cells)
    | (go_at_call 10; refine (HP.out _ HB.out).mono ?_; rintro e w3 ⟨rfl, hb⟩; clear HP; have HB := Lib.hid (HB.out.trans (hb.mono HB.out.size)); have KP := Lib.hid (KP.out.below hb); clear hb c0 c1 c2 c3; obtain ⟨c0, c1, c2, c3⟩ := KP.out.cells))
  go_loopw [5, 26] (fun v5 v26 wr => ∃ k n : Nat, k ≤ tb.size ∧ n ≤ k ∧ v5 = .int .i64 n ∧ v26 = .int .i64 k ∧ Hid (n = (tb.data.toList.take k).count 10) ∧ wr = w3) (fun _ v26 _ => tb.size - (intOf v26).toNat)
  case atStart => exact ⟨0, 0, Nat.zero_le _, Nat.le_refl _, rfl, rfl, Lib.hid (by simp), rfl⟩
  case round =>
    obtain ⟨k, n, hk, hnk, rfl, rfl, hn, rfl⟩ := hrel
    by_cases hlt : k < tb.size
    · have HCT := Lib.hid (count_take hlt)
      by_cases h10 : tb[k] = 10
      · have e1 := eq10_of h10
        have HN : Hid (n + 1 = (tb.data.toList.take (k + 1)).count 10) := Lib.hid (by rw [HCT.out, if_pos h10, hn.out])
        clear h10
        go_wp2
        go_roundw
        case rel => exact ⟨k + 1, n + 1, by omega, by omega, by go_num, by go_num, HN, trivial⟩
        case measure => simp [intOf]; omega
      · have e1 := ne10_of h10
        have HN : Hid (n = (tb.data.toList.take (k + 1)).count 10) := Lib.hid (by rw [HCT.out, if_neg h10, hn.out]; rfl)
        clear h10
        go_wp2
        go_roundw
        case rel => exact ⟨k + 1, n, by omega, by omega, rfl, by go_num, HN, trivial⟩
        case measure => simp [intOf]; omega
    · obtain rfl : n = N := by
        have := hn.out
        rw [List.take_of_length_le (by rw [len_size]; omega), HC.out] at this
        exact this
      have hz : ((n : Int) == (p.types.length : Int) + 2 + p.code.length) = true := by rw [beq_iff_eq]; omega
      have hlast := eq10_of (HLA.out (by omega))
      clear HC hn hnk HLA
      go_wp2_with (go_at_call 13; refine (HL.out _ HB.out).mono ?_; rintro e w4 ⟨ga, gc, rfl, hb⟩; clear HL; have HB := Lib.hid (HB.out.trans (hb.mono HB.out.size)); have KP := Lib.hid (KP.out.below hb); clear hb c0 c1 c2 c3; obtain ⟨c0, c1, c2, c3⟩ := KP.out.cells)
      go_ret
      exact ⟨rfl, HS.out.trans (HB.out.mono HS.out.size)⟩
theorem counts_walk (v : Value) (p : PProg) (w : World) (h : ProgAt w v p) (hs : OkP p) (hl : p.types.length ≤ 8796093022208) (hA : HasAll w) : Calls Tryd.prog 7 #[v] w fun e w' => e = .returned (.bool true) ∧ Below w.heap.size w w' := by
  rcases hf : fewP p with _ | _
  · exact counts_big v p w h hs hA hf
  obtain ⟨vt, vc, rfl, ht, hc⟩ := h
  obtain ⟨a, c, rfl, -, -, -⟩ := id ht.elems
  obtain ⟨a', c', rfl, -, -, -⟩ := id hc
  have hwb : Below w.heap.size w (w.alloc (.cells #[.slice a p.types.length c, str p.locals, str p.globs, .slice a' p.code.length c'] 25)) := (Below.refl _ _).alloc (Nat.le_refl _) _
  have kp : Keep (w.alloc (.cells #[.slice a p.types.length c, str p.locals, str p.globs, .slice a' p.code.length c'] 25)) w.heap.size (.slice a p.types.length c) (.slice a' p.code.length c') p := ⟨blk_new w _ 25, ⟨_, _, rfl, ht.below hwb, hc.below hwb⟩⟩
  have hA0 := hA.below hwb
  generalize hW0 : (w.alloc (.cells #[.slice a p.types.length c, str p.locals, str p.globs, .slice a' p.code.length c'] 25)) = W0 at hwb kp hA0
  have HAL := Lib.hid (fun w1 (hb : Below W0.heap.size W0 w1) => alive_any w1 (hA0.below hb))
  have HF := Lib.hid (fun w1 (hb : Below W0.heap.size W0 w1) => few_b _ p true w1 (kp.below hb).2 hs hf)
  have hpr := fun w1 (hb : Below W0.heap.size W0 w1) => print_few _ p w1 (kp.below hb).2 hs (hA0.below hb) hf hl
  rcases m1 : mayP p with _ | _
  · have e : printL p = ([], 2) := by unfold printL; rw [m1]; rfl
    rw [e] at hpr
    exact counts_bad w W0 p a a' c c' hW0.symm (Lib.hid kp) (Lib.hid hwb) HAL HF (Lib.hid hpr)
  have e : printL p = (joinL (linesP p), 0) := by unfold printL; rw [m1]; rfl
  rw [e] at hpr
  obtain ⟨t1, t2⟩ := text_short hs m1 hf hl
  have hG := lines_good hs m1
  have hsz : (⟨(joinL (linesP p)).toArray⟩ : ByteArray).size = (joinL (linesP p)).length := bs_size _
  have hne : linesP p ≠ [] := by intro h; have := linesP_len p; rw [h] at this; simp at this; omega
  obtain ⟨i, hi⟩ := joinL_last hne
  have hfew : p.code.length ≤ 210 := by unfold fewP at hf; simp only [Bool.and_eq_true, decide_eq_true_eq] at hf; exact hf.2
  refine counts_ok w W0 p a a' c c' ⟨(joinL (linesP p)).toArray⟩ (linesP p).length hW0.symm (Lib.hid kp) (Lib.hid hwb) HAL HF (Lib.hid hpr) (Lib.hid fun w1 hb => ?_) (linesP_len p) (by rw [linesP_len]; omega) (by omega) (by rw [hsz, hi]; simp) (Lib.hid (count_lines hG)) (Lib.hid fun h => ?_)
  · refine (linesR_ok ⟨(joinL (linesP p)).toArray⟩ (linesP p) w1 (by unfold maxLen; omega) (lines_join _ hG t1)).mono ?_
    rintro e w' ⟨ga, gc, rfl, _, hb'⟩
    exact ⟨ga, gc, rfl, hb'.out⟩
  · show (joinL (linesP p)).toArray[(joinL (linesP p)).toArray.size - 1] = 10
    simp [hi]
end Go.Proofs.YtgmpggjikebcdaaDoor
