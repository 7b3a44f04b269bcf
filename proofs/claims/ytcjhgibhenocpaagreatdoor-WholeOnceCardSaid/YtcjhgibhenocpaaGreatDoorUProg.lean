/-
  The program's Last and Full.
-/
import Derived.Test.YtcjhgibhenocpaaGreatDoorUBL
import Derived.Test.YtcjhgibhenocpaaGreatDoorUAT
import Derived.Test.YtcjhgibhenocpaaGreatDoorVPure
import Derived.Test.YtcjhgibhenocpaaGreatDoorUAS
namespace Go.Proofs.YtcjhgibhenocpaaGreatDoor
set_option linter.unusedSimpArgs false
set_option linter.unusedVariables false
open Go.RowKit

/-! ### What it asks of a place, and of an instruction -/
set_option maxRecDepth 100000 in
set_option maxHeartbeats 2000000 in
theorem uisnew_bad (w W0 : World) (p : PProg) (vt' : Value) (x' : Option Addr) (k' : Nat) (k : Int)
    (hW0 : W0 = w.alloc (.cells (progC vt' p (.slice x' p.code.length k')) 25)) (HS : Hid (Below w.heap.size w W0)) (KP : Hid (blk W0 w.heap.size (progC vt' p (.slice x' p.code.length k')) 25))
    (hk : k < 0 ∨ (0 ≤ k ∧ (p.code.length : Int) ≤ k)) :
    Calls Tryz.prog 115 #[.agg (progC vt' p (.slice x' p.code.length k')), .int .i64 k] w (AggPost w (.bool false)) := by
  have p3 := blk_cell KP.out 3 (.slice x' p.code.length k') rfl
  rcases hk with hk | ⟨h0, hk⟩
  all_goals
    go_enter Tryz.func115, Tryz.ntmps115
    go_upto_region 1 with (fail)
    rw [← hW0]
    clear hW0
    go_wp2
    go_ret
    exact ⟨rfl, HS.out⟩
set_option maxRecDepth 100000 in
set_option maxHeartbeats 2000000 in
theorem uisnew_at (w W0 : World) (p : PProg) (vt' : Value) (bb o k' k : Nat) (op : Int) (r : Bool)
    (hW0 : W0 = w.alloc (.cells (progC vt' p (.slice (some ⟨bb, o, none⟩) p.code.length k')) 25)) (HS : Hid (Below w.heap.size w W0)) (KP : Hid (blk W0 w.heap.size (progC vt' p (.slice (some ⟨bb, o, none⟩) p.code.length k')) 25))
    (hk : k < p.code.length) (g1 : p.code.length ≤ k') (g2 : k' ≤ 9223372036854775807) (d0 : W0.cell? ⟨bb, o + k * 5, none⟩ = some (.int .u8 op)) (h5 : Hid ((op == 5) = r)) :
    Calls Tryz.prog 115 #[.agg (progC vt' p (.slice (some ⟨bb, o, none⟩) p.code.length k')), .int .i64 k] w (AggPost w (.bool r)) := by
  have p3 := blk_cell KP.out 3 (.slice (some ⟨bb, o, none⟩) p.code.length k') rfl
  have hki : (k : Int) < (p.code.length : Int) := by omega
  have hk0 : (0 : Int) ≤ (k : Int) := by omega
  go_enter Tryz.func115, Tryz.ntmps115
  go_upto_region 1 with (fail)
  rw [← hW0]
  clear hW0
  go_wp2
  go_ret
  exact ⟨congrArg (fun z => Ending.returned (.bool z)) h5.out, HS.out⟩
set_option maxRecDepth 100000 in
set_option maxHeartbeats 4000000 in
theorem ufields_at (w W0 : World) (p : PProg) (vt' vc : Value) (a S M lt : Int)
    (hW0 : W0 = w.alloc (.cells (progC vt' p vc) 25)) (HS : Hid (Below w.heap.size w W0)) (KP : Hid (blk W0 w.heap.size (progC vt' p vc) 25))
    (HLO : Hid (∀ w1, Below w.heap.size w w1 → Calls Tryz.prog 101 #[.agg #[vt', str p.locals, str p.globs, vc], .int .u8 a] w1 (AggPost w1 (.int .i64 lt))))
    (HSZ : Hid (∀ w1, Below w.heap.size w w1 → Calls Tryz.prog 156 #[vt', .int .i64 lt] w1 fun e w' => e = .returned (.int .i64 S) ∧ w1 = w'))
    (hc : (S = 0 ∧ M = 0) ∨ (S = 1 ∧ M = 1) ∨ (S = 2 ∧ M = 3) ∨ (S = 3 ∧ M = 7) ∨ (S = 4 ∧ M = 15) ∨ (S = 5 ∧ M = 31) ∨ (S = 6 ∧ M = 63)) :
    Calls Tryz.prog 116 #[.agg (progC vt' p vc), .int .u8 a] w (AggPost w (.int .u8 M)) := by
  have HFA : Hid (∀ w', blk w' w.heap.size (progC vt' p vc) 25 → w'.cell? ⟨w.heap.size, 0, none⟩ = some vt' ∧ w'.cell? ⟨w.heap.size, 1, none⟩ = some (str p.locals) ∧ w'.cell? ⟨w.heap.size, 2, none⟩ = some (str p.globs) ∧ w'.cell? ⟨w.heap.size, 3, none⟩ = some vc) := Lib.hid fun w' hq => ⟨blk_cell hq 0 _ rfl, blk_cell hq 1 _ rfl, blk_cell hq 2 _ rfl, blk_cell hq 3 _ rfl⟩
  obtain ⟨p0, p1, p2, p3⟩ := HFA.out _ KP.out
  rcases hc with ⟨rfl, rfl⟩ | ⟨rfl, rfl⟩ | ⟨rfl, rfl⟩ | ⟨rfl, rfl⟩ | ⟨rfl, rfl⟩ | ⟨rfl, rfl⟩ | ⟨rfl, rfl⟩
  all_goals
    go_enter Tryz.func116, Tryz.ntmps116
    go_upto_region 1 with (fail)
    rw [← hW0]
    clear hW0
    have HS := Lib.hid (HS.out.drew)
    have KP := Lib.hid (blk_below KP.out (Below.refl _ _).drew)
    go_region_held3 (fun w' => w'.cell? ⟨w.heap.size, 0, none⟩ = some vt' ∧ w'.cell? ⟨w.heap.size, 1, none⟩ = some (str p.locals) ∧ w'.cell? ⟨w.heap.size, 2, none⟩ = some (str p.globs) ∧ w'.cell? ⟨w.heap.size, 3, none⟩ = some vc) (go_keep) (first
      | (go_at_call 101; ((with_reducible refine (HLO.out _ HS.out).mono ?_); rintro e w2 ⟨rfl, hb⟩; have HS := Lib.hid (HS.out.trans (hb.mono HS.out.size)); have KP := Lib.hid (blk_below KP.out hb); clear hb p0 p1 p2 p3; obtain ⟨p0, p1, p2, p3⟩ := HFA.out _ KP.out))
      | (go_at_call 156; ((with_reducible refine (HSZ.out _ HS.out).mono ?_); rintro e w3 ⟨rfl, rfl⟩)))
    all_goals
      clear p0 p1 p2 p3 HLO HSZ HFA
      go_wp2
      go_ret
      exact ⟨rfl, HS.out⟩
set_option maxRecDepth 100000 in
set_option maxHeartbeats 2000000 in
theorem ufield_n (n : Nat) (w : World) (h : n < 6) : Calls Tryz.prog 118 #[.int .i64 (n : Int)] w fun e w' => e = .returned (.int .u8 ((2 ^ n : Nat) : Int)) ∧ w = w' := by
  obtain ⟨m, m', hm, hm'⟩ : ∃ m m' : Int, m = n ∧ m' = ((2 ^ n : Nat) : Int) := ⟨_, _, rfl, rfl⟩
  rw [← hm, ← hm']
  have hc : (m = 0 ∧ m' = 1) ∨ (m = 1 ∧ m' = 2) ∨ (m = 2 ∧ m' = 4) ∨ (m = 3 ∧ m' = 8) ∨ (m = 4 ∧ m' = 16) ∨ (m = 5 ∧ m' = 32) := by
    subst hm hm'
    rcases (by omega : n = 0 ∨ n = 1 ∨ n = 2 ∨ n = 3 ∨ n = 4 ∨ n = 5) with rfl | rfl | rfl | rfl | rfl | rfl <;> simp
  clear hm hm'
  rcases hc with ⟨rfl, rfl⟩ | ⟨rfl, rfl⟩ | ⟨rfl, rfl⟩ | ⟨rfl, rfl⟩ | ⟨rfl, rfl⟩ | ⟨rfl, rfl⟩
  all_goals
    go_enter Tryz.func118, Tryz.ntmps118
    go_wp2
    go_ret
    exact ⟨rfl, rfl⟩
set_option maxRecDepth 100000 in
set_option maxHeartbeats 2000000 in
theorem uwrites_at (op ia b c n a : Int) (w W0 : World) (r : Bool) (hW0 : W0 = w.alloc (.cells (insC ⟨op, ia, b, c, n⟩) 60)) (HB : Hid (Below w.heap.size w W0)) (HI : Hid (blk W0 w.heap.size (insC ⟨op, ia, b, c, n⟩) 60))
    (hc : ((op == 9) = true ∧ (ia == a) = r) ∨ ((op == 9) = false ∧ (op == 11) = true ∧ (ia == a) = r) ∨ ((op == 9) = false ∧ (op == 11) = false ∧ r = false)) :
    Calls Tryz.prog 117 #[.agg (insC ⟨op, ia, b, c, n⟩), .int .u8 a] w (AggPost w (.bool r)) := by
  have c0 : W0.cell? ⟨w.heap.size, 0, none⟩ = some (.int .u8 op) := blk_cell HI.out 0 _ rfl
  have c1 : W0.cell? ⟨w.heap.size, 1, none⟩ = some (.int .u8 ia) := blk_cell HI.out 1 _ rfl
  go_enter Tryz.func117, Tryz.ntmps117
  go_upto_region 1 with (fail)
  rw [← hW0]
  clear hW0
  rcases hc with ⟨h1, h2⟩ | ⟨h1, h2, h3⟩ | ⟨h1, h2, rfl⟩
  all_goals
    go_wp2
    go_ret
    exact ⟨rfl, HB.out⟩
theorem uwrites_n (i : PIns) (a : Int) (w : World) : Calls Tryz.prog 117 #[.agg (insC i), .int .u8 a] w (AggPost w (.bool (putsI i a))) := by
  obtain ⟨op, ia, b, c, n⟩ := i
  refine uwrites_at op ia b c n a w _ _ rfl (Lib.hid ((Below.refl _ _).alloc (Nat.le_refl _) _)) (Lib.hid (blk_new _ _ _)) ?_
  unfold putsI
  by_cases h1 : op = 9
  · exact .inl ⟨by simpa using h1, by simp [h1]; rfl⟩
  have q1 : (op == 9) = false := by simpa using h1
  by_cases h2 : op = 11
  · exact .inr (.inl ⟨q1, by simpa using h2, by simp [h2]; rfl⟩)
  · exact .inr (.inr ⟨q1, by simpa using h2, by simp [h1, h2]⟩)
set_option maxRecDepth 100000 in
set_option maxHeartbeats 4000000 in
theorem uidle_at (op ia b c n a : Int) (w W0 : World) (r : Bool) (hW0 : W0 = w.alloc (.cells (insC ⟨op, ia, b, c, n⟩) 60)) (HB : Hid (Below w.heap.size w W0)) (HI : Hid (blk W0 w.heap.size (insC ⟨op, ia, b, c, n⟩) 60))
    (hc : ((op == 1) = true ∧ r = true) ∨ ((op == 1) = false ∧ (op == 2) = true ∧ r = true) ∨ ((op == 1) = false ∧ (op == 2) = false ∧ (op == 14) = true ∧ r = true) ∨ ((op == 1) = false ∧ (op == 2) = false ∧ (op == 14) = false ∧ (op == 15) = true ∧ r = true) ∨
      ((op == 1) = false ∧ (op == 2) = false ∧ (op == 14) = false ∧ (op == 15) = false ∧ (op == 6) = true ∧ (ia != a) = r) ∨ ((op == 1) = false ∧ (op == 2) = false ∧ (op == 14) = false ∧ (op == 15) = false ∧ (op == 6) = false ∧ (op == 7) = true ∧ (ia != a) = r) ∨
      ((op == 1) = false ∧ (op == 2) = false ∧ (op == 14) = false ∧ (op == 15) = false ∧ (op == 6) = false ∧ (op == 7) = false ∧ r = false)) :
    Calls Tryz.prog 119 #[.agg (insC ⟨op, ia, b, c, n⟩), .int .u8 a] w (AggPost w (.bool r)) := by
  have c0 : W0.cell? ⟨w.heap.size, 0, none⟩ = some (.int .u8 op) := blk_cell HI.out 0 _ rfl
  have c1 : W0.cell? ⟨w.heap.size, 1, none⟩ = some (.int .u8 ia) := blk_cell HI.out 1 _ rfl
  go_enter Tryz.func119, Tryz.ntmps119
  go_upto_region 1 with (fail)
  rw [← hW0]
  clear hW0
  rcases hc with ⟨h1, rfl⟩ | ⟨h1, h2, rfl⟩ | ⟨h1, h2, h3, rfl⟩ | ⟨h1, h2, h3, h4, rfl⟩ | ⟨h1, h2, h3, h4, h5, h6⟩ | ⟨h1, h2, h3, h4, h5, h6, h7⟩ | ⟨h1, h2, h3, h4, h5, h6, rfl⟩
  all_goals
    go_wp2
    go_ret
    exact ⟨rfl, HB.out⟩
theorem uidle_n (i : PIns) (a : Int) (w : World) : Calls Tryz.prog 119 #[.agg (insC i), .int .u8 a] w (AggPost w (.bool (passI i a))) := by
  obtain ⟨op, ia, b, c, n⟩ := i
  refine uidle_at op ia b c n a w _ _ rfl (Lib.hid ((Below.refl _ _).alloc (Nat.le_refl _) _)) (Lib.hid (blk_new _ _ _)) ?_
  unfold passI
  by_cases h1 : op = 1
  · exact .inl ⟨by simpa using h1, by simp [h1]⟩
  have q1 : (op == 1) = false := by simpa using h1
  by_cases h2 : op = 2
  · exact .inr (.inl ⟨q1, by simpa using h2, by simp [h2]⟩)
  have q2 : (op == 2) = false := by simpa using h2
  by_cases h3 : op = 14
  · exact .inr (.inr (.inl ⟨q1, q2, by simpa using h3, by simp [h3]⟩))
  have q3 : (op == 14) = false := by simpa using h3
  by_cases h4 : op = 15
  · exact .inr (.inr (.inr (.inl ⟨q1, q2, q3, by simpa using h4, by simp [h4]⟩)))
  have q4 : (op == 15) = false := by simpa using h4
  by_cases h5 : op = 6
  · exact .inr (.inr (.inr (.inr (.inl ⟨q1, q2, q3, q4, by simpa using h5, by simp [h5]; rfl⟩))))
  have q5 : (op == 6) = false := by simpa using h5
  by_cases h6 : op = 7
  · exact .inr (.inr (.inr (.inr (.inr (.inl ⟨q1, q2, q3, q4, q5, by simpa using h6, by simp [h6]; rfl⟩)))))
  · exact .inr (.inr (.inr (.inr (.inr (.inr ⟨q1, q2, q3, q4, q5, by simpa using h6, by simp [h1, h2, h3, h4, h5, h6]⟩)))))

/-! ### Last -/
/-- The world in Last. -/
structure UfW (w wr : World) (C : Array Value) : Prop where
  below : Below w.heap.size w wr
  prog : blk wr w.heap.size C 25
theorem UfW.next {w wr w' : World} {C : Array Value} (h : UfW w wr C) (hb : Below wr.heap.size wr w') : UfW w w' C :=
  ⟨h.below.trans (hb.mono h.below.size), blk_below h.prog hb⟩
set_option maxRecDepth 100000 in
set_option maxHeartbeats 8000000 in
theorem ulast_go (w W0 : World) (p : PProg) (vt' : Value) (bb o k' k S M : Nat) (a R : Int)
    (hW0 : W0 = w.alloc (.cells (progC vt' p (.slice (some ⟨bb, o, none⟩) p.code.length k')) 25)) (HS : Hid (Below w.heap.size w W0)) (KP : Hid (blk W0 w.heap.size (progC vt' p (.slice (some ⟨bb, o, none⟩) p.code.length k')) 25))
    (hlen : p.code.length ≤ 200) (hk : k < p.code.length) (g1 : p.code.length ≤ k') (g2 : k' ≤ 9223372036854775807) (HS6 : Hid (S ≤ 6)) (HM : Hid (M = leftM S nought6)) (hbb : bb < w.heap.size)
    (HCO : Hid (∀ m i, p.code[m]? = some i → w.rangeAt bb (o + m * 5) (insC i).toList))
    (H6 : Hid (∀ i ∈ p.code, putsI i a = true → ∃ n : Nat, i.n = n ∧ n < S))
    (HK5 : Hid (∃ b c n, p.code[k]? = some ⟨5, a, b, c, n⟩))
    (HNW : Hid (∀ w1, Below w.heap.size w w1 → Calls Tryz.prog 115 #[.agg (progC vt' p (.slice (some ⟨bb, o, none⟩) p.code.length k')), .int .i64 k] w1 (AggPost w1 (.bool true))))
    (HFS : Hid (∀ w1, Below w.heap.size w w1 → Calls Tryz.prog 116 #[.agg (progC vt' p (.slice (some ⟨bb, o, none⟩) p.code.length k')), .int .u8 a] w1 (AggPost w1 (.int .u8 M))))
    (HPW : Hid (∀ i w1, Calls Tryz.prog 117 #[.agg (insC i), .int .u8 a] w1 (AggPost w1 (.bool (putsI i a)))))
    (HPS : Hid (∀ i w1, Calls Tryz.prog 119 #[.agg (insC i), .int .u8 a] w1 (AggPost w1 (.bool (passI i a)))))
    (HR : Hid (goF a S nought6 (p.code.drop (k + 1)) (k + 1) = R)) :
    Calls Tryz.prog 72 #[.agg (progC vt' p (.slice (some ⟨bb, o, none⟩) p.code.length k')), .int .i64 k] w (AggPost w (.int .i64 R)) := by
  have hki : (k : Int) < (p.code.length : Int) := by omega
  have hk0 : (0 : Int) ≤ (k : Int) := by omega
  have HD1 : Hid (∀ w', Below w.heap.size w w' → w'.cell? ⟨bb, o + k * 5 + 1, none⟩ = some (.int .u8 a)) := Lib.hid fun w' hb => by
    obtain ⟨b5, c5, n5, hi5⟩ := HK5.out
    exact rangeAt_below (HCO.out k _ hi5) hbb hb 1 _ rfl
  have HFA : Hid (∀ w', blk w' w.heap.size (progC vt' p (.slice (some ⟨bb, o, none⟩) p.code.length k')) 25 → w'.cell? ⟨w.heap.size, 3, none⟩ = some (.slice (some ⟨bb, o, none⟩) p.code.length k')) := Lib.hid fun w' hq => blk_cell hq 3 _ rfl
  clear HK5
  go_enter Tryz.func72, Tryz.ntmps72
  go_upto_region 1 with (fail)
  rw [← hW0]
  clear hW0
  go_upto_region 3 with (first
    | (refine wpList_loadB rfl 25 _ rfl w.heap.size (progC vt' p (.slice (some ⟨bb, o, none⟩) p.code.length k')) rfl 25 KP.out _ Tryz.underlying25 rfl prog_info ?_)
    | (go_at_call 115; ((with_reducible refine (HNW.out _ HS.out).mono ?_); rintro e w1 ⟨rfl, hb⟩; have HS1 := Lib.hid (HS.out.trans (hb.mono HS.out.size)); have KP1 := Lib.hid (blk_below KP.out hb); clear hb)))
  clear HS KP HNW
  have p3 := HFA.out _ KP1.out
  have d1 := HD1.out _ HS1.out
  go_upto_region 5 with (first
    | (refine wpList_loadB rfl 25 _ rfl w.heap.size (progC vt' p (.slice (some ⟨bb, o, none⟩) p.code.length k')) rfl 25 KP1.out _ Tryz.underlying25 rfl prog_info ?_)
    | (go_at_call 116; ((with_reducible refine (HFS.out _ HS1.out).mono ?_); rintro e w2 ⟨rfl, hb⟩; have HW0 : Hid (UfW w w2 (progC vt' p (.slice (some ⟨bb, o, none⟩) p.code.length k'))) := Lib.hid ⟨HS1.out.trans (hb.mono HS1.out.size), blk_below KP1.out hb⟩; clear hb)))
  clear HS1 KP1 HFS p3 d1 HD1
  go_wp2_with (fail)
  go_loopw [6, 7] (fun v6 v7 wr => ∃ (m M : Nat) (left : Int) (had : List Bool), k + 1 ≤ m ∧ m ≤ p.code.length ∧ M < 64 ∧ v6 = .int .u8 M ∧ v7 = .int .i64 m ∧ Hid (UfW w wr (progC vt' p (.slice (some ⟨bb, o, none⟩) p.code.length k'))) ∧ Hid (had.length = 6 ∧ left = S - (cnt had : Int) ∧ InS S had ∧ M = leftM S had) ∧ Hid (goF a left had (p.code.drop m) m = R)) (fun _ v7 _ => p.code.length - (intOf v7).toNat)
  case atStart => exact ⟨k + 1, M, S, nought6, Nat.le_refl _, by omega, by rw [HM.out]; exact left_max rfl HS6.out, rfl, by go_num, HW0, Lib.hid ⟨rfl, by simp [nought6, cnt], inS_nought S, HM.out⟩, HR⟩
  case round =>
    clear HM HW0 HR
    obtain ⟨m, M, left, had, hkm, hm, hM, rfl, rfl, HW, HL, HG⟩ := hrel
    have p3 : wr.cell? ⟨w.heap.size, 3, none⟩ = some (.slice (some ⟨bb, o, none⟩) p.code.length k') := HFA.out _ HW.out.prog
    by_cases hml : m < p.code.length
    · have hmi : (m : Int) < (p.code.length : Int) := by omega
      have hm0 : (0 : Int) ≤ (m : Int) := by omega
      obtain ⟨i, hi⟩ : ∃ i, p.code[m]? = some i := ⟨_, List.getElem?_eq_getElem hml⟩
      have hr := rangeAt_below (HCO.out m i hi) hbb HW.out.below
      have HG2 : Hid (goF a left had (i :: p.code.drop (m + 1)) m = R) := Lib.hid (by rw [← drop_at hi]; exact HG.out)
      have h6i := H6.out i (List.mem_of_getElem? hi)
      have HPI := Lib.hid (HPS.out i)
      have HPP := Lib.hid (HPW.out i)
      obtain ⟨op, ia, b, c, n⟩ := i
      obtain ⟨d0, d1, d2, d3, d4⟩ : (wr.cell? ⟨bb, o + m * 5, none⟩ = some (.int .u8 op)) ∧ wr.cell? ⟨bb, o + m * 5 + 1, none⟩ = some (.int .u8 ia) ∧ wr.cell? ⟨bb, o + m * 5 + 2, none⟩ = some (.int .u8 b) ∧ wr.cell? ⟨bb, o + m * 5 + 3, none⟩ = some (.int .u8 c) ∧ wr.cell? ⟨bb, o + m * 5 + 4, none⟩ = some (.int .i64 n) := ⟨hr 0 _ rfl, hr 1 _ rfl, hr 2 _ rfl, hr 3 _ rfl, hr 4 _ rfl⟩
      clear hr hi HG HPS HPW H6 HCO
      go_upto_region 9 with (fail)
      have hab : Below wr.heap.size wr (wr.alloc (.cells (insC ⟨op, ia, b, c, n⟩) 60)) := (Below.refl _ _).alloc (Nat.le_refl _) _
      have HWA := Lib.hid (HW.out.next hab)
      have HI : Hid (blk (wr.alloc (.cells (insC ⟨op, ia, b, c, n⟩) 60)) wr.heap.size (insC ⟨op, ia, b, c, n⟩) 60) := Lib.hid (blk_new _ _ _)
      obtain ⟨I, hI⟩ : ∃ I, I = wr.heap.size := ⟨_, rfl⟩
      obtain ⟨wa, hwa⟩ : ∃ wa, wa = wr.alloc (.cells (insC ⟨op, ia, b, c, n⟩) 60) := ⟨_, rfl⟩
      rw [← hwa] at HWA HI ⊢
      rw [← hI] at HI ⊢
      clear hab hwa hI d0 d1 d2 d3 d4 p3 HW
      have HW := HWA
      clear HWA
      by_cases hp : putsI ⟨op, ia, b, c, n⟩ a = true
      · obtain ⟨nn, hn, hnS⟩ := h6i hp
        have hn : n = (nn : Int) := hn
        subst hn
        have HGE : Hid ((if (if had.getD nn false = true then left else left - 1) = 0 then (m : Int) else goF a (if had.getD nn false = true then left else left - 1) (had.set nn true) (p.code.drop (m + 1)) (m + 1)) = R) := Lib.hid (by
          have h9 := HG2.out
          rw [goF_cons, if_pos hp] at h9
          simpa using h9)
        rw [hp] at HPP
        have hnl : nn < had.length := by have := HL.out.1; have := HS6.out; omega
        have HL2 : Hid ((had.set nn true).length = 6 ∧ (if had.getD nn false = true then left else left - 1) = S - (cnt (had.set nn true) : Int) ∧ InS S (had.set nn true)) := Lib.hid ⟨by rw [List.length_set]; exact HL.out.1, by
          rw [cnt_set hnl]
          have := HL.out.2.1
          split <;> (simp; omega), HL.out.2.2.1.set hnS⟩
        have HFI := Lib.hid (fun w => ufield_n nn w (by have := HS6.out; omega))
        have hst := left_step HL.out.1 HS6.out hnS
        rw [← HL.out.2.2.2] at hst
        have hmx := left_max HL2.out.1 HS6.out
        have hno := left_none HL2.out.1 HS6.out HL2.out.2.2
        generalize hM2 : leftM S (had.set nn true) = M2 at hst hmx hno
        have HL3 := Lib.hid hM2.symm
        generalize hF : 2 ^ nn = F at hst HFI
        clear hM2 hF HG2 hp h6i HPI HL hnl
        generalize (if had.getD nn false = true then left else left - 1) = left2 at HGE HL2
        by_cases h0 : M2 = 0
        · have HX : Hid ((m : Int) = R) := Lib.hid (by have h9 := HGE.out; rw [if_pos (by have := HL2.out.2.1; have := hno.1 h0; omega)] at h9; exact h9)
          subst h0
          clear HGE HL2 HL3 hno hmx
          go_wp2_with (first
            | (refine wpList_loadBw (by rfl) 60 _ rfl I (insC ⟨op, ia, b, c, (nn : Int)⟩) rfl 60 HI.out _ Tryz.underlying60 rfl ins_info ?_)
            | (go_at_call 117; ((with_reducible refine (HPP.out _).mono ?_); rintro e w5 ⟨rfl, hb⟩; have HW := Lib.hid (HW.out.next hb); have HI := Lib.hid (blk_below HI.out hb); clear hb; have c4 : w5.cell? ⟨I, 4, none⟩ = some (.int .i64 (nn : Int)) := blk_cell HI.out 4 _ rfl))
            | (go_at_call 118; ((with_reducible refine (HFI.out _).mono ?_); rintro e w6 ⟨rfl, rfl⟩)))
          go_ret
          exact ⟨congrArg (fun z : Int => Ending.returned (.int .i64 z)) HX.out, HW.out.below⟩
        · have HX : Hid (goF a left2 (had.set nn true) (p.code.drop (m + 1)) (m + 1) = R) := Lib.hid (by have h9 := HGE.out; rw [if_neg (by have := HL2.out.2.1; intro h; exact h0 (hno.2 (by omega)))] at h9; exact h9)
          have e0 : (((M2 : Nat) : Int) == 0) = false := by simp; omega
          clear HGE hno
          go_wp2_with (first
            | (refine wpList_loadBw (by rfl) 60 _ rfl I (insC ⟨op, ia, b, c, (nn : Int)⟩) rfl 60 HI.out _ Tryz.underlying60 rfl ins_info ?_)
            | (go_at_call 117; ((with_reducible refine (HPP.out _).mono ?_); rintro e w5 ⟨rfl, hb⟩; have HW := Lib.hid (HW.out.next hb); have HI := Lib.hid (blk_below HI.out hb); clear hb; have c4 : w5.cell? ⟨I, 4, none⟩ = some (.int .i64 (nn : Int)) := blk_cell HI.out 4 _ rfl))
            | (go_at_call 118; ((with_reducible refine (HFI.out _).mono ?_); rintro e w6 ⟨rfl, rfl⟩)))
          go_roundw
          case rel => exact ⟨m + 1, M2, left2, _, by omega, by omega, hmx, rfl, by go_num, HW, Lib.hid ⟨HL2.out.1, HL2.out.2.1, HL2.out.2.2, HL3.out⟩, HX⟩
          case measure => simp [intOf]; omega
      · have HGE : Hid ((if passI ⟨op, ia, b, c, n⟩ a = true then goF a left had (p.code.drop (m + 1)) (m + 1) else -1) = R) := Lib.hid (by
          have h9 := HG2.out
          rw [goF_cons, if_neg hp] at h9
          exact h9)
        rw [Bool.not_eq_true] at hp
        rw [hp] at HPP
        clear HG2 hp h6i
        rcases hps : passI ⟨op, ia, b, c, n⟩ a with _ | _
        · have HX : Hid ((-1 : Int) = R) := Lib.hid (by have h9 := HGE.out; rw [hps] at h9; simpa using h9)
          rw [hps] at HPI
          clear HGE hps
          go_wp2_with (first
            | (refine wpList_loadBw (by rfl) 60 _ rfl I (insC ⟨op, ia, b, c, n⟩) rfl 60 HI.out _ Tryz.underlying60 rfl ins_info ?_)
            | (go_at_call 117; ((with_reducible refine (HPP.out _).mono ?_); rintro e w5 ⟨rfl, hb⟩; have HW := Lib.hid (HW.out.next hb); have HI := Lib.hid (blk_below HI.out hb); clear hb))
            | (go_at_call 119; ((with_reducible refine (HPI.out _).mono ?_); rintro e w6 ⟨rfl, hb⟩; have HW := Lib.hid (HW.out.next hb); have HI := Lib.hid (blk_below HI.out hb); clear hb)))
          go_ret
          exact ⟨congrArg (fun z : Int => Ending.returned (.int .i64 z)) HX.out, HW.out.below⟩
        · have HX : Hid (goF a left had (p.code.drop (m + 1)) (m + 1) = R) := Lib.hid (by have h9 := HGE.out; rw [hps] at h9; simpa using h9)
          rw [hps] at HPI
          clear HGE hps
          go_wp2_with (first
            | (refine wpList_loadBw (by rfl) 60 _ rfl I (insC ⟨op, ia, b, c, n⟩) rfl 60 HI.out _ Tryz.underlying60 rfl ins_info ?_)
            | (go_at_call 117; ((with_reducible refine (HPP.out _).mono ?_); rintro e w5 ⟨rfl, hb⟩; have HW := Lib.hid (HW.out.next hb); have HI := Lib.hid (blk_below HI.out hb); clear hb))
            | (go_at_call 119; ((with_reducible refine (HPI.out _).mono ?_); rintro e w6 ⟨rfl, hb⟩; have HW := Lib.hid (HW.out.next hb); have HI := Lib.hid (blk_below HI.out hb); clear hb)))
          go_roundw
          case rel => exact ⟨m + 1, M, left, had, by omega, by omega, hM, rfl, by go_num, HW, HL, HX⟩
          case measure => simp [intOf]; omega
    · have hme : m = p.code.length := by omega
      have HX : Hid ((-1 : Int) = R) := Lib.hid (by
        have h9 := HG.out
        rw [hme, List.drop_length] at h9
        exact h9)
      have hmn : ¬ ((m : Int) < (p.code.length : Int)) := by omega
      clear hme HG HL
      go_wp2
      go_ret
      exact ⟨congrArg (fun z : Int => Ending.returned (.int .i64 z)) HX.out, HW.out.below⟩
set_option maxRecDepth 100000 in
set_option maxHeartbeats 4000000 in
theorem ulast_no (w W0 : World) (p : PProg) (vt' : Value) (x' : Option Addr) (k' : Nat) (k : Int)
    (hW0 : W0 = w.alloc (.cells (progC vt' p (.slice x' p.code.length k')) 25)) (HS : Hid (Below w.heap.size w W0)) (KP : Hid (blk W0 w.heap.size (progC vt' p (.slice x' p.code.length k')) 25))
    (HNW : Hid (∀ w1, Below w.heap.size w w1 → Calls Tryz.prog 115 #[.agg (progC vt' p (.slice x' p.code.length k')), .int .i64 k] w1 (AggPost w1 (.bool false)))) :
    Calls Tryz.prog 72 #[.agg (progC vt' p (.slice x' p.code.length k')), .int .i64 k] w (AggPost w (.int .i64 (-1))) := by
  go_enter Tryz.func72, Tryz.ntmps72
  go_upto_region 1 with (fail)
  rw [← hW0]
  clear hW0
  go_wp2_with (first
    | (refine wpList_loadB rfl 25 _ rfl w.heap.size (progC vt' p (.slice x' p.code.length k')) rfl 25 KP.out _ Tryz.underlying25 rfl prog_info ?_)
    | (go_at_call 115; ((with_reducible refine (HNW.out _ HS.out).mono ?_); rintro e w1 ⟨rfl, hb⟩; have HS1 := Lib.hid (HS.out.trans (hb.mono HS.out.size)); clear hb)))
  go_ret
  exact ⟨rfl, HS1.out⟩
theorem ulast_n (v : Value) (p : PProg) (w : World) (k : Int) (h : ProgAt w v p) (hs : OkP p) (hc : (checkL p).2 = 0) : Calls Tryz.prog 72 #[v, .int .i64 k] w (AggPost w (.int .i64 (lastV p k))) := by
  obtain ⟨vt', vc, rfl, htl, hcc⟩ := id h
  obtain ⟨x', kx', rfl, g1, g2, g3⟩ := id hcc
  unfold maxLen at g2
  have hwb : ∀ w1 : World, Below w1.heap.size w1 (w1.alloc (.cells (progC vt' p (.slice x' p.code.length kx')) 25)) := fun w1 => (Below.refl _ _).alloc (Nat.le_refl _) _
  have hlen := (check_ok hc).2.2.1
  by_cases hk : k < 0 ∨ (p.code.length : Int) ≤ k
  · rw [lastV_none hk]
    exact ulast_no w _ p vt' x' kx' k rfl (Lib.hid (hwb w)) (Lib.hid (blk_new _ _ _)) (Lib.hid fun w1 _ => uisnew_bad w1 _ p vt' x' kx' k rfl (Lib.hid (hwb w1)) (Lib.hid (blk_new _ _ _)) (by omega))
  · obtain ⟨kn, rfl⟩ : ∃ kn : Nat, k = kn := ⟨k.toNat, by omega⟩
    have hi : p.code[kn]? = some (p.code[kn]'(by omega)) := List.getElem?_eq_getElem (by omega)
    generalize p.code[kn]'(by omega) = i at hi
    obtain ⟨bb, o, rfl, hbb, hrng⟩ := g3 kn i hi
    rw [lastV_nat (by omega)]
    have hnew : ∀ w1 r, Below w.heap.size w w1 → (i.op == 5) = r → Calls Tryz.prog 115 #[.agg (progC vt' p (.slice (some ⟨bb, o, none⟩) p.code.length kx')), .int .i64 kn] w1 (AggPost w1 (.bool r)) := fun w1 r hb hr =>
      uisnew_at w1 _ p vt' bb o kx' kn i.op r rfl (Lib.hid (hwb w1)) (Lib.hid (blk_new _ _ _)) (by omega) g1 (by omega) (rangeAt_below hrng hbb (hb.trans ((hwb w1).mono hb.size)) 0 _ rfl) (Lib.hid hr)
    by_cases h5 : i.op = 5
    · have hm := List.mem_of_getElem? hi
      obtain ⟨o0, o1, a0, a1, -⟩ := hs.ins i hm
      have hSz := sizeI_le (ts := tsP p.types) (t := localI p i.a)
      obtain ⟨S, hS⟩ : ∃ S : Nat, sizeI (tsP p.types) (localI p i.a) = S := ⟨(sizeI (tsP p.types) (localI p i.a)).toNat, by omega⟩
      have hS6 : S ≤ 6 := by omega
      have hSP : sizeP p.types (localI p i.a) = (S : Int) := hS
      refine ulast_go w _ p vt' bb o kx' kn S (leftM S nought6) i.a _ rfl (Lib.hid (hwb w)) (Lib.hid (blk_new _ _ _)) (by omega) (by omega) g1 (by omega) (Lib.hid hS6) (Lib.hid rfl) hbb (Lib.hid fun m j hj => ?_) (Lib.hid fun j hj hp => by have := puts_six hc hs.ins hj hp; rw [hSP] at this; exact ⟨j.n.toNat, by omega, by omega⟩) (Lib.hid ⟨i.b, i.c, i.n, by rw [hi, ← h5]⟩)
        (Lib.hid fun w1 hb => hnew w1 true hb (by simpa using h5)) (Lib.hid fun w1 hb => ?_) (Lib.hid fun j w1 => uwrites_n j i.a w1) (Lib.hid fun j w1 => uidle_n j i.a w1) (Lib.hid (by rw [lastL_at hi h5, hSP]))
      · obtain ⟨b2, o2, e2, -, h2⟩ := g3 m j hj
        cases e2
        exact h2
      · refine ufields_at w1 _ p vt' _ i.a S _ (localI p i.a) rfl (Lib.hid (hwb w1)) (Lib.hid (blk_new _ _ _)) (Lib.hid fun w2 hb2 => local_any _ p i.a w2 (h.below (hb.trans (hb2.mono hb.size))) hs a0 a1) (Lib.hid fun w2 hb2 => (ksize_any _ (tsP p.types) (localI p i.a) w2 (ts_of (htl.below (hb.trans (hb2.mono hb.size))) hs.ty)).mono fun e w' ⟨h1, h2⟩ => ⟨by rw [h1, hS], h2⟩) ?_
        rw [left_nought S (by omega)]
        rcases (by omega : S = 0 ∨ S = 1 ∨ S = 2 ∨ S = 3 ∨ S = 4 ∨ S = 5 ∨ S = 6) with rfl | rfl | rfl | rfl | rfl | rfl | rfl <;> simp
    · rw [lastL_no hi h5]
      exact ulast_no w _ p vt' _ kx' kn rfl (Lib.hid (hwb w)) (Lib.hid (blk_new _ _ _)) (Lib.hid fun w1 hb => hnew w1 false hb (by simpa using h5))

/-! ### Full -/
set_option maxRecDepth 100000 in
set_option maxHeartbeats 2000000 in
theorem ufull_at (w W0 : World) (p : PProg) (vt' vc : Value) (k L : Int) (r : Bool)
    (hW0 : W0 = w.alloc (.cells (progC vt' p vc) 25)) (HS : Hid (Below w.heap.size w W0)) (KP : Hid (blk W0 w.heap.size (progC vt' p vc) 25))
    (HLA : Hid (∀ w1, Below w.heap.size w w1 → Calls Tryz.prog 72 #[.agg (progC vt' p vc), .int .i64 k] w1 (AggPost w1 (.int .i64 L)))) (hr : Hid ((L != -1) = r)) :
    Calls Tryz.prog 31 #[.agg (progC vt' p vc), .int .i64 k] w (AggPost w (.bool r)) := by
  go_enter Tryz.func31, Tryz.ntmps31
  go_upto_region 1 with (fail)
  rw [← hW0]
  clear hW0
  go_wp2_with (first
    | (refine wpList_loadB rfl 25 _ rfl w.heap.size (progC vt' p vc) rfl 25 KP.out _ Tryz.underlying25 rfl prog_info ?_)
    | (go_at_call 72; ((with_reducible refine (HLA.out _ HS.out).mono ?_); rintro e w1 ⟨rfl, hb⟩; have HS1 := Lib.hid (HS.out.trans (hb.mono HS.out.size)); clear hb)))
  go_ret
  exact ⟨congrArg (fun z => Ending.returned (.bool z)) hr.out, HS1.out⟩
theorem ufull_n (v : Value) (p : PProg) (w : World) (k : Int) (h : ProgAt w v p) (hs : OkP p) (hc : (checkL p).2 = 0) : Calls Tryz.prog 31 #[v, .int .i64 k] w (AggPost w (.bool (decide (0 ≤ lastV p k)))) := by
  obtain ⟨vt', vc, rfl, htl, hcc⟩ := id h
  refine ufull_at w _ p vt' vc k (lastV p k) _ rfl (Lib.hid ((Below.refl _ _).alloc (Nat.le_refl _) _)) (Lib.hid (blk_new _ _ _)) (Lib.hid fun w1 hb => ulast_n _ p w1 k (h.below hb) hs hc) (Lib.hid ?_)
  have hv : lastV p k = -1 ∨ 0 ≤ lastV p k := by
    by_cases hk : k < 0 ∨ (p.code.length : Int) ≤ k
    · exact .inl (lastV_none hk)
    · obtain ⟨kn, rfl⟩ : ∃ kn : Nat, k = kn := ⟨k.toNat, by omega⟩
      rw [lastV_nat (by omega)]
      rcases lastL_or (q := p) kn with h1 | ⟨n, h1, _⟩
      · exact .inl h1
      · exact .inr (by omega)
  rcases hv with hv | hv
  · rw [hv]; rfl
  · rw [decide_eq_true hv]; simp; omega
end Go.Proofs.YtcjhgibhenocpaaGreatDoor
