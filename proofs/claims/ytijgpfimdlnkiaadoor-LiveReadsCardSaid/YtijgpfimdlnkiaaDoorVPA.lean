/-
  The program's live: its Uses, Sets and In do what they are to do.
  Layer 8: the contract of alive: answers that the document fixes.
-/
import Derived.Test.YtijgpfimdlnkiaaDoorVBI
import Derived.Test.YtijgpfimdlnkiaaDoorFPg
import Derived.Laws.Shifts
import Derived.Laws.ShiftsVarLaws
import Derived.Deep.LoopGhost
import Derived.WalkMore
import Derived.ScopeJumps

/- The program's live: its Uses, Sets and In do what they are to do. -/
namespace Go.Proofs.YtijgpfimdlnkiaaDoor
set_option linter.unusedSimpArgs false
set_option linter.unusedVariables false
open Go.RowKit

/-! ### A label to which the run jumps back: the relation bears a number, which every pass lowers -/
theorem jump_mono {l : Nat} {J K : Act → World → Prop} {Q : Exit → Act → World → Prop} (h : ∀ a w, J a w → K a w) (e : Exit) (a : Act) (w : World) (hq : Exit.jump l J Q e a w) : Exit.jump l K Q e a w := by
  cases e with
  | goto l' => exact ⟨hq.1, h _ _ hq.2⟩
  | _ => exact hq
theorem wp_scope_ghost {P : Program} {a : Act} {w : World} {Q : Exit → Act → World → Prop} {c rest : Code} (l : Nat) (I : Nat → Act → World → Prop) (hf : findLabel c l = some (.seq .skip rest))
    (pass : ∀ n a w, I n a w → ∀ K : Act → World → Prop, (∀ n' a' w', n' < n → I n' a' w' → K a' w') → rest.wp P (Exit.jump l K Q) a w)
    (first : ∀ J : Act → World → Prop, (∀ n a w, I n a w → rest.wp P (Exit.jump l J Q) a w) → c.wp P (Exit.jump l J Q) a w) : (Code.scope c).wp P Q a w := by
  refine wp_scope_jumps l (fun a w => ∃ n, I n a w) (fun a w => leastOf (fun n => I n a w)) hf (first _ fun n a w h => pass n a w h _ fun n' _ _ _ h' => ⟨n', h'⟩) ?_
  intro a w hJ
  refine wp_seq (wp_skip ?_)
  exact pass _ a w (leastOf_spec hJ).1 _ fun n' a' w' hlt h' => ⟨⟨n', h'⟩, Nat.lt_of_le_of_lt ((leastOf_spec (p := fun n => I n a' w') ⟨n', h'⟩).2 n' h') hlt⟩

/-! ### bit, Uses and Sets -/
set_option maxRecDepth 100000 in
set_option maxHeartbeats 2000000 in
theorem pbit_n (a : Int) (w : World) (h0 : 0 ≤ a) (h1 : a ≤ 255) : Calls Tryd.prog 20 #[.int .u8 a] w fun e w' => e = .returned (.int .u8 ((bitN a : Nat) : Int)) ∧ w = w' := by
  have HE : Hid ((2 : Int) ^ min a.toNat 8 % 256 = ((bitN a : Nat) : Int)) := Lib.hid (by
    rw [u8_shl_one_var a h0]
    unfold bitN
    by_cases h8 : 8 ≤ a
    · rw [if_pos h8, if_pos (show 7 < a by omega)]; rfl
    · rw [if_neg h8, if_neg (show ¬ 7 < a by omega)]; simp)
  clear h1
  go_enter Tryd.func20, Tryd.ntmps20
  go_wp2
  go_ret
  exact ⟨congrArg (fun z => Ending.returned (.int .u8 z)) HE.out, rfl⟩
theorem pbit_h {x : Int} {m : Nat} (h0 : 0 ≤ x) (h1 : x ≤ 255) (hm : bitN x = m) (w : World) : Calls Tryd.prog 20 #[.int .u8 x] w fun e w' => e = .returned (.int .u8 ((m : Nat) : Int)) ∧ w = w' := by
  rw [← hm]; exact pbit_n x w h0 h1
set_option maxRecDepth 100000 in
set_option maxHeartbeats 8000000 in
theorem lsets_at (op a b c n : Int) (w W0 : World) (m r : Nat) (hW0 : W0 = w.alloc (.cells (insC ⟨op, a, b, c, n⟩) 27)) (HB : Hid (Below w.heap.size w W0)) (HI : Hid (blk W0 w.heap.size (insC ⟨op, a, b, c, n⟩) 27))
    (HA : Hid (∀ w, Calls Tryd.prog 20 #[.int .u8 a] w fun e w' => e = .returned (.int .u8 ((m : Nat) : Int)) ∧ w = w'))
    (hc : ((op == 5) = true ∧ r = m) ∨ ((op == 5) = false ∧ (op == 6) = true ∧ r = m) ∨ ((op == 5) = false ∧ (op == 6) = false ∧ (op == 7) = true ∧ r = m) ∨ ((op == 5) = false ∧ (op == 6) = false ∧ (op == 7) = false ∧ (op == 10) = true ∧ r = m) ∨ ((op == 5) = false ∧ (op == 6) = false ∧ (op == 7) = false ∧ (op == 10) = false ∧ (op == 12) = true ∧ r = m) ∨ ((op == 5) = false ∧ (op == 6) = false ∧ (op == 7) = false ∧ (op == 10) = false ∧ (op == 12) = false ∧ r = 0)) :
    Calls Tryd.prog 12 #[.agg (insC ⟨op, a, b, c, n⟩)] w (AggPost w (.int .u8 ((r : Nat) : Int))) := by
  have c0 : W0.cell? ⟨w.heap.size, 0, none⟩ = some (.int .u8 op) := blk_cell HI.out 0 _ rfl
  have c1 : W0.cell? ⟨w.heap.size, 1, none⟩ = some (.int .u8 a) := blk_cell HI.out 1 _ rfl
  go_enter Tryd.func12, Tryd.ntmps12
  go_upto_region 1 with (fail)
  rw [← hW0]
  clear hW0
  rcases hc with ⟨h1, rfl⟩ | ⟨h1, h2, rfl⟩ | ⟨h1, h2, h3, rfl⟩ | ⟨h1, h2, h3, h4, rfl⟩ | ⟨h1, h2, h3, h4, h5, rfl⟩ | ⟨h1, h2, h3, h4, h5, rfl⟩
  all_goals
    go_wp2_with (go_at_call 20; refine (HA.out _).mono ?_; rintro e w' ⟨rfl, rfl⟩)
    go_ret
    exact ⟨rfl, HB.out⟩
theorem lsets_n (i : PIns) (w : World) (h : OkI i) : Calls Tryd.prog 12 #[.agg (insC i)] w (AggPost w (.int .u8 ((setsN i : Nat) : Int))) := by
  obtain ⟨op, a, b, c, n⟩ := i
  obtain ⟨o0, o1, a0, a1, b0, b1, c0, c1, n0, n1⟩ := h
  simp only at o0 o1 a0 a1 b0 b1 c0 c1 n0 n1
  refine lsets_at op a b c n w _ (bitN a) _ rfl (Lib.hid ((Below.refl _ _).alloc (Nat.le_refl _) _)) (Lib.hid (blk_new _ _ _)) (Lib.hid fun w => pbit_n a w a0 a1) ?_
  unfold setsN
  by_cases h1 : op = 5
  · exact .inl ⟨by simpa using h1, by simp [h1]⟩
  have q1 : (op == 5) = false := by simpa using h1
  by_cases h2 : op = 6
  · exact .inr (.inl ⟨q1, by simpa using h2, by simp [h2]⟩)
  have q2 : (op == 6) = false := by simpa using h2
  by_cases h3 : op = 7
  · exact .inr (.inr (.inl ⟨q1, q2, by simpa using h3, by simp [h3]⟩))
  have q3 : (op == 7) = false := by simpa using h3
  by_cases h4 : op = 10
  · exact .inr (.inr (.inr (.inl ⟨q1, q2, q3, by simpa using h4, by simp [h4]⟩)))
  have q4 : (op == 10) = false := by simpa using h4
  by_cases h5 : op = 12
  · exact .inr (.inr (.inr (.inr (.inl ⟨q1, q2, q3, q4, by simpa using h5, by simp [h5]⟩))))
  · exact .inr (.inr (.inr (.inr (.inr ⟨q1, q2, q3, q4, by simpa using h5, by simp [h1, h2, h3, h4, h5]⟩))))
set_option maxRecDepth 100000 in
set_option maxHeartbeats 8000000 in
theorem luses_at (op a b c n : Int) (w W0 : World) (ma mb mc r : Nat) (hW0 : W0 = w.alloc (.cells (insC ⟨op, a, b, c, n⟩) 27)) (HB : Hid (Below w.heap.size w W0)) (HI : Hid (blk W0 w.heap.size (insC ⟨op, a, b, c, n⟩) 27))
    (HA : Hid (∀ w, Calls Tryd.prog 20 #[.int .u8 a] w fun e w' => e = .returned (.int .u8 ((ma : Nat) : Int)) ∧ w = w'))
    (HBB : Hid (∀ w, Calls Tryd.prog 20 #[.int .u8 b] w fun e w' => e = .returned (.int .u8 ((mb : Nat) : Int)) ∧ w = w'))
    (HC : Hid (∀ w, Calls Tryd.prog 20 #[.int .u8 c] w fun e w' => e = .returned (.int .u8 ((mc : Nat) : Int)) ∧ w = w')) (HOA : Hid (bits .or .u8 (ma : Int) (mb : Int) = ((ma ||| mb : Nat) : Int))) (HOC : Hid (bits .or .u8 (mb : Int) (mc : Int) = ((mb ||| mc : Nat) : Int)))
    (hc : ((op == 7) = true ∧ r = mb) ∨ ((op == 7) = false ∧ (op == 8) = true ∧ r = mb) ∨ ((op == 7) = false ∧ (op == 8) = false ∧ (op == 10) = true ∧ r = mb) ∨ ((op == 7) = false ∧ (op == 8) = false ∧ (op == 10) = false ∧ (op == 13) = true ∧ r = mb) ∨ ((op == 7) = false ∧ (op == 8) = false ∧ (op == 10) = false ∧ (op == 13) = false ∧ (op == 9) = true ∧ r = ma) ∨
      ((op == 7) = false ∧ (op == 8) = false ∧ (op == 10) = false ∧ (op == 13) = false ∧ (op == 9) = false ∧ (op == 11) = true ∧ r = ma ||| mb) ∨ ((op == 7) = false ∧ (op == 8) = false ∧ (op == 10) = false ∧ (op == 13) = false ∧ (op == 9) = false ∧ (op == 11) = false ∧ (op == 15) = true ∧ r = mb ||| mc) ∨ ((op == 7) = false ∧ (op == 8) = false ∧ (op == 10) = false ∧ (op == 13) = false ∧ (op == 9) = false ∧ (op == 11) = false ∧ (op == 15) = false ∧ r = 0)) :
    Calls Tryd.prog 10 #[.agg (insC ⟨op, a, b, c, n⟩)] w (AggPost w (.int .u8 ((r : Nat) : Int))) := by
  have c0 : W0.cell? ⟨w.heap.size, 0, none⟩ = some (.int .u8 op) := blk_cell HI.out 0 _ rfl
  have c1 : W0.cell? ⟨w.heap.size, 1, none⟩ = some (.int .u8 a) := blk_cell HI.out 1 _ rfl
  have c2 : W0.cell? ⟨w.heap.size, 2, none⟩ = some (.int .u8 b) := blk_cell HI.out 2 _ rfl
  have c3 : W0.cell? ⟨w.heap.size, 3, none⟩ = some (.int .u8 c) := blk_cell HI.out 3 _ rfl
  go_enter Tryd.func10, Tryd.ntmps10
  go_upto_region 1 with (fail)
  rw [← hW0]
  clear hW0
  rcases hc with ⟨h1, rfl⟩ | ⟨h1, h2, rfl⟩ | ⟨h1, h2, h3, rfl⟩ | ⟨h1, h2, h3, h4, rfl⟩ | ⟨h1, h2, h3, h4, h5, rfl⟩ | ⟨h1, h2, h3, h4, h5, h6, rfl⟩ | ⟨h1, h2, h3, h4, h5, h6, h7, rfl⟩ | ⟨h1, h2, h3, h4, h5, h6, h7, rfl⟩
  · go_wp2_with (go_at_call 20; refine (HBB.out _).mono ?_; rintro e w' ⟨rfl, rfl⟩)
    go_ret
    exact ⟨rfl, HB.out⟩
  · go_wp2_with (go_at_call 20; refine (HBB.out _).mono ?_; rintro e w' ⟨rfl, rfl⟩)
    go_ret
    exact ⟨rfl, HB.out⟩
  · go_wp2_with (go_at_call 20; refine (HBB.out _).mono ?_; rintro e w' ⟨rfl, rfl⟩)
    go_ret
    exact ⟨rfl, HB.out⟩
  · go_wp2_with (go_at_call 20; refine (HBB.out _).mono ?_; rintro e w' ⟨rfl, rfl⟩)
    go_ret
    exact ⟨rfl, HB.out⟩
  · go_wp2_with (go_at_call 20; refine (HA.out _).mono ?_; rintro e w' ⟨rfl, rfl⟩)
    go_ret
    exact ⟨rfl, HB.out⟩
  · go_upto_region 10 with (fail)
    go_region_held3 (fun w' => w'.cell? ⟨w.heap.size, 1, none⟩ = some (.int .u8 a) ∧ w'.cell? ⟨w.heap.size, 2, none⟩ = some (.int .u8 b)) (go_keep) (first
      | (go_at_call 20; ((with_reducible refine (HA.out _).mono ?_); rintro e w' ⟨rfl, rfl⟩))
      | (go_at_call 20; ((with_reducible refine (HBB.out _).mono ?_); rintro e w' ⟨rfl, rfl⟩)))
    all_goals
      go_wp2
      go_ret
      exact ⟨congrArg (fun z => Ending.returned (.int .u8 z)) HOA.out, HB.out.drew⟩
  · go_upto_region 12 with (fail)
    go_region_held3 (fun w' => w'.cell? ⟨w.heap.size, 2, none⟩ = some (.int .u8 b) ∧ w'.cell? ⟨w.heap.size, 3, none⟩ = some (.int .u8 c)) (go_keep) (first
      | (go_at_call 20; ((with_reducible refine (HBB.out _).mono ?_); rintro e w' ⟨rfl, rfl⟩))
      | (go_at_call 20; ((with_reducible refine (HC.out _).mono ?_); rintro e w' ⟨rfl, rfl⟩)))
    all_goals
      go_wp2
      go_ret
      exact ⟨congrArg (fun z => Ending.returned (.int .u8 z)) HOC.out, HB.out.drew⟩
  · go_wp2
    go_ret
    exact ⟨rfl, HB.out⟩
theorem luses_n (i : PIns) (w : World) (h : OkI i) : Calls Tryd.prog 10 #[.agg (insC i)] w (AggPost w (.int .u8 ((usesN i : Nat) : Int))) := by
  obtain ⟨op, a, b, c, n⟩ := i
  obtain ⟨o0, o1, a0, a1, b0, b1, c0, c1, n0, n1⟩ := h
  simp only at o0 o1 a0 a1 b0 b1 c0 c1 n0 n1
  refine luses_at op a b c n w _ (bitN a) (bitN b) (bitN c) _ rfl (Lib.hid ((Below.refl _ _).alloc (Nat.le_refl _) _)) (Lib.hid (blk_new _ _ _)) (Lib.hid fun w => pbit_n a w a0 a1) (Lib.hid fun w => pbit_n b w b0 b1) (Lib.hid fun w => pbit_n c w c0 c1) (Lib.hid (or_u8 (bit_lt _) (bit_lt _))) (Lib.hid (or_u8 (bit_lt _) (bit_lt _))) ?_
  unfold usesN
  by_cases h1 : op = 7
  · exact .inl ⟨by simpa using h1, by simp [h1]⟩
  have q1 : (op == 7) = false := by simpa using h1
  by_cases h2 : op = 8
  · exact .inr (.inl ⟨q1, by simpa using h2, by simp [h2]⟩)
  have q2 : (op == 8) = false := by simpa using h2
  by_cases h3 : op = 10
  · exact .inr (.inr (.inl ⟨q1, q2, by simpa using h3, by simp [h3]⟩))
  have q3 : (op == 10) = false := by simpa using h3
  by_cases h4 : op = 13
  · exact .inr (.inr (.inr (.inl ⟨q1, q2, q3, by simpa using h4, by simp [h4]⟩)))
  have q4 : (op == 13) = false := by simpa using h4
  by_cases h5 : op = 9
  · exact .inr (.inr (.inr (.inr (.inl ⟨q1, q2, q3, q4, by simpa using h5, by simp [h5]⟩))))
  have q5 : (op == 9) = false := by simpa using h5
  by_cases h6 : op = 11
  · exact .inr (.inr (.inr (.inr (.inr (.inl ⟨q1, q2, q3, q4, q5, by simpa using h6, by simp [h6]⟩)))))
  have q6 : (op == 11) = false := by simpa using h6
  by_cases h7 : op = 15
  · exact .inr (.inr (.inr (.inr (.inr (.inr (.inl ⟨q1, q2, q3, q4, q5, q6, by simpa using h7, by simp [h7]⟩))))))
  · exact .inr (.inr (.inr (.inr (.inr (.inr (.inr ⟨q1, q2, q3, q4, q5, q6, by simpa using h7, by simp [h1, h2, h3, h4, h5, h6, h7]⟩))))))

/-! ### ahead: what matters at a place, by what is known of those behind it -/
structure AhW (w wr : World) (H : Nat) (C : Array Value) (out : List Nat) : Prop where
  below : Below w.heap.size w wr
  prog : blk wr w.heap.size C 25
  ar : blk wr H (u8Arr out) 5
theorem AhW.next {w wr w' : World} {H : Nat} {C : Array Value} {out : List Nat} (h : AhW w wr H C out) (hb : Below wr.heap.size wr w') : AhW w w' H C out :=
  ⟨h.below.trans (hb.mono h.below.size), blk_below h.prog hb, blk_below h.ar hb⟩
set_option maxRecDepth 100000 in
set_option maxHeartbeats 8000000 in
theorem lahead_at (w W0 : World) (p : PProg) (vt' : Value) (x' : Option Addr) (k' H k : Nat) (out : List Nat) (vi : Value) (hvi : vi = .slice (some ⟨H, 0, none⟩) (p.code.length + 1) (p.code.length + 1))
    (hW0 : W0 = w.alloc (.cells (progC vt' p (.slice x' p.code.length k')) 25)) (HW : Hid (AhW w W0 H (progC vt' p (.slice x' p.code.length k')) out))
    (hlen : p.code.length ≤ 200) (hin : Hid (InP p)) (hok : Hid (∀ i ∈ p.code, OkI i)) (g1 : p.code.length ≤ k') (g2 : k' ≤ 9223372036854775807) (hkl : k < p.code.length) (HP : Hid (PartN p out))
    (HCO : Hid (∀ m i, p.code[m]? = some i → ∃ bb o, x' = some ⟨bb, o, none⟩ ∧ bb < w.heap.size ∧ w.rangeAt bb (o + m * 5) (insC i).toList))
    (HN : Hid (∀ (w1 : World) (k : Nat), Below w.heap.size w w1 → Calls Tryd.prog 32 #[.agg (progC vt' p (.slice x' p.code.length k')), .int .i64 k] w1 (RowPost w1 (nextV p k)))) :
    Calls Tryd.prog 24 #[.agg (progC vt' p (.slice x' p.code.length k')), .int .i64 k, vi] w (AggPost w (.int .u8 ((flowN p out k : Nat) : Int))) := by
  have p3 : W0.cell? ⟨w.heap.size, 3, none⟩ = some (.slice x' p.code.length k') := blk_cell HW.out.prog 3 _ rfl
  subst hvi
  go_enter Tryd.func24, Tryd.ntmps24
  go_upto_region 1 with (fail)
  rw [← hW0]
  clear hW0
  go_wp2_with (first
    | (refine wpList_loadB rfl 25 _ rfl w.heap.size (progC vt' p (.slice x' p.code.length k')) rfl 25 HW.out.prog _ Tryd.underlying25 rfl prog_info ?_)
    | (go_at_call 32; refine (HN.out _ k HW.out.below).mono ?_; rintro e1 w4 ⟨v8, rfl, ho, hb4⟩; obtain ⟨ad, cap, hv8, hcp, hcp2⟩ := own_form ho; subst hv8; have HL := Lib.hid (rowA_form (RowAt.of_own ho)); have HW4 := Lib.hid (HW.out.next hb4); clear ho hb4))
  have hll : (nextV p k).length = (nextL p k).length := by rw [nextL_cast]; simp
  have HLC : Hid (∀ (j n : Nat), (nextL p k)[j]? = some n → ∃ b o, ad = some ⟨b, o, none⟩ ∧ w4.cell? ⟨b, o + j, none⟩ = some (.int .i64 (n : Int))) := Lib.hid (by
    obtain ⟨a0, c0, e1, -, -, h3⟩ := HL.out
    simp only [Value.slice.injEq] at e1
    obtain ⟨rfl, -, -⟩ := e1
    intro j n hn
    obtain ⟨b, o, e2, -, h4⟩ := h3 j (n : Int) (by rw [nextL_cast]; simp [hn])
    exact ⟨b, o, e2, h4⟩)
  rw [hll] at hcp ⊢
  clear HL hll HW p3
  have hl2 := (next_sorted (q := p) k).1
  go_loopw [7, 14] (fun v6 v8 wx => ∃ (j m : Nat), j ≤ (nextL p k).length ∧ v8 = .int .i64 j ∧ v6 = .int .u8 (m : Int) ∧ Hid (m = behN out ((nextL p k).take j)) ∧ wx = w4) (fun _ v8 _ => (nextL p k).length - (intOf v8).toNat)
  case atStart => exact ⟨0, 0, Nat.zero_le _, rfl, rfl, Lib.hid rfl, rfl⟩
  case round =>
    obtain ⟨j, m, hj, rfl, rfl, HM, hwx⟩ := hrel
    subst hwx
    by_cases hjl : j < (nextL p k).length
    · have hji : (j : Int) < ((nextL p k).length : Int) := by omega
      obtain ⟨n, hn⟩ : ∃ n, (nextL p k)[j]? = some n := ⟨_, List.getElem?_eq_getElem hjl⟩
      have hnl := (next_le hin.out (List.mem_of_getElem? hn)).1
      have hni : (n : Int) < (p.code.length : Int) + 1 := by omega
      have hn0 : (0 : Int) ≤ (n : Int) := by omega
      obtain ⟨b9, o9, rfl, c9⟩ := HLC.out j n hn
      have ch : wr.cell? ⟨H, n, none⟩ = some (.int .u8 ((out.getD n 0 : Nat) : Int)) := blk_cell HW4.out.ar n _ (u8Arr_get (by have := HP.out.len; omega))
      have hm : m < 256 := by rw [HM.out]; exact beh_lt HP.out.lt _
      have HOR := Lib.hid (or_u8 hm (HP.out.lt n))
      have HM2 : Hid (m ||| out.getD n 0 = behN out ((nextL p k).take (j + 1))) := Lib.hid (by rw [beh_next hn, HM.out])
      generalize out.getD n 0 = z at ch HOR HM2
      clear hn HM
      go_wp2
      go_roundw
      case rel => exact ⟨j + 1, _, by omega, by go_num, by rw [HOR.out], HM2, trivial⟩
      case measure => simp [intOf]; omega
    · have hje : j = (nextL p k).length := by omega
      have HM2 : Hid (m = behN out (nextL p k)) := Lib.hid (by have := HM.out; rwa [hje, List.take_length] at this)
      have hjn : ¬ ((j : Int) < ((nextL p k).length : Int)) := by omega
      clear hje HM HLC
      obtain ⟨i, hi⟩ : ∃ i, p.code[k]? = some i := ⟨_, List.getElem?_eq_getElem (by omega)⟩
      obtain ⟨bb, o, rfl, hbb, hrng⟩ := HCO.out k i hi
      have hoki := hok.out i (List.mem_of_getElem? hi)
      have HFL : Hid (usesN i ||| butN m (setsN i) = flowN p out k) := Lib.hid (by unfold flowN; rw [HM2.out, setsK_at hi, usesK_at hi, Nat.or_comm])
      have hm : m < 256 := by rw [HM2.out]; exact beh_lt HP.out.lt _
      have HBU := Lib.hid (but_u8 hm (sets_lt i))
      have HOU := Lib.hid (or_u8 (uses_lt i) (but_lt (setsN i) hm))
      obtain ⟨op, a, b, c, n⟩ := i
      have HSE : Hid (∀ w1, Calls Tryd.prog 12 #[.agg #[.int .u8 op, .int .u8 a, .int .u8 b, .int .u8 c, .int .i64 n]] w1 (AggPost w1 (.int .u8 ((setsN ⟨op, a, b, c, n⟩ : Nat) : Int)))) := Lib.hid fun w1 => lsets_n _ w1 hoki
      have HUS : Hid (∀ w1, Calls Tryd.prog 10 #[.agg #[.int .u8 op, .int .u8 a, .int .u8 b, .int .u8 c, .int .i64 n]] w1 (AggPost w1 (.int .u8 ((usesN ⟨op, a, b, c, n⟩ : Nat) : Int)))) := Lib.hid fun w1 => luses_n _ w1 hoki
      generalize setsN ⟨op, a, b, c, n⟩ = sN at HFL HBU HOU HSE
      generalize usesN ⟨op, a, b, c, n⟩ = uN at HFL HOU HUS
      have HFA : Hid (∀ w', AhW w w' H (progC vt' p (.slice (some ⟨bb, o, none⟩) p.code.length k')) out → w'.cell? ⟨w.heap.size, 3, none⟩ = some (.slice (some ⟨bb, o, none⟩) p.code.length k') ∧ w'.cell? ⟨bb, o + k * 5, none⟩ = some (.int .u8 op) ∧ w'.cell? ⟨bb, o + k * 5 + 1, none⟩ = some (.int .u8 a) ∧ w'.cell? ⟨bb, o + k * 5 + 2, none⟩ = some (.int .u8 b) ∧ w'.cell? ⟨bb, o + k * 5 + 3, none⟩ = some (.int .u8 c) ∧ w'.cell? ⟨bb, o + k * 5 + 4, none⟩ = some (.int .i64 n)) := Lib.hid fun w' hq => by
        have hr := rangeAt_below hrng hbb hq.below
        exact ⟨blk_cell hq.prog 3 _ rfl, hr 0 _ rfl, hr 1 _ rfl, hr 2 _ rfl, hr 3 _ rfl, hr 4 _ rfl⟩
      obtain ⟨p3, d0, d1, d2, d3, d4⟩ := HFA.out wr HW4.out
      have hki : (k : Int) < (p.code.length : Int) := by omega
      have hk0 : (0 : Int) ≤ (k : Int) := by omega
      clear hi hrng hoki hm HN HCO HM2 HP
      go_upto_region 7 with (fail)
      go_region_held3 (fun w' => w'.cell? ⟨w.heap.size, 3, none⟩ = some (.slice (some ⟨bb, o, none⟩) p.code.length k') ∧ w'.cell? ⟨bb, o + k * 5, none⟩ = some (.int .u8 op) ∧ w'.cell? ⟨bb, o + k * 5 + 1, none⟩ = some (.int .u8 a) ∧ w'.cell? ⟨bb, o + k * 5 + 2, none⟩ = some (.int .u8 b) ∧ w'.cell? ⟨bb, o + k * 5 + 3, none⟩ = some (.int .u8 c) ∧ w'.cell? ⟨bb, o + k * 5 + 4, none⟩ = some (.int .i64 n)) (go_keep) (first
        | (go_at_call 10; ((with_reducible refine (HUS.out _).mono ?_); rintro e w5 ⟨rfl, hb⟩; have HW5 := Lib.hid (HW4.out.next ((Below.refl wr.heap.size wr).drew.trans hb)); clear hb p3 d0 d1 d2 d3 d4; obtain ⟨p3, d0, d1, d2, d3, d4⟩ := HFA.out w5 HW5.out))
        | (go_at_call 12; ((with_reducible refine (HSE.out _).mono ?_); rintro e w6 ⟨rfl, hb⟩; have HW6 := Lib.hid (HW5.out.next hb); clear hb p3 d0 d1 d2 d3 d4; obtain ⟨p3, d0, d1, d2, d3, d4⟩ := HFA.out w6 HW6.out)))
      all_goals
        have HX : Hid (AggPost w (.int .u8 ((flowN p out k : Nat) : Int)) (.returned (.int .u8 (bits .or .u8 (uN : Int) (bits .andNot .u8 (m : Int) (sN : Int))))) w6) := Lib.hid (by rw [HBU.out, HOU.out, HFL.out]; exact ⟨rfl, HW6.out.below⟩)
        clear p3 d0 d1 d2 d3 d4 HFA HSE HUS HW5 HW6 HW4
        go_wp2
        go_ret
        exact HX.out
theorem lahead_n (p : PProg) (w : World) (vt' : Value) (x' : Option Addr) (k' H k : Nat) (out : List Nat) (h : ProgAt w (.agg (progC vt' p (.slice x' p.code.length k'))) p) (hs : OkP p) (hin : InP p) (hlen : p.code.length ≤ 200) (ha : blk w H (u8Arr out) 5) (hp : PartN p out) (hk : k < p.code.length) :
    Calls Tryd.prog 24 #[.agg (progC vt' p (.slice x' p.code.length k')), .int .i64 k, .slice (some ⟨H, 0, none⟩) (p.code.length + 1) (p.code.length + 1)] w (AggPost w (.int .u8 ((flowN p out k : Nat) : Int))) := by
  obtain ⟨vt2, vc2, hv2, htl, hc⟩ := id h
  obtain ⟨x2, kx2, hvc, g1, g2, g3⟩ := id hc
  subst hvc
  have hv3 := Value.agg.inj hv2
  have e1 : some vt' = some vt2 := congrArg (fun a : Array Value => a[0]?) hv3
  have e4 : some (Value.slice x' p.code.length k') = some (Value.slice x2 p.code.length kx2) := congrArg (fun a : Array Value => a[3]?) hv3
  have e5 := Option.some.inj e1
  subst e5
  have e6 := Option.some.inj e4
  injection e6 with q1 q2 q3
  subst q1
  subst q3
  unfold maxLen at g2
  have hwb : Below w.heap.size w (w.alloc (.cells (progC vt' p (.slice x' p.code.length k')) 25)) := (Below.refl _ _).alloc (Nat.le_refl _) _
  exact lahead_at w _ p vt' x' k' H k out _ rfl rfl (Lib.hid ⟨hwb, blk_new _ _ _, blk_below ha hwb⟩) hlen (Lib.hid hin) (Lib.hid hs.ins) g1 (by omega) hk (Lib.hid hp) (Lib.hid g3) (Lib.hid fun w1 k hb => pnext_n _ p w1 k (h.below hb) hin (by omega))

/-! ### In -/
/-- What a turn has found: nothing yet, or more than there was. -/
def TurnR (q : PProg) (out0 out : List Nat) (ch : Bool) (k : Nat) : Prop :=
  (ch = false → out = out0 ∧ ∀ j, k ≤ j → j < q.code.length → out.getD j 0 = flowN q out j) ∧ (ch = true → totN out0 < totN out)
theorem TurnR.start (q : PProg) (out : List Nat) : TurnR q out out false q.code.length := ⟨fun _ => ⟨rfl, fun j h1 h2 => by omega⟩, fun h => by cases h⟩
theorem TurnR.same {q : PProg} {out0 out : List Nat} {ch : Bool} {k : Nat} (h : TurnR q out0 out ch (k + 1)) (he : out.getD k 0 = flowN q out k) : TurnR q out0 out ch k :=
  ⟨fun e => ⟨(h.1 e).1, fun j h1 h2 => (by
    rcases Nat.lt_or_ge k j with h3 | h3
    · exact (h.1 e).2 j h3 h2
    · obtain rfl : j = k := by omega
      exact he)⟩, h.2⟩
theorem TurnR.less {q : PProg} {out0 out : List Nat} {ch : Bool} {k : Nat} (h : TurnR q out0 out ch k) : totN out0 ≤ totN out := by
  cases ch with
  | false => rw [(h.1 rfl).1]; exact Nat.le_refl _
  | true => exact Nat.le_of_lt (h.2 rfl)
theorem TurnR.more {q : PProg} {out0 out : List Nat} {ch : Bool} {k : Nat} (h : TurnR q out0 out ch (k + 1)) (hp : PartN q out) (hk : k ≤ q.code.length) (hne : out.getD k 0 ≠ flowN q out k) : TurnR q out0 (sweepN q out k) true k :=
  ⟨fun e => (by cases e), fun _ => Nat.lt_of_le_of_lt h.less (hp.more hk hne)⟩
theorem TurnR.done {q : PProg} {out0 out : List Nat} (h : TurnR q out0 out false 0) (hp : PartN q out) : out = liveL q := hp.done fun k hk => (h.1 rfl).2 k (Nat.zero_le _) hk
theorem TurnR.again {q : PProg} {out0 out : List Nat} (h : TurnR q out0 out true 0) (hp : PartN q out) : 8 * (q.code.length + 1) - totN out < 8 * (q.code.length + 1) - totN out0 := by
  have h1 := h.2 rfl
  have h2 := tot_max out
  rw [hp.len] at h2
  omega
set_option maxRecDepth 100000 in
set_option maxHeartbeats 8000000 in
theorem lin_at (w W0 : World) (p : PProg) (vt' : Value) (x' : Option Addr) (k' : Nat)
    (hW0 : W0 = w.alloc (.cells (progC vt' p (.slice x' p.code.length k')) 25)) (HS : Hid (Below w.heap.size w W0)) (KP : Hid (blk W0 w.heap.size (progC vt' p (.slice x' p.code.length k')) 25))
    (hlen : p.code.length ≤ 200) (g1 : p.code.length ≤ k') (g2 : k' ≤ 9223372036854775807)
    (HA : Hid (∀ (w1 : World) (H k : Nat) (out : List Nat), LvW w w1 H (progC vt' p (.slice x' p.code.length k')) out → PartN p out → k < p.code.length → Calls Tryd.prog 24 #[.agg (progC vt' p (.slice x' p.code.length k')), .int .i64 k, .slice (some ⟨H, 0, none⟩) (p.code.length + 1) (p.code.length + 1)] w1 (AggPost w1 (.int .u8 ((flowN p out k : Nat) : Int))))) :
    Calls Tryd.prog 15 #[.agg (progC vt' p (.slice x' p.code.length k'))] w (U8sPost w (liveL p)) := by
  have hmk : ∀ w, (Instr.makeSlice 31 (.int .i64 ((p.code.length : Int) + 1)) (.int .i64 ((p.code.length : Int) + 1))).run Tryd.prog w = .ok (.slice (some ⟨w.heap.size, 0, none⟩) (p.code.length + 1) (p.code.length + 1)) (w.alloc (.cells (madeCells #[.int .u8 0] (p.code.length + 1)) 5)) := fun w => run_make_row' _ _ _ _ Tryd.underlying31 infoU8 rfl _ _ (p.code.length + 1) (by omega) (by omega) w
  obtain ⟨H, hH⟩ : ∃ H, H = W0.heap.size := ⟨_, rfl⟩
  go_enter Tryd.func15, Tryd.ntmps15
  go_wp2
  refine wp_scope_ghost 0 (fun n a' w' => ∃ (out : List Nat) (u4 u5 u6 u7 u8 u9 u10 u11 u12 u13 u14 u15 u16 u17 u18 u19 u20 u21 u22 u23 u24 u25 u26 u27 u28 u29 u30 u31 u32 u33 u34 u35 : Value), Hid (LvW w w' H (progC vt' p (.slice x' p.code.length k')) out) ∧ Hid (PartN p out) ∧ Hid (8 * (p.code.length + 1) - totN out = n) ∧ a' = { tmps := #[.agg (progC vt' p (.slice x' p.code.length k')), .pointer (some ⟨w.heap.size, 0, none⟩), .slice none 0 0, .slice (some ⟨H, 0, none⟩) (p.code.length + 1) (p.code.length + 1), u4, u5, u6, u7, u8, u9, u10, u11, u12, u13, u14, u15, u16, u17, u18, u19, u20, u21, u22, u23, u24, u25, u26, u27, u28, u29, u30, u31, u32, u33, u34, u35], defers := [] }) rfl ?_ ?_
  · rintro n a' w1 ⟨out0, u4, u5, u6, u7, u8, u9, u10, u11, u12, u13, u14, u15, u16, u17, u18, u19, u20, u21, u22, u23, u24, u25, u26, u27, u28, u29, u30, u31, u32, u33, u34, u35, HW, HP, HQ, rfl⟩ K HK
    have HK := Lib.hid HK
    clear hmk hW0 HS KP hH W0
    have p3 : w1.cell? ⟨w.heap.size, 3, none⟩ = some (.slice x' p.code.length k') := blk_cell HW.out.prog 3 _ rfl
    go_wp2_with (fail)
    clear p3
    go_loopw [4, 5] (fun v4 v5 wr => ∃ (k : Nat) (out : List Nat) (ch : Bool), k ≤ p.code.length ∧ v5 = .int .i64 ((k : Int) - 1) ∧ v4 = .bool ch ∧ Hid (LvW w wr H (progC vt' p (.slice x' p.code.length k')) out) ∧ Hid (PartN p out) ∧ Hid (TurnR p out0 out ch k)) (fun _ v5 _ => (intOf v5 + 1).toNat)
    case atStart => exact ⟨p.code.length, out0, false, Nat.le_refl _, by go_num, rfl, HW, HP, Lib.hid (TurnR.start _ _)⟩
    case round =>
      obtain ⟨k1, out, ch, hk, rfl, rfl, HW, HP, HR⟩ := hrel
      rcases k1 with _ | k
      · cases ch with
        | false =>
          have HX : Hid (U8sPost w (liveL p) (.returned (.slice (some ⟨H, 0, none⟩) (p.code.length + 1) (p.code.length + 1))) wr) := Lib.hid (by
            have h1 := HW.out.post HP.out.len (by omega)
            rw [HR.out.done HP.out] at h1
            exact h1)
          clear HA HQ HK HR HW HP
          go_wp2
          simp only [Exit.jump]
          go_ret
          exact HX.out
        | true =>
          have HG : Hid (∀ a', (∃ (u4 u5 u6 u7 u8 u9 u10 u11 u12 u13 u14 u15 u16 u17 u18 u19 u20 u21 u22 u23 u24 u25 u26 u27 u28 u29 u30 u31 u32 u33 u34 u35 : Value), a' = { tmps := #[.agg (progC vt' p (.slice x' p.code.length k')), .pointer (some ⟨w.heap.size, 0, none⟩), .slice none 0 0, .slice (some ⟨H, 0, none⟩) (p.code.length + 1) (p.code.length + 1), u4, u5, u6, u7, u8, u9, u10, u11, u12, u13, u14, u15, u16, u17, u18, u19, u20, u21, u22, u23, u24, u25, u26, u27, u28, u29, u30, u31, u32, u33, u34, u35], defers := [] }) → K a' wr) := Lib.hid (by
            rintro a' ⟨u4, u5, u6, u7, u8, u9, u10, u11, u12, u13, u14, u15, u16, u17, u18, u19, u20, u21, u22, u23, u24, u25, u26, u27, u28, u29, u30, u31, u32, u33, u34, u35, rfl⟩
            exact HK.out _ _ _ (by rw [← HQ.out]; exact HR.out.again HP.out) ⟨out, u4, u5, u6, u7, u8, u9, u10, u11, u12, u13, u14, u15, u16, u17, u18, u19, u20, u21, u22, u23, u24, u25, u26, u27, u28, u29, u30, u31, u32, u33, u34, u35, HW, HP, Lib.hid rfl, rfl⟩)
          clear HA HQ HK HR HW HP
          go_wp2
          go_step3
          exact ⟨rfl, HG.out _ ⟨_, _, _, _, _, _, _, _, _, _, _, _, _, _, _, _, _, _, _, _, _, _, _, _, _, _, _, _, _, _, _, _, rfl⟩⟩
      · have e0 : (((k + 1 : Nat) : Int) - 1) = (k : Int) := by omega
        rw [e0]
        have hk0 : (0 : Int) ≤ (k : Int) := by omega
        have hkl : k < out.length := by have := HP.out.len; omega
        have hki2 : (k : Int) < (p.code.length : Int) + 1 := by omega
        go_upto_region 7 with (first
          | (refine wpList_loadB rfl 25 _ rfl w.heap.size (progC vt' p (.slice x' p.code.length k')) rfl 25 HW.out.prog _ Tryd.underlying25 rfl prog_info ?_)
          | (go_at_call 24; refine (HA.out _ H k out HW.out HP.out (by omega)).mono ?_; rintro e1 w4 ⟨rfl, hb4⟩; have HW4 := Lib.hid (HW.out.next hb4); clear hb4 HW))
        have ch4 := blk_cell HW4.out.ar k _ (u8Arr_get hkl)
        have fh4 := blk_frozen HW4.out.ar k
        by_cases he : out.getD k 0 = flowN p out k
        · have HR2 := Lib.hid (HR.out.same he)
          rw [he] at ch4
          clear HR he HA HQ HK
          generalize flowN p out k = z at ch4
          go_wp2
          go_roundw
          case rel => exact ⟨k, out, ch, by omega, by go_num, rfl, HW4, HP, HR2⟩
          case measure => simp [intOf]
        · have HR2 := Lib.hid (HR.out.more HP.out (by omega) he)
          have HP2 := Lib.hid (HP.out.sweep k)
          have HW5 : Hid (LvW w (w4.setCell ⟨H, k, none⟩ (.int .u8 ((flowN p out k : Nat) : Int))) H (progC vt' p (.slice x' p.code.length k')) (sweepN p out k)) := Lib.hid (HW4.out.put k _)
          have hne : ¬ (((flowN p out k : Nat) : Int) = ((out.getD k 0 : Nat) : Int)) := by omega
          clear HR he HA HQ HK HP HW4
          generalize flowN p out k = z at hne HW5
          generalize out.getD k 0 = y at hne ch4
          go_wp2
          go_roundw
          case rel => exact ⟨k, _, true, by omega, by go_num, rfl, HW5, HP2, HR2⟩
          case measure => simp [intOf]
  · intro J HJ
    have HJ := Lib.hid HJ
    go_upto_region 1 with (fail)
    rw [← hW0]
    clear hW0
    have p3 : W0.cell? ⟨w.heap.size, 3, none⟩ = some (.slice x' p.code.length k') := blk_cell KP.out 3 _ rfl
    have HW0 : Hid (LvW w (W0.alloc (.cells (u8Arr (List.replicate (p.code.length + 1) 0)) 5)) H (progC vt' p (.slice x' p.code.length k')) (List.replicate (p.code.length + 1) 0)) := Lib.hid (by
      subst hH
      exact ⟨HS.out.trans (((Below.refl _ _).alloc (Nat.le_refl _) _).mono HS.out.size), blk_alloc KP.out _, blk_new _ _ _, blk_lt KP.out⟩)
    go_wp2
    go_step3
    rw [u8Arr_zeros, ← hH]
    rename_i K hK
    refine hK _ _ ?_
    exact HJ.out _ _ _ ⟨_, _, _, _, _, _, _, _, _, _, _, _, _, _, _, _, _, _, _, _, _, _, _, _, _, _, _, _, _, _, _, _, _, HW0, Lib.hid (PartN.start (q := p)), Lib.hid rfl, rfl⟩
theorem lin_n (v : Value) (p : PProg) (w : World) (h : ProgAt w v p) (hs : OkP p) (hin : InP p) (hlen : p.code.length ≤ 200) : Calls Tryd.prog 15 #[v] w (U8sPost w (liveL p)) := by
  obtain ⟨vt', vc, rfl, htl, hc⟩ := id h
  obtain ⟨x', kx', rfl, g1, g2, g3⟩ := id hc
  unfold maxLen at g2
  have hwb : Below w.heap.size w (w.alloc (.cells (progC vt' p (.slice x' p.code.length kx')) 25)) := (Below.refl _ _).alloc (Nat.le_refl _) _
  exact lin_at w _ p vt' x' kx' rfl (Lib.hid hwb) (Lib.hid (blk_new _ _ _)) hlen g1 (by omega) (Lib.hid fun w1 H k out hq hp hk => lahead_n p w1 vt' x' kx' H k out (h.below hq.below) hs hin hlen hq.ar hp hk)
end Go.Proofs.YtijgpfimdlnkiaaDoor

/- Layer 8: the contract of alive: answers that the document fixes. -/
namespace Go.Proofs.YtijgpfimdlnkiaaDoor
set_option linter.unusedSimpArgs false
set_option linter.unusedVariables false
open Go.RowKit

def VA : PProg := ⟨[[105]], [48], [], [⟨5, 0, 0, 0, 0⟩, ⟨8, 0, 0, 0, 0⟩]⟩
theorem va_ok : OkP VA := ⟨by intro t ht; simp [VA] at ht; subst ht; decide, by decide, by decide, by intro i hi; simp [VA] at hi; rcases hi with rfl | rfl <;> (constructor <;> decide)⟩
theorem va_in : InP VA := by intro i hi; simp [VA] at hi; rcases hi with rfl | rfl <;> (simp [VA])
theorem va_live : liveL VA = [0, 1, 0] := by kernel_rfl
theorem va_uses : usesN ⟨11, 1, 2, 0, 0⟩ = 6 := by kernel_rfl
theorem va_sets : setsN ⟨7, 3, 0, 0, 0⟩ = 8 := by kernel_rfl
theorem va_i1 : OkI ⟨11, 1, 2, 0, 0⟩ := by constructor <;> decide
theorem va_i2 : OkI ⟨7, 3, 0, 0, 0⟩ := by constructor <;> decide
abbrev vaC : Array Value := #[.int .u8 5, .int .u8 0, .int .u8 0, .int .u8 0, .int .i64 0, .int .u8 8, .int .u8 0, .int .u8 0, .int .u8 0, .int .i64 0]
set_option maxRecDepth 100000 in
set_option maxHeartbeats 4000000 in
theorem valive_at (w W0 : World) (hW0 : W0 = ((w.alloc (.cells #[.string ⟨#[105]⟩] 9)).alloc (.cells vaC 27)).alloc (.cells #[.slice (some ⟨w.heap.size, 0, none⟩) 1 1, .string ⟨#[48]⟩, .string ⟨#[]⟩, .slice (some ⟨w.heap.size + 1, 0, none⟩) 2 2] 25))
    (KP : Hid (Keep W0 (w.heap.size + 1 + 1) (.slice (some ⟨w.heap.size, 0, none⟩) 1 1) (.slice (some ⟨w.heap.size + 1, 0, none⟩) 2 2) VA)) (HB : Hid (Below w.heap.size w W0)) :
    Calls Tryd.prog 9 #[] w (AggPost w (.bool true)) := by
  have HUS : Hid (∀ w1, Calls Tryd.prog 10 #[.agg #[.int .u8 11, .int .u8 1, .int .u8 2, .int .u8 0, .int .i64 0]] w1 (AggPost w1 (.int .u8 6))) := Lib.hid fun w1 => by
    have h := luses_n ⟨11, 1, 2, 0, 0⟩ w1 va_i1
    rw [va_uses] at h; exact h
  have HSE : Hid (∀ w1, Calls Tryd.prog 12 #[.agg #[.int .u8 7, .int .u8 3, .int .u8 0, .int .u8 0, .int .i64 0]] w1 (AggPost w1 (.int .u8 8))) := Lib.hid fun w1 => by
    have h := lsets_n ⟨7, 3, 0, 0, 0⟩ w1 va_i2
    rw [va_sets] at h; exact h
  go_enter Tryd.func9, Tryd.ntmps9
  go_upto_region 2 with (fail)
  rw [← hW0]
  clear hW0
  go_upto_region 3 with (first
    | (refine wpList_loadB rfl 25 _ rfl (w.heap.size + 1 + 1) (progC (.slice (some ⟨w.heap.size, 0, none⟩) 1 1) VA (.slice (some ⟨w.heap.size + 1, 0, none⟩) 2 2)) rfl 25 KP.out.blk _ Tryd.underlying25 rfl prog_info ?_)
    | (go_at_call 15; refine (lin_n _ VA _ KP.out.at' va_ok va_in (by decide)).mono ?_; rintro e w1 ⟨v1, rfl, hr, hb⟩; rw [va_live] at hr; obtain ⟨b, o, cap, hv1, hc1, hc2, hbl, hcell⟩ := u8A_cells (n := 2) hr rfl; subst hv1
       have HB1 := Lib.hid (HB.out.trans (hb.mono HB.out.size))
       have q0 : w1.cell? ⟨b, o, none⟩ = some (.int .u8 0) := hcell 0 (by omega)
       have q1 : w1.cell? ⟨b, o + 1, none⟩ = some (.int .u8 1) := hcell 1 (by omega)
       have q2 : w1.cell? ⟨b, o + 2, none⟩ = some (.int .u8 0) := hcell 2 (by omega)
       clear hr hb hcell hbl))
  go_wp2_with (first
    | (go_at_call 10; ((with_reducible refine (HUS.out _).mono ?_); rintro e w2 ⟨rfl, hb⟩; have HB2 := Lib.hid (HB1.out.trans (hb.mono HB1.out.size)); clear hb q0 q1 q2))
    | (go_at_call 12; ((with_reducible refine (HSE.out _).mono ?_); rintro e w3 ⟨rfl, hb⟩; have HB3 := Lib.hid (HB2.out.trans (hb.mono HB2.out.size)); clear hb)))
  go_ret
  exact ⟨rfl, HB3.out⟩
theorem valive_n (w : World) : Calls Tryd.prog 9 #[] w (AggPost w (.bool true)) := by
  have hwb : Below w.heap.size w (((w.alloc (.cells #[.string ⟨#[105]⟩] 9)).alloc (.cells vaC 27)).alloc (.cells #[.slice (some ⟨w.heap.size, 0, none⟩) 1 1, .string ⟨#[48]⟩, .string ⟨#[]⟩, .slice (some ⟨w.heap.size + 1, 0, none⟩) 2 2] 25)) := (((Below.refl _ _).alloc (Nat.le_refl _) _).alloc (by simp) _).alloc (by simp; omega) _
  have s1 : (w.alloc (.cells #[.string ⟨#[105]⟩] 9)).heap.size = w.heap.size + 1 := World.size_alloc _ _
  have s2 : ((w.alloc (.cells #[.string ⟨#[105]⟩] 9)).alloc (.cells vaC 27)).heap.size = w.heap.size + 1 + 1 := by rw [World.size_alloc, s1]
  have k1 : blk (w.alloc (.cells #[.string ⟨#[105]⟩] 9)) w.heap.size #[.string ⟨#[105]⟩] 9 := blk_new _ _ _
  have k2 : blk ((w.alloc (.cells #[.string ⟨#[105]⟩] 9)).alloc (.cells vaC 27)) (w.heap.size + 1) vaC 27 := by rw [← s1]; exact blk_new _ _ _
  have hp : ProgAt ((w.alloc (.cells #[.string ⟨#[105]⟩] 9)).alloc (.cells vaC 27)) (.agg (progC (.slice (some ⟨w.heap.size, 0, none⟩) 1 1) VA (.slice (some ⟨w.heap.size + 1, 0, none⟩) 2 2))) VA :=
    ⟨_, _, rfl, row_blk (blk_alloc k1 _) (by decide), insRow_blk (is := VA.code) k2 rfl (by decide)⟩
  have kp := keep_new hp
  rw [s2] at kp
  exact valive_at w _ rfl (Lib.hid kp) (Lib.hid hwb)
end Go.Proofs.YtijgpfimdlnkiaaDoor
