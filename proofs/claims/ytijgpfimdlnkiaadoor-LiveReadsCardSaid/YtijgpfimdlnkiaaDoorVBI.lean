/-
  Bits of bytes: what the machine makes of them; the document's bit, Uses and Sets.
  The document's In: its contract.
  What the statements want of the program's In: its answer, cell by cell.
-/
import Derived.Test.YtijgpfimdlnkiaaDoorVPa
import Derived.Test.YtijgpfimdlnkiaaDoorQMem
import Derived.Test.YtijgpfimdlnkiaaDoorFLU
import Derived.Laws.BitsLemmas
import Derived.Deep.RegionHeld3
import Derived.Deep.CutRange
import Derived.Deep.QuietTactic
import Derived.Deep.LoopGhost

/- Bits of bytes: what the machine makes of them; the document's bit, Uses and Sets. -/
namespace Go.Proofs.YtijgpfimdlnkiaaDoor
set_option linter.unusedSimpArgs false
set_option linter.unusedVariables false
open Go.RowKit

theorem or_u8 {a b : Nat} (ha : a < 256) (hb : b < 256) : bits .or .u8 (a : Int) (b : Int) = ((a ||| b : Nat) : Int) :=
  (bits_nat .u8 8 (Nat.le_refl _) (fun n h0 h1 => wraps_u8 n h0 h1) a b ha hb).2
theorem but_u8 {a b : Nat} (ha : a < 256) (hb : b < 256) : bits .andNot .u8 (a : Int) (b : Int) = ((butN a b : Nat) : Int) := by
  have h1 : (BitVec.ofNat 8 a &&& ~~~(BitVec.ofNat 8 b)).toNat = butN a b := by
    refine eq_bits fun k => ?_
    rw [testBit_but, BitVec.toNat_and, Nat.testBit_and, BitVec.toNat_not, BitVec.toNat_ofNat, BitVec.toNat_ofNat, Nat.mod_eq_of_lt ha, Nat.mod_eq_of_lt hb]
    rcases Nat.lt_or_ge k 8 with h8 | h8
    · rw [show 2 ^ 8 - 1 - b = 2 ^ 8 - (b + 1) by omega, Nat.testBit_two_pow_sub_succ (show b < 2 ^ 8 from hb)]
      simp [h8]
    · rw [testBit_hi ha h8]; rfl
  show IntKind.u8.wrap ((BitVec.ofInt 8 (a : Int) &&& ~~~(BitVec.ofInt 8 (b : Int))).toNat : Int) = _
  rw [BitVec.ofInt_natCast, BitVec.ofInt_natCast, h1]
  exact wraps_u8 _ (Int.natCast_nonneg _) (by have := but_lt b ha; have e : (2 : Int) ^ 8 = 256 := by decide
                                              rw [e]; omega)
/-- What '>> a % 2' tells of a byte. -/
theorem shr_bit (m a : Nat) : ((m : Int) / 2 ^ a) % 2 = if m.testBit a = true then 1 else 0 := by
  have h : m.testBit a = decide (m / 2 ^ a % 2 = 1) := Nat.testBit_eq_decide_div_mod_eq
  have e : ((m : Int) / 2 ^ a) % 2 = ((m / 2 ^ a % 2 : Nat) : Int) := by simp
  rw [e, h]
  by_cases h1 : m / 2 ^ a % 2 = 1
  · simp [h1]
  · have : m / 2 ^ a % 2 = 0 := by omega
    simp [this]
abbrev u8s (xs : List Nat) : List Value := xs.map (fun n : Nat => Value.int .u8 (n : Int))
theorem u8s_get {xs : List Nat} {k : Nat} (h : k < xs.length) : (u8s xs)[k]? = some (.int .u8 ((xs.getD k 0 : Nat) : Int)) := by
  rw [List.getElem?_map, List.getD_eq_getElem?_getD, List.getElem?_eq_getElem h]; rfl

/-! ### The document's bit -/
set_option maxRecDepth 100000 in
set_option maxHeartbeats 2000000 in
theorem rbit_n (a : Int) (w : World) (h0 : 0 ≤ a) (h1 : a ≤ 255) : Calls Tryd.prog 21 #[.int .u8 a] w fun e w' => e = .returned (.int .u8 ((bitN a : Nat) : Int)) ∧ w = w' := by
  by_cases h7 : 7 < a
  · have e : bitN a = 0 := by unfold bitN; rw [if_pos h7]
    rw [e]
    clear e
    go_enter Tryd.func21, Tryd.ntmps21
    go_wp2
    go_ret
    exact ⟨rfl, rfl⟩
  · obtain ⟨n, rfl⟩ : ∃ n : Nat, a = n := ⟨a.toNat, by omega⟩
    have e : bitN n = 2 ^ n := by unfold bitN; rw [if_neg h7, Int.toNat_natCast]
    rw [e]
    clear e h0 h1
    go_enter Tryd.func21, Tryd.ntmps21
    go_wp2
    go_loop [3, 4] (fun b i => ∃ k : Nat, k ≤ n ∧ b = .int .u8 ((2 ^ k : Nat) : Int) ∧ i = .int .u8 k) (fun _ i => n - (intOf i).toNat)
    case atStart => exact ⟨0, Nat.zero_le _, rfl, rfl⟩
    case round =>
      obtain ⟨k, hk, rfl, rfl⟩ := hrel
      by_cases hkn : k < n
      · have hk2 : (k : Int) < (n : Int) := by omega
        have hp : (2 ^ k : Nat) ≤ 64 := by
          calc 2 ^ k ≤ 2 ^ 6 := Nat.pow_le_pow_right (by decide) (by omega)
            _ = 64 := by decide
        have hz : ((2 : Int) ^ k) * 2 % 256 = ((2 ^ (k + 1) : Nat) : Int) := by
          have e1 : ((2 : Int) ^ k) = ((2 ^ k : Nat) : Int) := by simp
          have e2 : ((2 ^ (k + 1) : Nat) : Int) = ((2 ^ k : Nat) : Int) * 2 := by rw [Nat.pow_succ]; simp
          rw [e1, e2]
          generalize (2 ^ k : Nat) = X at hp
          omega
        have HZ := Lib.hid hz
        clear hz
        go_wp2
        go_round
        case rel => exact ⟨k + 1, by omega, by rw [HZ.out], by go_num⟩
        case measure => simp [intOf]; omega
      · obtain rfl : k = n := by omega
        go_wp2
        go_ret
        exact ⟨rfl, rfl⟩
/-! ### The document's Uses and Sets -/
theorem rbit_h {x : Int} {m : Nat} (h0 : 0 ≤ x) (h1 : x ≤ 255) (hm : bitN x = m) (w : World) : Calls Tryd.prog 21 #[.int .u8 x] w fun e w' => e = .returned (.int .u8 ((m : Nat) : Int)) ∧ w = w' := by
  rw [← hm]; exact rbit_n x w h0 h1
set_option maxRecDepth 100000 in
set_option maxHeartbeats 8000000 in
theorem rsets_at (op a b c n : Int) (w W0 : World) (m r : Nat) (hW0 : W0 = w.alloc (.cells (insC ⟨op, a, b, c, n⟩) 27)) (HB : Hid (Below w.heap.size w W0)) (HI : Hid (blk W0 w.heap.size (insC ⟨op, a, b, c, n⟩) 27))
    (HA : Hid (∀ w, Calls Tryd.prog 21 #[.int .u8 a] w fun e w' => e = .returned (.int .u8 ((m : Nat) : Int)) ∧ w = w'))
    (hc : ((op == 5) = true ∧ r = m) ∨ ((op == 5) = false ∧ (op == 6) = true ∧ r = m) ∨ ((op == 5) = false ∧ (op == 6) = false ∧ (op == 7) = true ∧ r = m) ∨ ((op == 5) = false ∧ (op == 6) = false ∧ (op == 7) = false ∧ (op == 10) = true ∧ r = m) ∨ ((op == 5) = false ∧ (op == 6) = false ∧ (op == 7) = false ∧ (op == 10) = false ∧ (op == 12) = true ∧ r = m) ∨ ((op == 5) = false ∧ (op == 6) = false ∧ (op == 7) = false ∧ (op == 10) = false ∧ (op == 12) = false ∧ r = 0)) :
    Calls Tryd.prog 13 #[.agg (insC ⟨op, a, b, c, n⟩)] w (AggPost w (.int .u8 ((r : Nat) : Int))) := by
  have c0 : W0.cell? ⟨w.heap.size, 0, none⟩ = some (.int .u8 op) := blk_cell HI.out 0 _ rfl
  have c1 : W0.cell? ⟨w.heap.size, 1, none⟩ = some (.int .u8 a) := blk_cell HI.out 1 _ rfl
  go_enter Tryd.func13, Tryd.ntmps13
  go_upto_region 1 with (fail)
  rw [← hW0]
  clear hW0
  rcases hc with ⟨h1, rfl⟩ | ⟨h1, h2, rfl⟩ | ⟨h1, h2, h3, rfl⟩ | ⟨h1, h2, h3, h4, rfl⟩ | ⟨h1, h2, h3, h4, h5, rfl⟩ | ⟨h1, h2, h3, h4, h5, rfl⟩
  all_goals
    go_wp2_with (go_at_call 21; refine (HA.out _).mono ?_; rintro e w' ⟨rfl, rfl⟩)
    go_ret
    exact ⟨rfl, HB.out⟩
theorem rsets_n (i : PIns) (w : World) (h : OkI i) : Calls Tryd.prog 13 #[.agg (insC i)] w (AggPost w (.int .u8 ((setsN i : Nat) : Int))) := by
  obtain ⟨op, a, b, c, n⟩ := i
  obtain ⟨o0, o1, a0, a1, b0, b1, c0, c1, n0, n1⟩ := h
  simp only at o0 o1 a0 a1 b0 b1 c0 c1 n0 n1
  refine rsets_at op a b c n w _ (bitN a) _ rfl (Lib.hid ((Below.refl _ _).alloc (Nat.le_refl _) _)) (Lib.hid (blk_new _ _ _)) (Lib.hid fun w => rbit_n a w a0 a1) ?_
  unfold setsN
  by_cases h1 : op = 5
  · exact .inl ⟨by simpa using h1, by simp [h1]⟩
  have q1 : (op == 5) = false := by simpa using h1
  by_cases h2 : op = 6
  · exact .inr (.inl ⟨q1, by simpa using h2, by simp [h2]⟩)
  have q2 : (op == 6) = false := by simpa using h2
  by_cases h3 : op = 7
  · exact .inr (.inr (.inl ⟨q1, q2, by simpa using h3, by simp [h3]⟩))
  have q3 : (op == 7) = false := by simpa using h3
  by_cases h4 : op = 10
  · exact .inr (.inr (.inr (.inl ⟨q1, q2, q3, by simpa using h4, by simp [h4]⟩)))
  have q4 : (op == 10) = false := by simpa using h4
  by_cases h5 : op = 12
  · exact .inr (.inr (.inr (.inr (.inl ⟨q1, q2, q3, q4, by simpa using h5, by simp [h5]⟩))))
  · exact .inr (.inr (.inr (.inr (.inr ⟨q1, q2, q3, q4, by simpa using h5, by simp [h1, h2, h3, h4, h5]⟩))))
set_option maxRecDepth 100000 in
set_option maxHeartbeats 8000000 in
theorem ruses_at (op a b c n : Int) (w W0 : World) (ma mb mc r : Nat) (hW0 : W0 = w.alloc (.cells (insC ⟨op, a, b, c, n⟩) 27)) (HB : Hid (Below w.heap.size w W0)) (HI : Hid (blk W0 w.heap.size (insC ⟨op, a, b, c, n⟩) 27))
    (HA : Hid (∀ w, Calls Tryd.prog 21 #[.int .u8 a] w fun e w' => e = .returned (.int .u8 ((ma : Nat) : Int)) ∧ w = w'))
    (HBB : Hid (∀ w, Calls Tryd.prog 21 #[.int .u8 b] w fun e w' => e = .returned (.int .u8 ((mb : Nat) : Int)) ∧ w = w'))
    (HC : Hid (∀ w, Calls Tryd.prog 21 #[.int .u8 c] w fun e w' => e = .returned (.int .u8 ((mc : Nat) : Int)) ∧ w = w')) (HOA : Hid (bits .or .u8 (ma : Int) (mb : Int) = ((ma ||| mb : Nat) : Int))) (HOC : Hid (bits .or .u8 (mb : Int) (mc : Int) = ((mb ||| mc : Nat) : Int)))
    (hc : ((op == 7) = true ∧ r = mb) ∨ ((op == 7) = false ∧ (op == 8) = true ∧ r = mb) ∨ ((op == 7) = false ∧ (op == 8) = false ∧ (op == 10) = true ∧ r = mb) ∨ ((op == 7) = false ∧ (op == 8) = false ∧ (op == 10) = false ∧ (op == 13) = true ∧ r = mb) ∨ ((op == 7) = false ∧ (op == 8) = false ∧ (op == 10) = false ∧ (op == 13) = false ∧ (op == 9) = true ∧ r = ma) ∨
      ((op == 7) = false ∧ (op == 8) = false ∧ (op == 10) = false ∧ (op == 13) = false ∧ (op == 9) = false ∧ (op == 11) = true ∧ r = ma ||| mb) ∨ ((op == 7) = false ∧ (op == 8) = false ∧ (op == 10) = false ∧ (op == 13) = false ∧ (op == 9) = false ∧ (op == 11) = false ∧ (op == 15) = true ∧ r = mb ||| mc) ∨ ((op == 7) = false ∧ (op == 8) = false ∧ (op == 10) = false ∧ (op == 13) = false ∧ (op == 9) = false ∧ (op == 11) = false ∧ (op == 15) = false ∧ r = 0)) :
    Calls Tryd.prog 11 #[.agg (insC ⟨op, a, b, c, n⟩)] w (AggPost w (.int .u8 ((r : Nat) : Int))) := by
  have c0 : W0.cell? ⟨w.heap.size, 0, none⟩ = some (.int .u8 op) := blk_cell HI.out 0 _ rfl
  have c1 : W0.cell? ⟨w.heap.size, 1, none⟩ = some (.int .u8 a) := blk_cell HI.out 1 _ rfl
  have c2 : W0.cell? ⟨w.heap.size, 2, none⟩ = some (.int .u8 b) := blk_cell HI.out 2 _ rfl
  have c3 : W0.cell? ⟨w.heap.size, 3, none⟩ = some (.int .u8 c) := blk_cell HI.out 3 _ rfl
  go_enter Tryd.func11, Tryd.ntmps11
  go_upto_region 1 with (fail)
  rw [← hW0]
  clear hW0
  rcases hc with ⟨h1, rfl⟩ | ⟨h1, h2, rfl⟩ | ⟨h1, h2, h3, rfl⟩ | ⟨h1, h2, h3, h4, rfl⟩ | ⟨h1, h2, h3, h4, h5, rfl⟩ | ⟨h1, h2, h3, h4, h5, h6, rfl⟩ | ⟨h1, h2, h3, h4, h5, h6, h7, rfl⟩ | ⟨h1, h2, h3, h4, h5, h6, h7, rfl⟩
  · go_wp2_with (go_at_call 21; refine (HBB.out _).mono ?_; rintro e w' ⟨rfl, rfl⟩)
    go_ret
    exact ⟨rfl, HB.out⟩
  · go_wp2_with (go_at_call 21; refine (HBB.out _).mono ?_; rintro e w' ⟨rfl, rfl⟩)
    go_ret
    exact ⟨rfl, HB.out⟩
  · go_wp2_with (go_at_call 21; refine (HBB.out _).mono ?_; rintro e w' ⟨rfl, rfl⟩)
    go_ret
    exact ⟨rfl, HB.out⟩
  · go_wp2_with (go_at_call 21; refine (HBB.out _).mono ?_; rintro e w' ⟨rfl, rfl⟩)
    go_ret
    exact ⟨rfl, HB.out⟩
  · go_wp2_with (go_at_call 21; refine (HA.out _).mono ?_; rintro e w' ⟨rfl, rfl⟩)
    go_ret
    exact ⟨rfl, HB.out⟩
  · go_upto_region 10 with (fail)
    go_region_held3 (fun w' => w'.cell? ⟨w.heap.size, 1, none⟩ = some (.int .u8 a) ∧ w'.cell? ⟨w.heap.size, 2, none⟩ = some (.int .u8 b)) (go_keep) (first
      | (go_at_call 21; ((with_reducible refine (HA.out _).mono ?_); rintro e w' ⟨rfl, rfl⟩))
      | (go_at_call 21; ((with_reducible refine (HBB.out _).mono ?_); rintro e w' ⟨rfl, rfl⟩)))
    all_goals
      go_wp2
      go_ret
      exact ⟨congrArg (fun z => Ending.returned (.int .u8 z)) HOA.out, HB.out.drew⟩
  · go_upto_region 12 with (fail)
    go_region_held3 (fun w' => w'.cell? ⟨w.heap.size, 2, none⟩ = some (.int .u8 b) ∧ w'.cell? ⟨w.heap.size, 3, none⟩ = some (.int .u8 c)) (go_keep) (first
      | (go_at_call 21; ((with_reducible refine (HBB.out _).mono ?_); rintro e w' ⟨rfl, rfl⟩))
      | (go_at_call 21; ((with_reducible refine (HC.out _).mono ?_); rintro e w' ⟨rfl, rfl⟩)))
    all_goals
      go_wp2
      go_ret
      exact ⟨congrArg (fun z => Ending.returned (.int .u8 z)) HOC.out, HB.out.drew⟩
  · go_wp2
    go_ret
    exact ⟨rfl, HB.out⟩
theorem ruses_n (i : PIns) (w : World) (h : OkI i) : Calls Tryd.prog 11 #[.agg (insC i)] w (AggPost w (.int .u8 ((usesN i : Nat) : Int))) := by
  obtain ⟨op, a, b, c, n⟩ := i
  obtain ⟨o0, o1, a0, a1, b0, b1, c0, c1, n0, n1⟩ := h
  simp only at o0 o1 a0 a1 b0 b1 c0 c1 n0 n1
  refine ruses_at op a b c n w _ (bitN a) (bitN b) (bitN c) _ rfl (Lib.hid ((Below.refl _ _).alloc (Nat.le_refl _) _)) (Lib.hid (blk_new _ _ _)) (Lib.hid fun w => rbit_n a w a0 a1) (Lib.hid fun w => rbit_n b w b0 b1) (Lib.hid fun w => rbit_n c w c0 c1) (Lib.hid (or_u8 (bit_lt _) (bit_lt _))) (Lib.hid (or_u8 (bit_lt _) (bit_lt _))) ?_
  unfold usesN
  by_cases h1 : op = 7
  · exact .inl ⟨by simpa using h1, by simp [h1]⟩
  have q1 : (op == 7) = false := by simpa using h1
  by_cases h2 : op = 8
  · exact .inr (.inl ⟨q1, by simpa using h2, by simp [h2]⟩)
  have q2 : (op == 8) = false := by simpa using h2
  by_cases h3 : op = 10
  · exact .inr (.inr (.inl ⟨q1, q2, by simpa using h3, by simp [h3]⟩))
  have q3 : (op == 10) = false := by simpa using h3
  by_cases h4 : op = 13
  · exact .inr (.inr (.inr (.inl ⟨q1, q2, q3, by simpa using h4, by simp [h4]⟩)))
  have q4 : (op == 13) = false := by simpa using h4
  by_cases h5 : op = 9
  · exact .inr (.inr (.inr (.inr (.inl ⟨q1, q2, q3, q4, by simpa using h5, by simp [h5]⟩))))
  have q5 : (op == 9) = false := by simpa using h5
  by_cases h6 : op = 11
  · exact .inr (.inr (.inr (.inr (.inr (.inl ⟨q1, q2, q3, q4, q5, by simpa using h6, by simp [h6]⟩)))))
  have q6 : (op == 11) = false := by simpa using h6
  by_cases h7 : op = 15
  · exact .inr (.inr (.inr (.inr (.inr (.inr (.inl ⟨q1, q2, q3, q4, q5, q6, by simpa using h7, by simp [h7]⟩))))))
  · exact .inr (.inr (.inr (.inr (.inr (.inr (.inr ⟨q1, q2, q3, q4, q5, q6, by simpa using h7, by simp [h1, h2, h3, h4, h5, h6, h7]⟩))))))
end Go.Proofs.YtijgpfimdlnkiaaDoor

/- The document's In: its contract. -/
namespace Go.Proofs.YtijgpfimdlnkiaaDoor
set_option linter.unusedSimpArgs false
set_option linter.unusedVariables false
open Go.RowKit

abbrev u8Arr (l : List Nat) : Array Value := (u8s l).toArray
theorem infoU8 : (Tryd.prog.info? 5).map (fun i => (i.zero, i.size, i.bytes)) = some (some (.int .u8 0), 1, 1) := by kernel_rfl
theorem u8Arr_get {l : List Nat} {k : Nat} (h : k < l.length) : (u8Arr l)[k]? = some (.int .u8 ((l.getD k 0 : Nat) : Int)) := by
  show ((u8s l).toArray)[k]? = _
  rw [List.getElem?_toArray, u8s_get h]
theorem u8Arr_set (l : List Nat) (k v : Nat) : (u8Arr l).setIfInBounds k (.int .u8 (v : Int)) = u8Arr (l.set k v) := by simp [u8s]
theorem u8Arr_zeros (n : Nat) : madeCells #[.int .u8 0] n = u8Arr (List.replicate n 0) := by
  rw [made_rep]
  apply Array.ext'
  simp
/-- The world in In. -/
structure LvW (w wr : World) (H : Nat) (C : Array Value) (out : List Nat) : Prop where
  below : Below w.heap.size w wr
  prog : blk wr w.heap.size C 25
  ar : blk wr H (u8Arr out) 5
  hH : w.heap.size < H
theorem LvW.next {w wr w' : World} {H : Nat} {C : Array Value} {out : List Nat} (h : LvW w wr H C out) (hb : Below wr.heap.size wr w') : LvW w w' H C out :=
  ⟨h.below.trans (hb.mono h.below.size), blk_below h.prog hb, blk_below h.ar hb, h.hH⟩
theorem LvW.put {w wr : World} {H : Nat} {C : Array Value} {out : List Nat} (h : LvW w wr H C out) (k v : Nat) : LvW w (wr.setCell ⟨H, k, none⟩ (.int .u8 (v : Int))) H C (out.set k v) := by
  have hH := h.hH
  rw [setCell_putB h.ar, u8Arr_set]
  exact ⟨h.below.trans (putB_below _ (by omega) _ _), by unfold blk; rw [putB_ne _ (by omega)]; exact h.prog, putB_at h.ar _ _, h.hH⟩
def U8sPost (w : World) (l : List Nat) (e : Ending) (w' : World) : Prop := ∃ v, e = .returned v ∧ RowAt w' v (u8s l) ∧ Below w.heap.size w w'
theorem LvW.post {w wr : World} {H : Nat} {C : Array Value} {out : List Nat} {n : Nat} (h : LvW w wr H C out) (hn : out.length = n) (hl : n ≤ 1000000) : U8sPost w out (.returned (.slice (some ⟨H, 0, none⟩) n n)) wr := by
  subst hn
  refine ⟨_, rfl, ⟨some ⟨H, 0, none⟩, out.length, by simp, by simp, by unfold maxLen; omega, .inr ⟨H, 0, rfl, blk_lt h.ar, fun j x hx => ?_⟩⟩, h.below⟩
  rw [Nat.zero_add]
  exact blk_cell h.ar j x (by show ((u8s out).toArray)[j]? = _; rw [List.getElem?_toArray]; exact hx)
theorem beh_next {out ns : List Nat} {j n : Nat} (h : ns[j]? = some n) : behN out (ns.take (j + 1)) = behN out (ns.take j) ||| out.getD n 0 := by
  unfold behN
  rw [List.take_add_one, h, List.foldl_append]; rfl
theorem sweeps_down {q : PProg} {k : Nat} {out : List Nat} : (List.range (k + 1)).reverse.foldl (sweepN q) out = (List.range k).reverse.foldl (sweepN q) (sweepN q out k) := by
  rw [List.range_succ, List.reverse_append]; rfl
set_option maxRecDepth 100000 in
set_option maxHeartbeats 8000000 in
theorem rin_at (w W0 : World) (p : PProg) (vt' : Value) (x' : Option Addr) (k' : Nat)
    (hW0 : W0 = w.alloc (.cells (progC vt' p (.slice x' p.code.length k')) 25)) (HS : Hid (Below w.heap.size w W0)) (KP : Hid (blk W0 w.heap.size (progC vt' p (.slice x' p.code.length k')) 25))
    (hlen : p.code.length ≤ 200) (hin : Hid (InP p)) (hok : Hid (∀ i ∈ p.code, OkI i)) (g1 : p.code.length ≤ k') (g2 : k' ≤ 9223372036854775807)
    (HCO : Hid (∀ m i, p.code[m]? = some i → ∃ bb o, x' = some ⟨bb, o, none⟩ ∧ bb < w.heap.size ∧ w.rangeAt bb (o + m * 5) (insC i).toList))
    (HN : Hid (∀ (w1 : World) (k : Nat), Below w.heap.size w w1 → Calls Tryd.prog 17 #[.agg (progC vt' p (.slice x' p.code.length k')), .int .i64 k] w1 (RowPost w1 (nextV p k)))) :
    Calls Tryd.prog 16 #[.agg (progC vt' p (.slice x' p.code.length k'))] w (U8sPost w (liveL p)) := by
  have p3 : W0.cell? ⟨w.heap.size, 3, none⟩ = some (.slice x' p.code.length k') := blk_cell KP.out 3 _ rfl
  have hmk : ∀ w, (Instr.makeSlice 31 (.int .i64 ((p.code.length : Int) + 1)) (.int .i64 ((p.code.length : Int) + 1))).run Tryd.prog w = .ok (.slice (some ⟨w.heap.size, 0, none⟩) (p.code.length + 1) (p.code.length + 1)) (w.alloc (.cells (madeCells #[.int .u8 0] (p.code.length + 1)) 5)) := fun w => run_make_row' _ _ _ _ Tryd.underlying31 infoU8 rfl _ _ (p.code.length + 1) (by omega) (by omega) w
  go_enter Tryd.func16, Tryd.ntmps16
  go_upto_region 1 with (fail)
  rw [← hW0]
  clear hW0
  go_upto_region 2 with (fail)
  rw [u8Arr_zeros]
  have HW0 : Hid (LvW w (W0.alloc (.cells (u8Arr (List.replicate (p.code.length + 1) 0)) 5)) W0.heap.size (progC vt' p (.slice x' p.code.length k')) (List.replicate (p.code.length + 1) 0)) := Lib.hid
    ⟨HS.out.trans (((Below.refl _ _).alloc (Nat.le_refl _) _).mono HS.out.size), blk_alloc KP.out _, blk_new _ _ _, blk_lt KP.out⟩
  obtain ⟨H, hH⟩ : ∃ H, H = W0.heap.size := ⟨_, rfl⟩
  obtain ⟨wb, hwb⟩ : ∃ wb, wb = W0.alloc (.cells (u8Arr (List.replicate (p.code.length + 1) 0)) 5) := ⟨_, rfl⟩
  rw [← hwb] at HW0 ⊢
  rw [← hH] at HW0 ⊢
  clear hwb hH p3 hmk KP HS
  have HP0 := Lib.hid (PartN.start (q := p))
  go_wp2_with (fail)
  go_loopw [4] (fun v4 wr => ∃ (r : Nat) (out : List Nat), r ≤ 8 * p.code.length + 1 ∧ v4 = .int .i64 r ∧ Hid (LvW w wr H (progC vt' p (.slice x' p.code.length k')) out) ∧ Hid (PartN p out) ∧ Hid (turnsN p (8 * p.code.length + 1 - r) out = liveL p)) (fun v4 _ => 8 * p.code.length + 1 - (intOf v4).toNat)
  case atStart => exact ⟨0, _, Nat.zero_le _, rfl, HW0, HP0, Lib.hid rfl⟩
  case round =>
    obtain ⟨r, out0, hr, rfl, HW, HP, HQ⟩ := hrel
    clear HW0 HP0
    have p3 : wr.cell? ⟨w.heap.size, 3, none⟩ = some (.slice x' p.code.length k') := blk_cell HW.out.prog 3 _ rfl
    by_cases hrl : r ≤ 8 * p.code.length
    · have hri : (r : Int) ≤ 8 * (p.code.length : Int) := by omega
      go_wp2_with (fail)
      obtain ⟨wo, hwo⟩ : ∃ wo : World, wo = wr := ⟨_, rfl⟩
      rw [← hwo] at HW ⊢
      clear p3 hwo
      go_loopw [5] (fun v5 wr => ∃ (k : Nat) (out : List Nat), k ≤ p.code.length ∧ v5 = .int .i64 ((k : Int) - 1) ∧ Hid (LvW w wr H (progC vt' p (.slice x' p.code.length k')) out) ∧ Hid (PartN p out) ∧ Hid ((List.range k).reverse.foldl (sweepN p) out = turnN p out0)) (fun v5 _ => (intOf v5 + 1).toNat)
      case atStart => exact ⟨p.code.length, out0, Nat.le_refl _, by go_num, HW, HP, Lib.hid rfl⟩
      case round =>
        obtain ⟨k1, out, hk, rfl, HW, HP, HR⟩ := hrel
        rcases k1 with _ | k
        · have HE : Hid (turnsN p (8 * p.code.length + 1 - (r + 1)) out = liveL p) := Lib.hid (by
            have h1 := HR.out
            have h2 := HQ.out
            rw [show 8 * p.code.length + 1 - r = (8 * p.code.length + 1 - (r + 1)) + 1 by omega] at h2
            unfold turnsN at h2
            rw [← h1] at h2
            exact h2)
          clear HR HQ
          go_wp2
          go_roundw
          case rel => exact ⟨r + 1, out, by omega, by go_num, HW, HP, HE⟩
          case measure => simp [intOf]; omega
        · have e0 : (((k + 1 : Nat) : Int) - 1) = (k : Int) := by omega
          rw [e0]
          have hk0 : (0 : Int) ≤ (k : Int) := by omega
          go_wp2_with (first
            | (refine wpList_loadB rfl 25 _ rfl w.heap.size (progC vt' p (.slice x' p.code.length k')) rfl 25 HW.out.prog _ Tryd.underlying25 rfl prog_info ?_)
            | (go_at_call 17; refine (HN.out _ k HW.out.below).mono ?_; rintro e1 w4 ⟨v8, rfl, ho, hb4⟩; obtain ⟨ad, cap, hv8, hcp, hcp2⟩ := own_form ho; subst hv8; have HL := Lib.hid (rowA_form (RowAt.of_own ho)); have HW4 := Lib.hid (HW.out.next hb4); clear ho hb4))
          have hll : (nextV p k).length = (nextL p k).length := by rw [nextL_cast]; simp
          have HLC : Hid (∀ (j n : Nat), (nextL p k)[j]? = some n → ∃ b o, ad = some ⟨b, o, none⟩ ∧ w4.cell? ⟨b, o + j, none⟩ = some (.int .i64 (n : Int))) := Lib.hid (by
            obtain ⟨a0, c0, e1, -, -, h3⟩ := HL.out
            simp only [Value.slice.injEq] at e1
            obtain ⟨rfl, -, -⟩ := e1
            intro j n hn
            obtain ⟨b, o, e2, -, h4⟩ := h3 j (n : Int) (by rw [nextL_cast]; simp [hn])
            exact ⟨b, o, e2, h4⟩)
          rw [hll] at hcp ⊢
          clear HL hll HW
          have hl2 := (next_sorted (q := p) k).1
          go_loopw [6, 8] (fun v6 v8 wx => ∃ (j m : Nat), j ≤ (nextL p k).length ∧ v8 = .int .i64 j ∧ v6 = .int .u8 (m : Int) ∧ Hid (m = behN out ((nextL p k).take j)) ∧ wx = w4) (fun _ v8 _ => (nextL p k).length - (intOf v8).toNat)
          case atStart => exact ⟨0, 0, Nat.zero_le _, rfl, rfl, Lib.hid rfl, rfl⟩
          case round =>
            obtain ⟨j, m, hj, rfl, rfl, HM, hwx⟩ := hrel
            subst hwx
            by_cases hjl : j < (nextL p k).length
            · have hji : (j : Int) < ((nextL p k).length : Int) := by omega
              obtain ⟨n, hn⟩ : ∃ n, (nextL p k)[j]? = some n := ⟨_, List.getElem?_eq_getElem hjl⟩
              have hnl := (next_le hin.out (List.mem_of_getElem? hn)).1
              have hni : (n : Int) < (p.code.length : Int) + 1 := by omega
              have hn0 : (0 : Int) ≤ (n : Int) := by omega
              obtain ⟨b9, o9, rfl, c9⟩ := HLC.out j n hn
              have ch : wr.cell? ⟨H, n, none⟩ = some (.int .u8 ((out.getD n 0 : Nat) : Int)) := blk_cell HW4.out.ar n _ (u8Arr_get (by have := HP.out.len; omega))
              have hm : m < 256 := by rw [HM.out]; exact beh_lt HP.out.lt _
              have HOR := Lib.hid (or_u8 hm (HP.out.lt n))
              have HM2 : Hid (m ||| out.getD n 0 = behN out ((nextL p k).take (j + 1))) := Lib.hid (by rw [beh_next hn, HM.out])
              generalize out.getD n 0 = z at ch HOR HM2
              clear hn HM
              go_wp2
              go_roundw
              case rel => exact ⟨j + 1, _, by omega, by go_num, by rw [HOR.out], HM2, trivial⟩
              case measure => simp [intOf]; omega
            · have hje : j = (nextL p k).length := by omega
              have HM2 : Hid (m = behN out (nextL p k)) := Lib.hid (by have := HM.out; rwa [hje, List.take_length] at this)
              have hjn : ¬ ((j : Int) < ((nextL p k).length : Int)) := by omega
              clear hje HM HLC
              obtain ⟨i, hi⟩ : ∃ i, p.code[k]? = some i := ⟨_, List.getElem?_eq_getElem (by omega)⟩
              obtain ⟨bb, o, rfl, hbb, hrng⟩ := HCO.out k i hi
              have hoki := hok.out i (List.mem_of_getElem? hi)
              have HFL : Hid (butN m (setsN i) ||| usesN i = flowN p out k) := Lib.hid (by unfold flowN; rw [HM2.out, setsK_at hi, usesK_at hi])
              have hm : m < 256 := by rw [HM2.out]; exact beh_lt HP.out.lt _
              have HBU := Lib.hid (but_u8 hm (sets_lt i))
              have HOU := Lib.hid (or_u8 (but_lt (setsN i) hm) (uses_lt i))
              obtain ⟨op, a, b, c, n⟩ := i
              have HSE : Hid (∀ w1, Calls Tryd.prog 13 #[.agg #[.int .u8 op, .int .u8 a, .int .u8 b, .int .u8 c, .int .i64 n]] w1 (AggPost w1 (.int .u8 ((setsN ⟨op, a, b, c, n⟩ : Nat) : Int)))) := Lib.hid fun w1 => rsets_n _ w1 hoki
              have HUS : Hid (∀ w1, Calls Tryd.prog 11 #[.agg #[.int .u8 op, .int .u8 a, .int .u8 b, .int .u8 c, .int .i64 n]] w1 (AggPost w1 (.int .u8 ((usesN ⟨op, a, b, c, n⟩ : Nat) : Int)))) := Lib.hid fun w1 => ruses_n _ w1 hoki
              generalize setsN ⟨op, a, b, c, n⟩ = sN at HFL HBU HOU HSE
              generalize usesN ⟨op, a, b, c, n⟩ = uN at HFL HOU HUS
              have HFA : Hid (∀ w' out', LvW w w' H (progC vt' p (.slice (some ⟨bb, o, none⟩) p.code.length k')) out' → w'.cell? ⟨w.heap.size, 3, none⟩ = some (.slice (some ⟨bb, o, none⟩) p.code.length k') ∧ w'.cell? ⟨bb, o + k * 5, none⟩ = some (.int .u8 op) ∧ w'.cell? ⟨bb, o + k * 5 + 1, none⟩ = some (.int .u8 a) ∧ w'.cell? ⟨bb, o + k * 5 + 2, none⟩ = some (.int .u8 b) ∧ w'.cell? ⟨bb, o + k * 5 + 3, none⟩ = some (.int .u8 c) ∧ w'.cell? ⟨bb, o + k * 5 + 4, none⟩ = some (.int .i64 n)) := Lib.hid fun w' out' hq => by
                have hr := rangeAt_below hrng hbb hq.below
                exact ⟨blk_cell hq.prog 3 _ rfl, hr 0 _ rfl, hr 1 _ rfl, hr 2 _ rfl, hr 3 _ rfl, hr 4 _ rfl⟩
              obtain ⟨p3, d0, d1, d2, d3, d4⟩ := HFA.out wr out HW4.out
              have hkl : k < out.length := by have := HP.out.len; omega
              have hki : (k : Int) < (p.code.length : Int) := by omega
              have hki2 : (k : Int) < (p.code.length : Int) + 1 := by omega
              clear hi hrng hoki hm HN HCO HM2
              go_upto_region 15 with (fail)
              go_region_held3 (fun w' => w'.cell? ⟨w.heap.size, 3, none⟩ = some (.slice (some ⟨bb, o, none⟩) p.code.length k') ∧ w'.cell? ⟨bb, o + k * 5, none⟩ = some (.int .u8 op) ∧ w'.cell? ⟨bb, o + k * 5 + 1, none⟩ = some (.int .u8 a) ∧ w'.cell? ⟨bb, o + k * 5 + 2, none⟩ = some (.int .u8 b) ∧ w'.cell? ⟨bb, o + k * 5 + 3, none⟩ = some (.int .u8 c) ∧ w'.cell? ⟨bb, o + k * 5 + 4, none⟩ = some (.int .i64 n)) (first | exact q0 | exact q1 | exact q2 | exact q3 | exact q4 | exact q5 | go_keep) (first
                | (go_at_call 13; ((with_reducible refine (HSE.out _).mono ?_); rintro e w5 ⟨rfl, hb⟩; have HW5 := Lib.hid (HW4.out.next ((Below.refl wr.heap.size wr).drew.trans hb)); clear hb p3 d0 d1 d2 d3 d4; obtain ⟨p3, d0, d1, d2, d3, d4⟩ := HFA.out w5 out HW5.out))
                | (go_at_call 11; ((with_reducible refine (HUS.out _).mono ?_); rintro e w6 ⟨rfl, hb⟩; have HW6 := Lib.hid (HW5.out.next hb); clear hb p3 d0 d1 d2 d3 d4; obtain ⟨p3, d0, d1, d2, d3, d4⟩ := HFA.out w6 out HW6.out; have fh := blk_frozen HW6.out.ar k; have ch := blk_cell HW6.out.ar k _ (u8Arr_get hkl); have HW7 : Hid (LvW w (w6.setCell ⟨H, k, none⟩ (.int .u8 (bits .or .u8 (bits .andNot .u8 (m : Int) (sN : Int)) (uN : Int)))) H (progC vt' p (.slice (some ⟨bb, o, none⟩) p.code.length k')) (sweepN p out k)) := Lib.hid (by rw [HBU.out, HOU.out, HFL.out]; exact HW6.out.put k _); obtain ⟨q0, q1, q2, q3, q4, q5⟩ := HFA.out _ _ HW7.out)))
              all_goals
                have HP2 := Lib.hid (HP.out.sweep k)
                have HR2 : Hid ((List.range k).reverse.foldl (sweepN p) (sweepN p out k) = turnN p out0) := Lib.hid (by rw [← sweeps_down]; exact HR.out)
                clear q0 q1 q2 q3 q4 q5 p3 d0 d1 d2 d3 d4 fh ch HFA HSE HUS HW5 HW6 HP HR
                go_wp2
                go_roundw
                case rel => exact ⟨k, _, by omega, by go_num, HW7, HP2, HR2⟩
                case measure => simp [intOf]
    · have HE : Hid (out0 = liveL p) := Lib.hid (by
        have h2 := HQ.out
        rw [show 8 * p.code.length + 1 - r = 0 by omega] at h2
        exact h2)
      have hrn : ¬ ((r : Int) ≤ 8 * (p.code.length : Int)) := by omega
      have HX : Hid (U8sPost w (liveL p) (.returned (.slice (some ⟨H, 0, none⟩) (p.code.length + 1) (p.code.length + 1))) wr) := Lib.hid (by
        have h1 := HW.out.post HP.out.len (by omega)
        rw [HE.out] at h1
        exact h1)
      clear HQ HW HP HE
      go_wp2
      go_ret
      exact HX.out
theorem rin_n (v : Value) (p : PProg) (w : World) (h : ProgAt w v p) (hs : OkP p) (hin : InP p) (hlen : p.code.length ≤ 200) : Calls Tryd.prog 16 #[v] w (U8sPost w (liveL p)) := by
  obtain ⟨vt', vc, rfl, htl, hc⟩ := id h
  obtain ⟨x', kx', rfl, g1, g2, g3⟩ := id hc
  unfold maxLen at g2
  have hwb : Below w.heap.size w (w.alloc (.cells (progC vt' p (.slice x' p.code.length kx')) 25)) := (Below.refl _ _).alloc (Nat.le_refl _) _
  exact rin_at w _ p vt' x' kx' rfl (Lib.hid hwb) (Lib.hid (blk_new _ _ _)) hlen (Lib.hid hin) (Lib.hid hs.ins) g1 (by omega) (Lib.hid g3) (Lib.hid fun w1 k hb => rnext_n _ p w1 k (h.below hb) hs hin (by omega))
end Go.Proofs.YtijgpfimdlnkiaaDoor

/- What the statements want of the program's In: its answer, cell by cell. -/
namespace Go.Proofs.YtijgpfimdlnkiaaDoor
set_option linter.unusedSimpArgs false
set_option linter.unusedVariables false
open Go.RowKit

/-- A row of bytes that is not empty: each of its cells. -/
theorem u8A_cells {w : World} {v : Value} {l : List Nat} {n : Nat} (h : RowAt w v (u8s l)) (hn : l.length = n + 1) : ∃ b o c, v = .slice (some ⟨b, o, none⟩) (n + 1) c ∧ n + 1 ≤ c ∧ c ≤ 9223372036854775807 ∧ b < w.heap.size ∧ ∀ j, j ≤ n → w.cell? ⟨b, o + j, none⟩ = some (.int .u8 ((l.getD j 0 : Nat) : Int)) := by
  obtain ⟨a, c, rfl, h1, h2, h3⟩ := h
  unfold maxLen at h2
  have hl : (u8s l).length = n + 1 := by simp [hn]
  rw [hl] at h1 ⊢
  rcases h3 with h3 | ⟨b, o, rfl, hb, hc⟩
  · rw [h3] at hl; simp at hl
  · exact ⟨b, o, c, rfl, h1, by omega, hb, fun j hj => hc j _ (u8s_get (by omega))⟩
/-- The cells of In's answer, wherever they lie. -/
structure U8At (w : World) (b o n : Nat) (l : List Nat) : Prop where
  lt : b < w.heap.size
  c : ∀ j, j ≤ n → w.cell? ⟨b, o + j, none⟩ = some (.int .u8 ((l.getD j 0 : Nat) : Int))
theorem U8At.next {w w' : World} {b o n : Nat} {l : List Nat} (h : U8At w b o n l) (hb : Below w.heap.size w w') : U8At w' b o n l :=
  ⟨Nat.lt_of_lt_of_le h.lt hb.size, fun j hj => by rw [(bcell hb).1 b _ h.lt]; exact h.c j hj⟩
theorem live_n1 {p : PProg} : (liveL p).length = p.code.length + 1 := live_len
theorem lt_int {m : Nat} (h : m < 256) : (0 : Int) ≤ (m : Int) ∧ (m : Int) < 256 := ⟨by omega, by omega⟩
theorem shr_tmod (m a : Nat) : ((m : Int) / 2 ^ a).tmod 2 = if m.testBit a = true then 1 else 0 := by
  have e : ((m : Int) / 2 ^ a) = ((m / 2 ^ a : Nat) : Int) := by simp
  rw [Int.tmod_eq_emod_of_nonneg (by rw [e]; exact Int.natCast_nonneg _), shr_bit]
end Go.Proofs.YtijgpfimdlnkiaaDoor
