/-
  Bits of bytes: what the machine makes of them; the document's bit, Uses and Sets.
  The document's In: its contract.
  What the statements want of the program's In: its answer, cell by cell.
-/
import Derived.Test.YtfnoldopjnegfaaDoorVPa
import Derived.Test.YtfnoldopjnegfaaDoorQMem
import Derived.Test.YtfnoldopjnegfaaDoorFLU
import Derived.Laws.BitsLemmas
import Derived.Deep.RegionHeld3
import Derived.Deep.CutRange
import Derived.Deep.QuietTactic
import Derived.Deep.LoopGhost

/- Bits of bytes: what the machine makes of them; the document's bit, Uses and Sets. -/
namespace Go.Proofs.YtfnoldopjnegfaaDoor
set_option linter.unusedSimpArgs false
set_option linter.unusedVariables false
open Go.RowKit

theorem or_u8 {a b : Nat} (ha : a < 256) (hb : b < 256) : bits .or .u8 (a : Int) (b : Int) = ((a ||| b : Nat) : Int) :=
  (bits_nat .u8 8 (Nat.le_refl _) (fun n h0 h1 => wraps_u8 n h0 h1) a b ha hb).2
theorem but_u8 {a b : Nat} (ha : a < 256) (hb : b < 256) : bits .andNot .u8 (a : Int) (b : Int) = ((butN a b : Nat) : Int) := by
  have h1 : (BitVec.ofNat 8 a &&& ~~~(BitVec.ofNat 8 b)).toNat = butN a b := by
    refine eq_bits fun k => ?_
    rw [testBit_but, BitVec.toNat_and, Nat.testBit_and, BitVec.toNat_not, BitVec.toNat_ofNat, BitVec.toNat_ofNat, Nat.mod_eq_of_lt ha, Nat.mod_eq_of_lt hb]
    rcases Nat.lt_or_ge k 8 with h8 | h8
    · rw [show 2 ^ 8 - 1 - b = 2 ^ 8 - (b + 1) by omega, Nat.testBit_two_pow_sub_succ (show b < 2 ^ 8 from hb)]
      simp [h8]
    · rw [testBit_hi ha h8]; rfl
  show IntKind.u8.wrap ((BitVec.ofInt 8 (a : Int) &&& ~~~(BitVec.ofInt 8 (b : Int))).toNat : Int) = _
  rw [BitVec.ofInt_natCast, BitVec.ofInt_natCast, h1]
  exact wraps_u8 _ (Int.natCast_nonneg _) (by have := but_lt b ha; have e : (2 : Int) ^ 8 = 256 := by decide
                                              rw [e]; omega)
/-- What '>> a % 2' tells of a byte. -/
theorem shr_bit (m a : Nat) : ((m : Int) / 2 ^ a) % 2 = if m.testBit a = true then 1 else 0 := by
  have h : m.testBit a = decide (m / 2 ^ a % 2 = 1) := Nat.testBit_eq_decide_div_mod_eq
  have e : ((m : Int) / 2 ^ a) % 2 = ((m / 2 ^ a % 2 : Nat) : Int) := by simp
  rw [e, h]
  by_cases h1 : m / 2 ^ a % 2 = 1
  · simp [h1]
  · have : m / 2 ^ a % 2 = 0 := by omega
    simp [this]
abbrev u8s (xs : List Nat) : List Value := xs.map (fun n : Nat => Value.int .u8 (n : Int))
theorem u8s_get {xs : List Nat} {k : Nat} (h : k < xs.length) : (u8s xs)[k]? = some (.int .u8 ((xs.getD k 0 : Nat) : Int)) := by
  rw [List.getElem?_map, List.getD_eq_getElem?_getD, List.getElem?_eq_getElem h]; rfl

/-! ### The document's bit -/
set_option maxRecDepth 100000 in
set_option maxHeartbeats 2000000 in
theorem rbit_n (a : Int) (w : World) (h0 : 0 ≤ a) (h1 : a ≤ 255) : Calls Tryd.prog 39 #[.int .u8 a] w fun e w' => e = .returned (.int .u8 ((bitN a : Nat) : Int)) ∧ w = w' := by
  by_cases h7 : 7 < a
  · have e : bitN a = 0 := by unfold bitN; rw [if_pos h7]
    rw [e]
    clear e
    go_enter Tryd.func39, Tryd.ntmps39
    go_wp2
    go_ret
    exact ⟨rfl, rfl⟩
  · obtain ⟨n, rfl⟩ : ∃ n : Nat, a = n := ⟨a.toNat, by omega⟩
    have e : bitN n = 2 ^ n := by unfold bitN; rw [if_neg h7, Int.toNat_natCast]
    rw [e]
    clear e h0 h1
    go_enter Tryd.func39, Tryd.ntmps39
    go_wp2
    go_loop [3, 4] (fun b i => ∃ k : Nat, k ≤ n ∧ b = .int .u8 ((2 ^ k : Nat) : Int) ∧ i = .int .u8 k) (fun _ i => n - (intOf i).toNat)
    case atStart => exact ⟨0, Nat.zero_le _, rfl, rfl⟩
    case round =>
      obtain ⟨k, hk, rfl, rfl⟩ := hrel
      by_cases hkn : k < n
      · have hk2 : (k : Int) < (n : Int) := by omega
        have hp : (2 ^ k : Nat) ≤ 64 := by
          calc 2 ^ k ≤ 2 ^ 6 := Nat.pow_le_pow_right (by decide) (by omega)
            _ = 64 := by decide
        have hz : ((2 : Int) ^ k) * 2 % 256 = ((2 ^ (k + 1) : Nat) : Int) := by
          have e1 : ((2 : Int) ^ k) = ((2 ^ k : Nat) : Int) := by simp
          have e2 : ((2 ^ (k + 1) : Nat) : Int) = ((2 ^ k : Nat) : Int) * 2 := by rw [Nat.pow_succ]; simp
          rw [e1, e2]
          generalize (2 ^ k : Nat) = X at hp
          omega
        have HZ := Lib.hid hz
        clear hz
        go_wp2
        go_round
        case rel => exact ⟨k + 1, by omega, by rw [HZ.out], by go_num⟩
        case measure => simp [intOf]; omega
      · obtain rfl : k = n := by omega
        go_wp2
        go_ret
        exact ⟨rfl, rfl⟩
set_option maxRecDepth 100000 in
set_option maxHeartbeats 8000000 in
theorem rsets_at (op a b c n : Int) (w W0 : World) (m r : Nat) (hW0 : W0 = w.alloc (.cells (insC ⟨op, a, b, c, n⟩) 47)) (HB : Hid (Below w.heap.size w W0)) (HI : Hid (blk W0 w.heap.size (insC ⟨op, a, b, c, n⟩) 47))
    (HA : Hid (∀ w, Calls Tryd.prog 39 #[.int .u8 a] w fun e w' => e = .returned (.int .u8 ((m : Nat) : Int)) ∧ w = w'))
    (hc : ((op == 5) = true ∧ r = m) ∨ ((op == 5) = false ∧ (op == 6) = true ∧ r = m) ∨ ((op == 5) = false ∧ (op == 6) = false ∧ (op == 7) = true ∧ r = m) ∨ ((op == 5) = false ∧ (op == 6) = false ∧ (op == 7) = false ∧ (op == 10) = true ∧ r = m) ∨ ((op == 5) = false ∧ (op == 6) = false ∧ (op == 7) = false ∧ (op == 10) = false ∧ (op == 12) = true ∧ r = m) ∨ ((op == 5) = false ∧ (op == 6) = false ∧ (op == 7) = false ∧ (op == 10) = false ∧ (op == 12) = false ∧ r = 0)) :
    Calls Tryd.prog 26 #[.agg (insC ⟨op, a, b, c, n⟩)] w (AggPost w (.int .u8 ((r : Nat) : Int))) := by
  have c0 : W0.cell? ⟨w.heap.size, 0, none⟩ = some (.int .u8 op) := blk_cell HI.out 0 _ rfl
  have c1 : W0.cell? ⟨w.heap.size, 1, none⟩ = some (.int .u8 a) := blk_cell HI.out 1 _ rfl
  go_enter Tryd.func26, Tryd.ntmps26
  go_upto_region 1 with (fail)
  rw [← hW0]
  clear hW0
  rcases hc with ⟨h1, rfl⟩ | ⟨h1, h2, rfl⟩ | ⟨h1, h2, h3, rfl⟩ | ⟨h1, h2, h3, h4, rfl⟩ | ⟨h1, h2, h3, h4, h5, rfl⟩ | ⟨h1, h2, h3, h4, h5, rfl⟩
  all_goals
    go_wp2_with (go_at_call 39; refine (HA.out _).mono ?_; rintro e w' ⟨rfl, rfl⟩)
    go_ret
    exact ⟨rfl, HB.out⟩
theorem rsets_n (i : PIns) (w : World) (h : OkI i) : Calls Tryd.prog 26 #[.agg (insC i)] w (AggPost w (.int .u8 ((setsN i : Nat) : Int))) := by
  obtain ⟨op, a, b, c, n⟩ := i
  obtain ⟨o0, o1, a0, a1, b0, b1, c0, c1, n0, n1⟩ := h
  simp only at o0 o1 a0 a1 b0 b1 c0 c1 n0 n1
  refine rsets_at op a b c n w _ (bitN a) _ rfl (Lib.hid ((Below.refl _ _).alloc (Nat.le_refl _) _)) (Lib.hid (blk_new _ _ _)) (Lib.hid fun w => rbit_n a w a0 a1) ?_
  unfold setsN
  by_cases h1 : op = 5
  · exact .inl ⟨by simpa using h1, by simp [h1]⟩
  have q1 : (op == 5) = false := by simpa using h1
  by_cases h2 : op = 6
  · exact .inr (.inl ⟨q1, by simpa using h2, by simp [h2]⟩)
  have q2 : (op == 6) = false := by simpa using h2
  by_cases h3 : op = 7
  · exact .inr (.inr (.inl ⟨q1, q2, by simpa using h3, by simp [h3]⟩))
  have q3 : (op == 7) = false := by simpa using h3
  by_cases h4 : op = 10
  · exact .inr (.inr (.inr (.inl ⟨q1, q2, q3, by simpa using h4, by simp [h4]⟩)))
  have q4 : (op == 10) = false := by simpa using h4
  by_cases h5 : op = 12
  · exact .inr (.inr (.inr (.inr (.inl ⟨q1, q2, q3, q4, by simpa using h5, by simp [h5]⟩))))
  · exact .inr (.inr (.inr (.inr (.inr ⟨q1, q2, q3, q4, by simpa using h5, by simp [h1, h2, h3, h4, h5]⟩))))
set_option maxRecDepth 100000 in
set_option maxHeartbeats 8000000 in
theorem ruses_at (op a b c n : Int) (w W0 : World) (ma mb mc r : Nat) (hW0 : W0 = w.alloc (.cells (insC ⟨op, a, b, c, n⟩) 47)) (HB : Hid (Below w.heap.size w W0)) (HI : Hid (blk W0 w.heap.size (insC ⟨op, a, b, c, n⟩) 47))
    (HA : Hid (∀ w, Calls Tryd.prog 39 #[.int .u8 a] w fun e w' => e = .returned (.int .u8 ((ma : Nat) : Int)) ∧ w = w'))
    (HBB : Hid (∀ w, Calls Tryd.prog 39 #[.int .u8 b] w fun e w' => e = .returned (.int .u8 ((mb : Nat) : Int)) ∧ w = w'))
    (HC : Hid (∀ w, Calls Tryd.prog 39 #[.int .u8 c] w fun e w' => e = .returned (.int .u8 ((mc : Nat) : Int)) ∧ w = w')) (HOA : Hid (bits .or .u8 (ma : Int) (mb : Int) = ((ma ||| mb : Nat) : Int))) (HOC : Hid (bits .or .u8 (mb : Int) (mc : Int) = ((mb ||| mc : Nat) : Int)))
    (hc : ((op == 7) = true ∧ r = mb) ∨ ((op == 7) = false ∧ (op == 8) = true ∧ r = mb) ∨ ((op == 7) = false ∧ (op == 8) = false ∧ (op == 10) = true ∧ r = mb) ∨ ((op == 7) = false ∧ (op == 8) = false ∧ (op == 10) = false ∧ (op == 13) = true ∧ r = mb) ∨ ((op == 7) = false ∧ (op == 8) = false ∧ (op == 10) = false ∧ (op == 13) = false ∧ (op == 9) = true ∧ r = ma) ∨
      ((op == 7) = false ∧ (op == 8) = false ∧ (op == 10) = false ∧ (op == 13) = false ∧ (op == 9) = false ∧ (op == 11) = true ∧ r = ma ||| mb) ∨ ((op == 7) = false ∧ (op == 8) = false ∧ (op == 10) = false ∧ (op == 13) = false ∧ (op == 9) = false ∧ (op == 11) = false ∧ (op == 15) = true ∧ r = mb ||| mc) ∨ ((op == 7) = false ∧ (op == 8) = false ∧ (op == 10) = false ∧ (op == 13) = false ∧ (op == 9) = false ∧ (op == 11) = false ∧ (op == 15) = false ∧ r = 0)) :
    Calls Tryd.prog 27 #[.agg (insC ⟨op, a, b, c, n⟩)] w (AggPost w (.int .u8 ((r : Nat) : Int))) := by
  have c0 : W0.cell? ⟨w.heap.size, 0, none⟩ = some (.int .u8 op) := blk_cell HI.out 0 _ rfl
  have c1 : W0.cell? ⟨w.heap.size, 1, none⟩ = some (.int .u8 a) := blk_cell HI.out 1 _ rfl
  have c2 : W0.cell? ⟨w.heap.size, 2, none⟩ = some (.int .u8 b) := blk_cell HI.out 2 _ rfl
  have c3 : W0.cell? ⟨w.heap.size, 3, none⟩ = some (.int .u8 c) := blk_cell HI.out 3 _ rfl
  go_enter Tryd.func27, Tryd.ntmps27
  go_upto_region 1 with (fail)
  rw [← hW0]
  clear hW0
  rcases hc with ⟨h1, rfl⟩ | ⟨h1, h2, rfl⟩ | ⟨h1, h2, h3, rfl⟩ | ⟨h1, h2, h3, h4, rfl⟩ | ⟨h1, h2, h3, h4, h5, rfl⟩ | ⟨h1, h2, h3, h4, h5, h6, rfl⟩ | ⟨h1, h2, h3, h4, h5, h6, h7, rfl⟩ | ⟨h1, h2, h3, h4, h5, h6, h7, rfl⟩
  · go_wp2_with (go_at_call 39; refine (HBB.out _).mono ?_; rintro e w' ⟨rfl, rfl⟩)
    go_ret
    exact ⟨rfl, HB.out⟩
  · go_wp2_with (go_at_call 39; refine (HBB.out _).mono ?_; rintro e w' ⟨rfl, rfl⟩)
    go_ret
    exact ⟨rfl, HB.out⟩
  · go_wp2_with (go_at_call 39; refine (HBB.out _).mono ?_; rintro e w' ⟨rfl, rfl⟩)
    go_ret
    exact ⟨rfl, HB.out⟩
  · go_wp2_with (go_at_call 39; refine (HBB.out _).mono ?_; rintro e w' ⟨rfl, rfl⟩)
    go_ret
    exact ⟨rfl, HB.out⟩
  · go_wp2_with (go_at_call 39; refine (HA.out _).mono ?_; rintro e w' ⟨rfl, rfl⟩)
    go_ret
    exact ⟨rfl, HB.out⟩
  · go_upto_region 10 with (fail)
    go_region_held3 (fun w' => w'.cell? ⟨w.heap.size, 1, none⟩ = some (.int .u8 a) ∧ w'.cell? ⟨w.heap.size, 2, none⟩ = some (.int .u8 b)) (go_keep) (first
      | (go_at_call 39; ((with_reducible refine (HA.out _).mono ?_); rintro e w' ⟨rfl, rfl⟩))
      | (go_at_call 39; ((with_reducible refine (HBB.out _).mono ?_); rintro e w' ⟨rfl, rfl⟩)))
    all_goals
      go_wp2
      go_ret
      exact ⟨congrArg (fun z => Ending.returned (.int .u8 z)) HOA.out, HB.out.drew⟩
  · go_upto_region 12 with (fail)
    go_region_held3 (fun w' => w'.cell? ⟨w.heap.size, 2, none⟩ = some (.int .u8 b) ∧ w'.cell? ⟨w.heap.size, 3, none⟩ = some (.int .u8 c)) (go_keep) (first
      | (go_at_call 39; ((with_reducible refine (HBB.out _).mono ?_); rintro e w' ⟨rfl, rfl⟩))
      | (go_at_call 39; ((with_reducible refine (HC.out _).mono ?_); rintro e w' ⟨rfl, rfl⟩)))
    all_goals
      go_wp2
      go_ret
      exact ⟨congrArg (fun z => Ending.returned (.int .u8 z)) HOC.out, HB.out.drew⟩
  · go_wp2
    go_ret
    exact ⟨rfl, HB.out⟩
theorem ruses_n (i : PIns) (w : World) (h : OkI i) : Calls Tryd.prog 27 #[.agg (insC i)] w (AggPost w (.int .u8 ((usesN i : Nat) : Int))) := by
  obtain ⟨op, a, b, c, n⟩ := i
  obtain ⟨o0, o1, a0, a1, b0, b1, c0, c1, n0, n1⟩ := h
  simp only at o0 o1 a0 a1 b0 b1 c0 c1 n0 n1
  refine ruses_at op a b c n w _ (bitN a) (bitN b) (bitN c) _ rfl (Lib.hid ((Below.refl _ _).alloc (Nat.le_refl _) _)) (Lib.hid (blk_new _ _ _)) (Lib.hid fun w => rbit_n a w a0 a1) (Lib.hid fun w => rbit_n b w b0 b1) (Lib.hid fun w => rbit_n c w c0 c1) (Lib.hid (or_u8 (bit_lt _) (bit_lt _))) (Lib.hid (or_u8 (bit_lt _) (bit_lt _))) ?_
  unfold usesN
  by_cases h1 : op = 7
  · exact .inl ⟨by simpa using h1, by simp [h1]⟩
  have q1 : (op == 7) = false := by simpa using h1
  by_cases h2 : op = 8
  · exact .inr (.inl ⟨q1, by simpa using h2, by simp [h2]⟩)
  have q2 : (op == 8) = false := by simpa using h2
  by_cases h3 : op = 10
  · exact .inr (.inr (.inl ⟨q1, q2, by simpa using h3, by simp [h3]⟩))
  have q3 : (op == 10) = false := by simpa using h3
  by_cases h4 : op = 13
  · exact .inr (.inr (.inr (.inl ⟨q1, q2, q3, by simpa using h4, by simp [h4]⟩)))
  have q4 : (op == 13) = false := by simpa using h4
  by_cases h5 : op = 9
  · exact .inr (.inr (.inr (.inr (.inl ⟨q1, q2, q3, q4, by simpa using h5, by simp [h5]⟩))))
  have q5 : (op == 9) = false := by simpa using h5
  by_cases h6 : op = 11
  · exact .inr (.inr (.inr (.inr (.inr (.inl ⟨q1, q2, q3, q4, q5, by simpa using h6, by simp [h6]⟩)))))
  have q6 : (op == 11) = false := by simpa using h6
  by_cases h7 : op = 15
  · exact .inr (.inr (.inr (.inr (.inr (.inr (.inl ⟨q1, q2, q3, q4, q5, q6, by simpa using h7, by simp [h7]⟩))))))
  · exact .inr (.inr (.inr (.inr (.inr (.inr (.inr ⟨q1, q2, q3, q4, q5, q6, by simpa using h7, by simp [h1, h2, h3, h4, h5, h6, h7]⟩))))))
end Go.Proofs.YtfnoldopjnegfaaDoor

/- The document's In: its contract. -/
namespace Go.Proofs.YtfnoldopjnegfaaDoor
set_option linter.unusedSimpArgs false
set_option linter.unusedVariables false
open Go.RowKit

abbrev u8Arr (l : List Nat) : Array Value := (u8s l).toArray
theorem infoU8 : (Tryd.prog.info? 5).map (fun i => (i.zero, i.size, i.bytes)) = some (some (.int .u8 0), 1, 1) := by kernel_rfl
theorem u8Arr_get {l : List Nat} {k : Nat} (h : k < l.length) : (u8Arr l)[k]? = some (.int .u8 ((l.getD k 0 : Nat) : Int)) := by
  show ((u8s l).toArray)[k]? = _
  rw [List.getElem?_toArray, u8s_get h]
theorem u8Arr_set (l : List Nat) (k v : Nat) : (u8Arr l).setIfInBounds k (.int .u8 (v : Int)) = u8Arr (l.set k v) := by simp [u8s]
theorem u8Arr_zeros (n : Nat) : madeCells #[.int .u8 0] n = u8Arr (List.replicate n 0) := by
  rw [made_rep]
  apply Array.ext'
  simp
/-- The world in In. -/
structure LvW (w wr : World) (H : Nat) (C : Array Value) (out : List Nat) : Prop where
  below : Below w.heap.size w wr
  prog : blk wr w.heap.size C 25
  ar : blk wr H (u8Arr out) 5
  hH : w.heap.size < H
theorem LvW.next {w wr w' : World} {H : Nat} {C : Array Value} {out : List Nat} (h : LvW w wr H C out) (hb : Below wr.heap.size wr w') : LvW w w' H C out :=
  ⟨h.below.trans (hb.mono h.below.size), blk_below h.prog hb, blk_below h.ar hb, h.hH⟩
theorem LvW.put {w wr : World} {H : Nat} {C : Array Value} {out : List Nat} (h : LvW w wr H C out) (k v : Nat) : LvW w (wr.setCell ⟨H, k, none⟩ (.int .u8 (v : Int))) H C (out.set k v) := by
  have hH := h.hH
  rw [setCell_putB h.ar, u8Arr_set]
  exact ⟨h.below.trans (putB_below _ (by omega) _ _), by unfold blk; rw [putB_ne _ (by omega)]; exact h.prog, putB_at h.ar _ _, h.hH⟩
def U8sPost (w : World) (l : List Nat) (e : Ending) (w' : World) : Prop := ∃ v, e = .returned v ∧ RowAt w' v (u8s l) ∧ Below w.heap.size w w'
theorem LvW.post {w wr : World} {H : Nat} {C : Array Value} {out : List Nat} {n : Nat} (h : LvW w wr H C out) (hn : out.length = n) (hl : n ≤ 1000000) : U8sPost w out (.returned (.slice (some ⟨H, 0, none⟩) n n)) wr := by
  subst hn
  refine ⟨_, rfl, ⟨some ⟨H, 0, none⟩, out.length, by simp, by simp, by unfold maxLen; omega, .inr ⟨H, 0, rfl, blk_lt h.ar, fun j x hx => ?_⟩⟩, h.below⟩
  rw [Nat.zero_add]
  exact blk_cell h.ar j x (by show ((u8s out).toArray)[j]? = _; rw [List.getElem?_toArray]; exact hx)
end Go.Proofs.YtfnoldopjnegfaaDoor

/- What the statements want of the program's In: its answer, cell by cell. -/
namespace Go.Proofs.YtfnoldopjnegfaaDoor
set_option linter.unusedSimpArgs false
set_option linter.unusedVariables false
open Go.RowKit

/-- A row of bytes that is not empty: each of its cells. -/
theorem u8A_cells {w : World} {v : Value} {l : List Nat} {n : Nat} (h : RowAt w v (u8s l)) (hn : l.length = n + 1) : ∃ b o c, v = .slice (some ⟨b, o, none⟩) (n + 1) c ∧ n + 1 ≤ c ∧ c ≤ 9223372036854775807 ∧ b < w.heap.size ∧ ∀ j, j ≤ n → w.cell? ⟨b, o + j, none⟩ = some (.int .u8 ((l.getD j 0 : Nat) : Int)) := by
  obtain ⟨a, c, rfl, h1, h2, h3⟩ := h
  unfold maxLen at h2
  have hl : (u8s l).length = n + 1 := by simp [hn]
  rw [hl] at h1 ⊢
  rcases h3 with h3 | ⟨b, o, rfl, hb, hc⟩
  · rw [h3] at hl; simp at hl
  · exact ⟨b, o, c, rfl, h1, by omega, hb, fun j hj => hc j _ (u8s_get (by omega))⟩
/-- The cells of In's answer, wherever they lie. -/
structure U8At (w : World) (b o n : Nat) (l : List Nat) : Prop where
  lt : b < w.heap.size
  c : ∀ j, j ≤ n → w.cell? ⟨b, o + j, none⟩ = some (.int .u8 ((l.getD j 0 : Nat) : Int))
theorem U8At.next {w w' : World} {b o n : Nat} {l : List Nat} (h : U8At w b o n l) (hb : Below w.heap.size w w') : U8At w' b o n l :=
  ⟨Nat.lt_of_lt_of_le h.lt hb.size, fun j hj => by rw [(bcell hb).1 b _ h.lt]; exact h.c j hj⟩
theorem shr_tmod (m a : Nat) : ((m : Int) / 2 ^ a).tmod 2 = if m.testBit a = true then 1 else 0 := by
  have e : ((m : Int) / 2 ^ a) = ((m / 2 ^ a : Nat) : Int) := by simp
  rw [Int.tmod_eq_emod_of_nonneg (by rw [e]; exact Int.natCast_nonneg _), shr_bit]
end Go.Proofs.YtfnoldopjnegfaaDoor
