/-
  What the statements ask of the greatest sets, in plain numbers; what a run keeps of them.
  Contracts: letters and digits; whether types may be (the program's and the document's).
-/
import Derived.Test.YtapjgobkpehgfaaDoorYPure
import Derived.Test.YtapjgobkpehgfaaDoorVPure
import Derived.Laws.Shifts
import Derived.Laws.ShiftsVarLaws
import Derived.Test.YtapjgobkpehgfaaDoorUAB

/- What the statements ask of the greatest sets, in plain numbers; what a run keeps of them. -/
namespace Go.Proofs.YtapjgobkpehgfaaDoor
set_option linter.unusedSimpArgs false
set_option linter.unusedVariables false
open Go.RowKit

section
variable {q : PProg} {i : PIns}
/-- Out, at any number. -/
def outV (q : PProg) (k : Int) (m : Nat) : Nat := if k < 0 ∨ (q.code.length : Int) ≤ k then m else outN q k.toNat m
theorem outV_none {k : Int} {m : Nat} (h : k < 0 ∨ (q.code.length : Int) ≤ k) : outV q k m = m := by unfold outV; rw [if_pos h]
theorem outV_nat {k m : Nat} (h : k < q.code.length) : outV q (k : Int) m = outN q k m := by unfold outV; rw [if_neg (by omega), Int.toNat_natCast]
theorem but_le {x y : Nat} (h : leN x y) : butN x y = 0 := by
  refine eq_bits fun a => ?_
  rw [testBit_but, Nat.zero_testBit]
  rcases hx : x.testBit a with _ | _
  · rfl
  · rw [h a hx]; rfl
theorem sets_bit (h : i.op = 5 ∨ i.op = 6 ∨ i.op = 7 ∨ i.op = 10 ∨ i.op = 12) : setsN i = bitN i.a := by unfold setsN; rw [if_pos h]
theorem shl_bit {a : Int} (h0 : 0 ≤ a) : (2 : Int) ^ min a.toNat 8 % 256 = ((bitN a : Nat) : Int) := by
  rw [u8_shl_one_var a h0]
  unfold bitN
  by_cases h8 : 8 ≤ a
  · rw [if_pos h8, if_pos (show 7 < a by omega)]; rfl
  · rw [if_neg h8, if_neg (show ¬ 7 < a by omega)]; simp
end
end Go.Proofs.YtapjgobkpehgfaaDoor

/- Contracts: letters and digits; whether types may be (the program's and the document's). -/
namespace Go.Proofs.YtapjgobkpehgfaaDoor
set_option linter.unusedSimpArgs false
set_option linter.unusedVariables false
open Go.RowKit

theorem kdig_t (c n : Nat) (w : World) (hc : c < 256) (hn : n ≤ 9223372036854775807) (h : Hid (digB n c = true)) : Calls Tryd.prog 59 #[.int .u8 c, .int .i64 n] w fun e w' => e = .returned (.bool true) ∧ w = w' := by
  have h1 := (dig_iff.1 h.out).1
  have h2 := (dig_iff.1 h.out).2
  clear h
  go_enter Tryd.func59, Tryd.ntmps59
  go_wp2
  go_ret
  exact ⟨ret_bool (decide_eq_true (by omega)), rfl⟩
theorem kdig_f (c n : Nat) (w : World) (hc : c < 256) (hn : n ≤ 9223372036854775807) (h : Hid (digB n c = false)) : Calls Tryd.prog 59 #[.int .u8 c, .int .i64 n] w fun e w' => e = .returned (.bool false) ∧ w = w' := by
  have h1 := dig_no.1 h.out
  clear h
  by_cases h0 : 48 ≤ c
  · have h3 : 48 + n ≤ c := by omega
    clear h1
    go_enter Tryd.func59, Tryd.ntmps59
    go_wp2
    go_ret
    exact ⟨ret_bool (decide_eq_false (by omega)), rfl⟩
  · clear h1
    go_enter Tryd.func59, Tryd.ntmps59
    go_wp2
    go_ret
    exact ⟨rfl, rfl⟩
theorem all_next {P : Nat → Prop} {k : Nat} (h : ∀ j, j < k → P j) (hk : P k) : ∀ j, j < k + 1 → P j := by
  intro j hj
  rcases Nat.lt_or_ge j k with h1 | h1
  · exact h j h1
  · obtain rfl : j = k := by omega
    exact hk
theorem none_yet {P : Nat → Prop} : ∀ j, j < 0 → P j := fun j hj => absurd hj (by omega)

set_option maxHeartbeats 1000000 in
theorem kmay_any (s : ByteArray) (n : Nat) (w : World) (hs : s.size ≤ 9223372036854775807) (hn : n ≤ 9223372036854775807) : Calls Tryd.prog 58 #[.string s, .int .i64 n] w fun e w' => e = .returned (.bool (okB n s)) ∧ w = w' := by
  by_cases h1 : s.size < 1
  · go_enter Tryd.func58, Tryd.ntmps58
    go_wp2
    all_goals
      go_ret
      exact ⟨ret_bool (ok_size (.inl h1)).symm, rfl⟩
  by_cases h2 : 6 < s.size
  · go_enter Tryd.func58, Tryd.ntmps58
    go_wp2
    go_ret
    exact ⟨ret_bool (ok_size (.inr h2)).symm, rfl⟩
  go_enter Tryd.func58, Tryd.ntmps58
  go_wp2
  go_loop [16] (fun i => ∃ k : Nat, k ≤ s.size ∧ i = .int .i64 k ∧ Hid (∀ j, j < k → letB n (byt s j) = true)) (fun i => s.size - (intOf i).toNat)
  case atStart => exact ⟨0, Nat.zero_le _, rfl, Lib.hid none_yet⟩
  case round =>
    obtain ⟨k, hk, rfl, hok⟩ := hrel
    by_cases hlt : k < s.size
    · have hb := byt_at hlt
      have hl := byt_lt s k
      generalize hc : byt s k = c at hb hl
      by_cases hi : c = 105
      · have e1 : (((s[k].toNat : Nat) : Int) != 105) = false := by rw [hb, hi]; rfl
        have HL : Hid (letB n (byt s k) = true) := Lib.hid (let_iff.2 (.inl (by rw [hc]; exact hi)))
        clear hb hl hc hi
        go_wp2
        go_round
        case rel => exact ⟨k + 1, by omega, by go_num, Lib.hid (all_next hok.out HL.out)⟩
        case measure => simp [intOf]; omega
      · have e1 : (((s[k].toNat : Nat) : Int) != 105) = true := by rw [hb]; simp; omega
        have hl' : s[k].toNat < 256 := by omega
        rcases hd : digB n c with _ | _
        · have HD : Hid (digB n s[k].toNat = false) := Lib.hid (by rw [hb]; exact hd)
          have HL : Hid (letB n (byt s k) = false) := Lib.hid (let_no.2 (by rw [hc]; exact ⟨hi, hd⟩))
          clear hb hl hc hi hd
          go_wp2_with (go_at_call 59; refine (kdig_f _ _ _ hl' hn HD).mono ?_; rintro e w' ⟨rfl, rfl⟩)
          go_ret
          exact ⟨ret_bool (ok_let hlt HL.out).symm, rfl⟩
        · have HD : Hid (digB n s[k].toNat = true) := Lib.hid (by rw [hb]; exact hd)
          have HL : Hid (letB n (byt s k) = true) := Lib.hid (let_iff.2 (.inr (by rw [hc]; exact hd)))
          clear hb hl hc hi hd
          go_wp2_with (go_at_call 59; refine (kdig_t _ _ _ hl' hn HD).mono ?_; rintro e w' ⟨rfl, rfl⟩)
          go_round
          case rel => exact ⟨k + 1, by omega, by go_num, Lib.hid (all_next hok.out HL.out)⟩
          case measure => simp [intOf]; omega
    · go_wp2
      go_ret
      obtain rfl : k = s.size := by omega
      exact ⟨ret_bool (ok_iff.2 ⟨by omega, by omega, hok.out⟩).symm, rfl⟩
theorem kmay_t (s : ByteArray) (n : Nat) (w : World) (hs : s.size ≤ 9223372036854775807) (hn : n ≤ 9223372036854775807) (h : Hid (okB n s = true)) : Calls Tryd.prog 58 #[.string s, .int .i64 n] w fun e w' => e = .returned (.bool true) ∧ w = w' :=
  (kmay_any s n w hs hn).mono fun e w' ⟨h1, h2⟩ => ⟨by rw [h1, h.out], h2⟩
theorem kmay_f (s : ByteArray) (n : Nat) (w : World) (hs : s.size ≤ 9223372036854775807) (hn : n ≤ 9223372036854775807) (h : Hid (okB n s = false)) : Calls Tryd.prog 58 #[.string s, .int .i64 n] w fun e w' => e = .returned (.bool false) ∧ w = w' :=
  (kmay_any s n w hs hn).mono fun e w' ⟨h1, h2⟩ => ⟨by rw [h1, h.out], h2⟩

set_option maxHeartbeats 1000000 in
theorem kright_any (v : Value) (ts : List ByteArray) (w : World) (h : TsAt w v ts) : Calls Tryd.prog 42 #[v] w fun e w' => e = .returned (.bool (rightB ts)) ∧ w = w' := by
  obtain ⟨a, c, rfl, h1, h2, h3⟩ := h.cases
  clear h
  by_cases hl : ts.length < 1
  · clear h3
    go_enter Tryd.func42, Tryd.ntmps42
    go_wp2
    all_goals
      go_ret
      exact ⟨ret_bool (right_size (.inl hl)).symm, rfl⟩
  by_cases hg : 8 < ts.length
  · clear h3
    go_enter Tryd.func42, Tryd.ntmps42
    go_wp2
    go_ret
    exact ⟨ret_bool (right_size (.inr hg)).symm, rfl⟩
  rcases h3 with rfl | ⟨b, o, rfl, hb, hc⟩
  · exact absurd (by simp) hl
  have HC := Lib.hid hc
  clear hc
  go_enter Tryd.func42, Tryd.ntmps42
  go_wp2
  go_loop [14] (fun i => ∃ k : Nat, k ≤ ts.length ∧ i = .int .i64 k ∧ Hid (∀ j, j < k → okB ts.length (ty ts j) = true)) (fun i => ts.length - (intOf i).toNat)
  case atStart => exact ⟨0, Nat.zero_le _, rfl, Lib.hid none_yet⟩
  case round =>
    obtain ⟨k, hk, rfl, hok⟩ := hrel
    by_cases hlt : k < ts.length
    · obtain ⟨hx, hsx⟩ := HC.out k hlt
      generalize hs : ty ts k = s at hx hsx
      rcases hm : okB ts.length s with _ | _
      · have HM : Hid (okB ts.length s = false) := Lib.hid hm
        have HS := Lib.hid hs
        clear hm hs
        go_wp2_with (go_at_call 58; refine (kmay_f s _ _ hsx (by omega) HM).mono ?_; rintro e w' ⟨rfl, rfl⟩)
        go_ret
        exact ⟨ret_bool (right_ok hlt (by rw [HS.out]; exact HM.out)).symm, rfl⟩
      · have HM : Hid (okB ts.length s = true) := Lib.hid hm
        have HS := Lib.hid hs
        clear hm hs
        go_wp2_with (go_at_call 58; refine (kmay_t s _ _ hsx (by omega) HM).mono ?_; rintro e w' ⟨rfl, rfl⟩)
        go_round
        case rel => exact ⟨k + 1, by omega, by go_num, Lib.hid (all_next hok.out (by rw [HS.out]; exact HM.out))⟩
        case measure => simp [intOf]; omega
    · go_wp2
      go_ret
      obtain rfl : k = ts.length := by omega
      exact ⟨ret_bool (right_iff.2 ⟨by omega, by omega, hok.out⟩).symm, rfl⟩
theorem kright_t (v : Value) (ts : List ByteArray) (w : World) (h : TsAt w v ts) (hr : Hid (rightB ts = true)) : Calls Tryd.prog 42 #[v] w fun e w' => e = .returned (.bool true) ∧ w = w' :=
  (kright_any v ts w h).mono fun e w' ⟨h1, h2⟩ => ⟨by rw [h1, hr.out], h2⟩
theorem kright_f (v : Value) (ts : List ByteArray) (w : World) (h : TsAt w v ts) (hr : Hid (rightB ts = false)) : Calls Tryd.prog 42 #[v] w fun e w' => e = .returned (.bool false) ∧ w = w' :=
  (kright_any v ts w h).mono fun e w' ⟨h1, h2⟩ => ⟨by rw [h1, hr.out], h2⟩
end Go.Proofs.YtapjgobkpehgfaaDoor
