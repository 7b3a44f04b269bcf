/-
  Two runs that differ in pointer locals that do not matter: a step of both.
  What the statements ask of the greatest sets, in plain numbers; what a run keeps of them.
  Contracts: letters and digits; whether types may be (the program's and the document's).
  The document's Right.
-/
import Derived.Test.YtapjgobkpehgfaaGreatDoorUAI
import Derived.Laws.Shifts
import Derived.Laws.ShiftsVarLaws
import Derived.Test.YtapjgobkpehgfaaGreatDoorUAC

/- Two runs that differ in pointer locals that do not matter: a step of both. -/
namespace Go.Proofs.YtapjgobkpehgfaaGreatDoor
set_option linter.unusedSimpArgs false
set_option linter.unusedVariables false

section
variable {q : PProg} {s t : PSt}
theorem doI_pcV {i : PIns} (h3 : i.op ≠ 3) (h4 : i.op ≠ 4) (h : doI q s i = some t) : t.pc = s.pc := by
  unfold doI at h
  by_cases e1 : i.op = 1
  · rw [if_pos e1] at h; obtain rfl := Option.some.inj h; rfl
  rw [if_neg e1] at h
  by_cases e2 : i.op = 2
  · rw [if_pos e2] at h; obtain rfl := Option.some.inj h; rfl
  rw [if_neg e2, if_neg h3, if_neg h4] at h
  by_cases e5 : i.op = 5
  · rw [if_pos e5] at h; obtain rfl := Option.some.inj h; rfl
  rw [if_neg e5] at h
  by_cases e6 : i.op = 6
  · rw [if_pos e6] at h; obtain rfl := Option.some.inj h; rfl
  rw [if_neg e6] at h
  by_cases e7 : i.op = 7
  · rw [if_pos e7] at h; obtain rfl := Option.some.inj h; rfl
  rw [if_neg e7] at h
  by_cases e8 : i.op = 8
  · rw [if_pos e8] at h
    split at h
    · cases h
    · obtain rfl := Option.some.inj h; rfl
  rw [if_neg e8] at h
  by_cases e9 : i.op = 9
  · rw [if_pos e9] at h
    split at h
    · cases h
    · obtain rfl := Option.some.inj h; rfl
  rw [if_neg e9] at h
  by_cases e10 : i.op = 10
  · rw [if_pos e10] at h
    split at h
    · cases h
    · obtain rfl := Option.some.inj h; rfl
  rw [if_neg e10] at h
  by_cases e11 : i.op = 11
  · rw [if_pos e11] at h
    split at h
    · cases h
    · obtain rfl := Option.some.inj h; rfl
  rw [if_neg e11] at h
  by_cases e12 : i.op = 12
  · rw [if_pos e12] at h; obtain rfl := Option.some.inj h; rfl
  rw [if_neg e12] at h
  by_cases e13 : i.op = 13
  · rw [if_pos e13] at h; obtain rfl := Option.some.inj h; rfl
  rw [if_neg e13] at h
  by_cases e14 : i.op = 14
  · rw [if_pos e14] at h; obtain rfl := Option.some.inj h; rfl
  rw [if_neg e14] at h
  obtain rfl := Option.some.inj h; rfl
/-- A step goes to a next place. -/
theorem step_nextV {i : PIns} (hin : InP q) (hi : q.code[s.pc]? = some i) (h : doI q (onI s) i = some t) : t.pc ∈ nextL q s.pc := by
  have hp := hin i (List.mem_of_getElem? hi)
  unfold nextL
  rw [hi]
  simp only [nextI]
  by_cases h3 : i.op = 3
  · rw [doI_3 h3] at h
    obtain rfl := Option.some.inj h
    rw [if_pos h3]; simp
  · rw [if_neg h3]
    by_cases h4 : i.op = 4
    · rw [doI_4 h4] at h
      obtain rfl := Option.some.inj h
      have := hp (.inr h4)
      rw [if_pos h4]
      by_cases hx : xA (onI s) i.a = 0
      · rw [if_pos hx]
        show i.n.toNat ∈ _
        split
        · simp
        · split
          · simp
          · simp; omega
      · rw [if_neg hx]
        show s.pc + 1 ∈ _
        split
        · simp
        · split <;> simp
    · have := doI_pcV h3 h4 h
      rw [if_neg h4, this]
      show s.pc + 1 ∈ [s.pc + 1]
      simp
end
section
variable {q : PProg} {s : PSt} {ts : List Nat} {n : Nat} {i : PIns}
end
end Go.Proofs.YtapjgobkpehgfaaGreatDoor

/- What the statements ask of the greatest sets, in plain numbers; what a run keeps of them. -/
namespace Go.Proofs.YtapjgobkpehgfaaGreatDoor
set_option linter.unusedSimpArgs false
set_option linter.unusedVariables false
open Go.RowKit

section
variable {q : PProg} {i : PIns}
/-- Out, at any number. -/
def outV (q : PProg) (k : Int) (m : Nat) : Nat := if k < 0 ∨ (q.code.length : Int) ≤ k then m else outN q k.toNat m
theorem outV_none {k : Int} {m : Nat} (h : k < 0 ∨ (q.code.length : Int) ≤ k) : outV q k m = m := by unfold outV; rw [if_pos h]
theorem outV_nat {k m : Nat} (h : k < q.code.length) : outV q (k : Int) m = outN q k m := by unfold outV; rw [if_neg (by omega), Int.toNat_natCast]
theorem but_le {x y : Nat} (h : leN x y) : butN x y = 0 := by
  refine eq_bits fun a => ?_
  rw [testBit_but, Nat.zero_testBit]
  rcases hx : x.testBit a with _ | _
  · rfl
  · rw [h a hx]; rfl
theorem sets_bit (h : i.op = 5 ∨ i.op = 6 ∨ i.op = 7 ∨ i.op = 10 ∨ i.op = 12) : setsN i = bitN i.a := by unfold setsN; rw [if_pos h]
theorem shl_bit {a : Int} (h0 : 0 ≤ a) : (2 : Int) ^ min a.toNat 8 % 256 = ((bitN a : Nat) : Int) := by
  rw [u8_shl_one_var a h0]
  unfold bitN
  by_cases h8 : 8 ≤ a
  · rw [if_pos h8, if_pos (show 7 < a by omega)]; rfl
  · rw [if_neg h8, if_neg (show ¬ 7 < a by omega)]; simp
/-! ### A run -/
/-- A step changes no pointer local that its instruction doesn't set. -/
theorem doI_keep {s t : PSt} (hop : i.op = 1 ∨ i.op = 2 ∨ i.op = 3 ∨ i.op = 4 ∨ i.op = 5 ∨ i.op = 6 ∨ i.op = 7 ∨ i.op = 8 ∨ i.op = 9 ∨ i.op = 10 ∨ i.op = 11 ∨ i.op = 12 ∨ i.op = 13 ∨ i.op = 14 ∨ i.op = 15) (hl : s.p.length = 8) (h : doI q s i = some t) {a : Nat} (ha : (setsN i).testBit a = false) : t.p.getD a 0 = s.p.getD a 0 := by
  rcases doI_two (q := q) (m := usesN i) (s := s) (t := s) (i := i) ⟨rfl, rfl, rfl, rfl, rfl, rfl, hl, hl, fun _ _ => rfl⟩ hop (fun _ h => h) with ⟨h1, _⟩ | ⟨x, y, h1, _, ho⟩
  · rw [h] at h1; cases h1
  · rw [h] at h1; cases h1
    exact (ho.old a ha).1
/-- What is told to be new is so. -/
structure FrI (q : PProg) (s : PSt) (old : Nat) : Prop where
  le : old ≤ s.objs.length
  fr : ∀ a, a < q.locals.length → ((freshL q).getD s.pc 0).testBit a = true → s.p.getD a 0 = 0 ∨ (old : Int) < s.p.getD a 0
theorem fr_0 : FrI q st0 0 := ⟨Nat.le_refl _, fun a _ _ => .inl (by
  show (List.replicate 8 (0 : Int)).getD a 0 = 0
  rw [List.getD_eq_getElem?_getD, List.getElem?_replicate]
  split <;> rfl)⟩
theorem set_at {l : List Int} {x : Int} {v : Int} {a : Nat} (hl : l.length = 8) (h : (bitN x).testBit a = true) : (l.set x.toNat v).getD a 0 = v := by
  rw [testBit_bit] at h
  simp only [Bool.and_eq_true, decide_eq_true_eq] at h
  rw [getD_setI, if_pos ⟨h.2, by omega⟩]
theorem fr_next (hc : (checkL q).2 = 0) (hin : InP q) (hok : ∀ i ∈ q.code, OkI i) {s t : PSt} {old : Nat} (h : FrI q s old) (hl : s.p.length = 8) (hi : q.code[s.pc]? = some i) (hd : doI q (onI s) i = some t) :
    FrI q t (if safeL q s.pc = true then s.objs.length else old) := by
  have hm := List.mem_of_getElem? hi
  obtain ⟨_, _, _, hall, _⟩ := check_ok hc
  have hop := right_op' (ins_parts (hall i hm)).1
  obtain ⟨_, _, _, _, _, gO, _⟩ := doI_grow hop hd
  have gO2 : s.objs.length ≤ t.objs.length := by rw [gO]; show s.objs.length ≤ s.objs.length + _; omega
  have hle := h.le
  refine ⟨by split <;> omega, fun a hal ha => ?_⟩
  have h1 := fresh_le hin (step_nextV hin hi hd) a ha
  rw [outN_at hi, outI_iff] at h1
  rcases h1 with ⟨h56, hs⟩ | ⟨b, hsrc, hb⟩
  · have hs2 : (bitN i.a).testBit a = true := by
      have e : setsN i = bitN i.a := by unfold setsN; rw [if_pos (by omega)]
      rwa [e] at hs
    rcases h56 with h5 | h6
    · rw [doI_5 h5] at hd
      obtain rfl := Option.some.inj hd
      right
      show _ < (s.p.set i.a.toNat ((s.objs.length : Int) + 1)).getD a 0
      rw [set_at hl hs2]
      split <;> omega
    · rw [doI_6 h6] at hd
      obtain rfl := Option.some.inj hd
      left
      show (s.p.set i.a.toNat 0).getD a 0 = 0
      rw [set_at hl hs2]
  · unfold leftN at hb
    by_cases hsf : safeL q s.pc = true
    · rw [if_pos hsf, Nat.zero_testBit] at hb; cases hb
    · rw [if_neg hsf] at hb ⊢
      by_cases hsa : (setsN i).testBit a = true
      · unfold srcI at hsrc
        by_cases h7 : i.op = 7
        · rw [if_pos h7, if_pos hsa] at hsrc
          have hu : (usesN i).testBit b = true := hsrc.resolve_right id
          have hbl := uses_local hc hok hm hu
          have eu : usesN i = bitN i.b := by unfold usesN; rw [if_pos (.inl h7)]
          have es : setsN i = bitN i.a := by unfold setsN; rw [if_pos (by omega)]
          rw [eu, testBit_bit] at hu
          rw [es] at hsa
          simp only [Bool.and_eq_true, decide_eq_true_eq] at hu
          rw [doI_7 h7] at hd
          obtain rfl := Option.some.inj hd
          have e2 : pA (onI s) i.b = s.p.getD b 0 := by unfold pA; rw [hu.2]; rfl
          show (s.p.set i.a.toNat (pA (onI s) i.b)).getD a 0 = 0 ∨ _ < (s.p.set i.a.toNat (pA (onI s) i.b)).getD a 0
          rw [set_at hl hsa, e2]
          exact h.fr b hbl hb
        · rw [if_neg h7] at hsrc
          by_cases h10 : i.op = 10 ∨ i.op = 12
          · rw [if_pos h10] at hsrc
            rw [hsrc.2] at hsa; cases hsa
          · rw [if_neg h10] at hsrc
            subst hsrc
            have h56 : i.op = 5 ∨ i.op = 6 := by
              rcases Classical.em (i.op = 5 ∨ i.op = 6) with h | h
              · exact h
              · exfalso
                unfold setsN at hsa
                rw [if_neg (by omega), Nat.zero_testBit] at hsa
                cases hsa
            have hs2 : (bitN i.a).testBit a = true := by
              have e : setsN i = bitN i.a := by unfold setsN; rw [if_pos (by omega)]
              rwa [e] at hsa
            rcases h56 with h5 | h6
            · exfalso
              refine hsf ?_
              unfold safeL
              rw [hi]
              simp [h5]
            · rw [doI_6 h6] at hd
              obtain rfl := Option.some.inj hd
              left
              show (s.p.set i.a.toNat 0).getD a 0 = 0
              rw [set_at hl hs2]
      · have hsa' : (setsN i).testBit a = false := by simpa using hsa
        have hk := doI_keep (s := onI s) hop hl hd hsa'
        have hab : a = b := by
          unfold srcI at hsrc
          split at hsrc
          · first | exact hsrc | (rw [if_neg hsa] at hsrc; exact hsrc)
          · split at hsrc
            · exact hsrc.1
            · exact hsrc
        subst hab
        rw [hk]
        exact h.fr a hal hb
end
end Go.Proofs.YtapjgobkpehgfaaGreatDoor

/- Contracts: letters and digits; whether types may be (the program's and the document's). -/
namespace Go.Proofs.YtapjgobkpehgfaaGreatDoor
set_option linter.unusedSimpArgs false
set_option linter.unusedVariables false
open Go.RowKit

theorem kdig_t (c n : Nat) (w : World) (hc : c < 256) (hn : n ≤ 9223372036854775807) (h : Hid (digB n c = true)) : Calls Tryz.prog 99 #[.int .u8 c, .int .i64 n] w fun e w' => e = .returned (.bool true) ∧ w = w' := by
  have h1 := (dig_iff.1 h.out).1
  have h2 := (dig_iff.1 h.out).2
  clear h
  go_enter Tryz.func99, Tryz.ntmps99
  go_wp2
  go_ret
  exact ⟨ret_bool (decide_eq_true (by omega)), rfl⟩
theorem kdig_f (c n : Nat) (w : World) (hc : c < 256) (hn : n ≤ 9223372036854775807) (h : Hid (digB n c = false)) : Calls Tryz.prog 99 #[.int .u8 c, .int .i64 n] w fun e w' => e = .returned (.bool false) ∧ w = w' := by
  have h1 := dig_no.1 h.out
  clear h
  by_cases h0 : 48 ≤ c
  · have h3 : 48 + n ≤ c := by omega
    clear h1
    go_enter Tryz.func99, Tryz.ntmps99
    go_wp2
    go_ret
    exact ⟨ret_bool (decide_eq_false (by omega)), rfl⟩
  · clear h1
    go_enter Tryz.func99, Tryz.ntmps99
    go_wp2
    go_ret
    exact ⟨rfl, rfl⟩
/-- The document's digit: the type that a letter names; -1: it names none. -/
theorem rdig_t (c n : Nat) (w : World) (hc : c < 256) (hn : n ≤ 9223372036854775807) (h : Hid (digB n c = true)) : Calls Tryz.prog 47 #[.int .u8 c, .int .i64 n] w fun e w' => e = .returned (.int .i64 ((c : Int) - 48)) ∧ w = w' := by
  have h1 := (dig_iff.1 h.out).1
  have h2 := (dig_iff.1 h.out).2
  clear h
  have h3 : ¬ c < 48 := by omega
  have h4 : ¬ (n : Int) ≤ (c : Int) - 48 := by omega
  go_enter Tryz.func47, Tryz.ntmps47
  go_wp2
  go_ret
  exact ⟨rfl, rfl⟩
theorem rdig_f (c n : Nat) (w : World) (hc : c < 256) (hn : n ≤ 9223372036854775807) (h : Hid (digB n c = false)) : Calls Tryz.prog 47 #[.int .u8 c, .int .i64 n] w fun e w' => e = .returned (.int .i64 (-1)) ∧ w = w' := by
  have h1 := dig_no.1 h.out
  clear h
  by_cases h0 : 48 ≤ c
  · have h3 : ¬ c < 48 := by omega
    have h4 : (n : Int) ≤ (c : Int) - 48 := by omega
    clear h1
    go_enter Tryz.func47, Tryz.ntmps47
    go_wp2
    go_ret
    exact ⟨rfl, rfl⟩
  · have h3 : c < 48 := by omega
    clear h1
    go_enter Tryz.func47, Tryz.ntmps47
    go_wp2
    go_ret
    exact ⟨rfl, rfl⟩

theorem all_next {P : Nat → Prop} {k : Nat} (h : ∀ j, j < k → P j) (hk : P k) : ∀ j, j < k + 1 → P j := by
  intro j hj
  rcases Nat.lt_or_ge j k with h1 | h1
  · exact h j h1
  · obtain rfl : j = k := by omega
    exact hk
theorem none_yet {P : Nat → Prop} : ∀ j, j < 0 → P j := fun j hj => absurd hj (by omega)

set_option maxHeartbeats 1000000 in
theorem kmay_any (s : ByteArray) (n : Nat) (w : World) (hs : s.size ≤ 9223372036854775807) (hn : n ≤ 9223372036854775807) : Calls Tryz.prog 98 #[.string s, .int .i64 n] w fun e w' => e = .returned (.bool (okB n s)) ∧ w = w' := by
  by_cases h1 : s.size < 1
  · go_enter Tryz.func98, Tryz.ntmps98
    go_wp2
    all_goals
      go_ret
      exact ⟨ret_bool (ok_size (.inl h1)).symm, rfl⟩
  by_cases h2 : 6 < s.size
  · go_enter Tryz.func98, Tryz.ntmps98
    go_wp2
    go_ret
    exact ⟨ret_bool (ok_size (.inr h2)).symm, rfl⟩
  go_enter Tryz.func98, Tryz.ntmps98
  go_wp2
  go_loop [16] (fun i => ∃ k : Nat, k ≤ s.size ∧ i = .int .i64 k ∧ Hid (∀ j, j < k → letB n (byt s j) = true)) (fun i => s.size - (intOf i).toNat)
  case atStart => exact ⟨0, Nat.zero_le _, rfl, Lib.hid none_yet⟩
  case round =>
    obtain ⟨k, hk, rfl, hok⟩ := hrel
    by_cases hlt : k < s.size
    · have hb := byt_at hlt
      have hl := byt_lt s k
      generalize hc : byt s k = c at hb hl
      by_cases hi : c = 105
      · have e1 : (((s[k].toNat : Nat) : Int) != 105) = false := by rw [hb, hi]; rfl
        have HL : Hid (letB n (byt s k) = true) := Lib.hid (let_iff.2 (.inl (by rw [hc]; exact hi)))
        clear hb hl hc hi
        go_wp2
        go_round
        case rel => exact ⟨k + 1, by omega, by go_num, Lib.hid (all_next hok.out HL.out)⟩
        case measure => simp [intOf]; omega
      · have e1 : (((s[k].toNat : Nat) : Int) != 105) = true := by rw [hb]; simp; omega
        have hl' : s[k].toNat < 256 := by omega
        rcases hd : digB n c with _ | _
        · have HD : Hid (digB n s[k].toNat = false) := Lib.hid (by rw [hb]; exact hd)
          have HL : Hid (letB n (byt s k) = false) := Lib.hid (let_no.2 (by rw [hc]; exact ⟨hi, hd⟩))
          clear hb hl hc hi hd
          go_wp2_with (go_at_call 99; refine (kdig_f _ _ _ hl' hn HD).mono ?_; rintro e w' ⟨rfl, rfl⟩)
          go_ret
          exact ⟨ret_bool (ok_let hlt HL.out).symm, rfl⟩
        · have HD : Hid (digB n s[k].toNat = true) := Lib.hid (by rw [hb]; exact hd)
          have HL : Hid (letB n (byt s k) = true) := Lib.hid (let_iff.2 (.inr (by rw [hc]; exact hd)))
          clear hb hl hc hi hd
          go_wp2_with (go_at_call 99; refine (kdig_t _ _ _ hl' hn HD).mono ?_; rintro e w' ⟨rfl, rfl⟩)
          go_round
          case rel => exact ⟨k + 1, by omega, by go_num, Lib.hid (all_next hok.out HL.out)⟩
          case measure => simp [intOf]; omega
    · go_wp2
      go_ret
      obtain rfl : k = s.size := by omega
      exact ⟨ret_bool (ok_iff.2 ⟨by omega, by omega, hok.out⟩).symm, rfl⟩
theorem kmay_t (s : ByteArray) (n : Nat) (w : World) (hs : s.size ≤ 9223372036854775807) (hn : n ≤ 9223372036854775807) (h : Hid (okB n s = true)) : Calls Tryz.prog 98 #[.string s, .int .i64 n] w fun e w' => e = .returned (.bool true) ∧ w = w' :=
  (kmay_any s n w hs hn).mono fun e w' ⟨h1, h2⟩ => ⟨by rw [h1, h.out], h2⟩
theorem kmay_f (s : ByteArray) (n : Nat) (w : World) (hs : s.size ≤ 9223372036854775807) (hn : n ≤ 9223372036854775807) (h : Hid (okB n s = false)) : Calls Tryz.prog 98 #[.string s, .int .i64 n] w fun e w' => e = .returned (.bool false) ∧ w = w' :=
  (kmay_any s n w hs hn).mono fun e w' ⟨h1, h2⟩ => ⟨by rw [h1, h.out], h2⟩

set_option maxHeartbeats 1000000 in
theorem kright_any (v : Value) (ts : List ByteArray) (w : World) (h : TsAt w v ts) : Calls Tryz.prog 80 #[v] w fun e w' => e = .returned (.bool (rightB ts)) ∧ w = w' := by
  obtain ⟨a, c, rfl, h1, h2, h3⟩ := h.cases
  clear h
  by_cases hl : ts.length < 1
  · clear h3
    go_enter Tryz.func80, Tryz.ntmps80
    go_wp2
    all_goals
      go_ret
      exact ⟨ret_bool (right_size (.inl hl)).symm, rfl⟩
  by_cases hg : 8 < ts.length
  · clear h3
    go_enter Tryz.func80, Tryz.ntmps80
    go_wp2
    go_ret
    exact ⟨ret_bool (right_size (.inr hg)).symm, rfl⟩
  rcases h3 with rfl | ⟨b, o, rfl, hb, hc⟩
  · exact absurd (by simp) hl
  have HC := Lib.hid hc
  clear hc
  go_enter Tryz.func80, Tryz.ntmps80
  go_wp2
  go_loop [14] (fun i => ∃ k : Nat, k ≤ ts.length ∧ i = .int .i64 k ∧ Hid (∀ j, j < k → okB ts.length (ty ts j) = true)) (fun i => ts.length - (intOf i).toNat)
  case atStart => exact ⟨0, Nat.zero_le _, rfl, Lib.hid none_yet⟩
  case round =>
    obtain ⟨k, hk, rfl, hok⟩ := hrel
    by_cases hlt : k < ts.length
    · obtain ⟨hx, hsx⟩ := HC.out k hlt
      generalize hs : ty ts k = s at hx hsx
      rcases hm : okB ts.length s with _ | _
      · have HM : Hid (okB ts.length s = false) := Lib.hid hm
        have HS := Lib.hid hs
        clear hm hs
        go_wp2_with (go_at_call 98; refine (kmay_f s _ _ hsx (by omega) HM).mono ?_; rintro e w' ⟨rfl, rfl⟩)
        go_ret
        exact ⟨ret_bool (right_ok hlt (by rw [HS.out]; exact HM.out)).symm, rfl⟩
      · have HM : Hid (okB ts.length s = true) := Lib.hid hm
        have HS := Lib.hid hs
        clear hm hs
        go_wp2_with (go_at_call 98; refine (kmay_t s _ _ hsx (by omega) HM).mono ?_; rintro e w' ⟨rfl, rfl⟩)
        go_round
        case rel => exact ⟨k + 1, by omega, by go_num, Lib.hid (all_next hok.out (by rw [HS.out]; exact HM.out))⟩
        case measure => simp [intOf]; omega
    · go_wp2
      go_ret
      obtain rfl : k = ts.length := by omega
      exact ⟨ret_bool (right_iff.2 ⟨by omega, by omega, hok.out⟩).symm, rfl⟩
theorem kright_t (v : Value) (ts : List ByteArray) (w : World) (h : TsAt w v ts) (hr : Hid (rightB ts = true)) : Calls Tryz.prog 80 #[v] w fun e w' => e = .returned (.bool true) ∧ w = w' :=
  (kright_any v ts w h).mono fun e w' ⟨h1, h2⟩ => ⟨by rw [h1, hr.out], h2⟩
theorem kright_f (v : Value) (ts : List ByteArray) (w : World) (h : TsAt w v ts) (hr : Hid (rightB ts = false)) : Calls Tryz.prog 80 #[v] w fun e w' => e = .returned (.bool false) ∧ w = w' :=
  (kright_any v ts w h).mono fun e w' ⟨h1, h2⟩ => ⟨by rw [h1, hr.out], h2⟩
end Go.Proofs.YtapjgobkpehgfaaGreatDoor

/- The document's Right. -/
namespace Go.Proofs.YtapjgobkpehgfaaGreatDoor
set_option linter.unusedSimpArgs false
set_option linter.unusedVariables false
open Go.RowKit

set_option maxHeartbeats 2000000 in
theorem rright_any (v : Value) (ts : List ByteArray) (w : World) (h : TsAt w v ts) : Calls Tryz.prog 48 #[v] w fun e w' => e = .returned (.bool (rightB ts)) ∧ w = w' := by
  obtain ⟨a, c, rfl, h1, h2, h3⟩ := h.cases
  clear h
  rcases h3 with rfl | ⟨b, o, rfl, hb, hc⟩
  · go_enter Tryz.func48, Tryz.ntmps48
    go_wp2
    go_loop [3] (fun i => i = .int .i64 0) (fun _ => 0)
    case atStart => rfl
    case round =>
      subst hrel
      go_wp2
      go_ret
      exact ⟨rfl, rfl⟩
  have HC := Lib.hid hc
  clear hc
  go_enter Tryz.func48, Tryz.ntmps48
  go_wp2
  go_loop [3] (fun i => ∃ k : Nat, k ≤ ts.length ∧ i = .int .i64 k ∧ Hid (∀ j, j < k → okB ts.length (ty ts j) = true)) (fun i => ts.length - (intOf i).toNat)
  case atStart => exact ⟨0, Nat.zero_le _, rfl, Lib.hid none_yet⟩
  case round =>
    obtain ⟨t, ht, rfl, hok⟩ := hrel
    by_cases hlt : t < ts.length
    · obtain ⟨hx, hsx⟩ := HC.out t hlt
      generalize hs : ty ts t = s at hx hsx
      have HS := Lib.hid hs
      clear hs
      go_wp2
      go_loop [5] (fun i => ∃ k : Nat, k ≤ s.size ∧ i = .int .i64 k ∧ Hid (∀ j, j < k → letB ts.length (byt s j) = true)) (fun i => s.size - (intOf i).toNat)
      case atStart => exact ⟨0, Nat.zero_le _, rfl, Lib.hid none_yet⟩
      case round =>
        obtain ⟨k, hk, rfl, hol⟩ := hrel
        by_cases hkt : k < s.size
        · have hb := byt_at hkt
          have hl := byt_lt s k
          generalize hc : byt s k = c at hb hl
          by_cases hi : c = 105
          · have e1 : (((s[k].toNat : Nat) : Int) != 105) = false := by rw [hb, hi]; rfl
            have HL : Hid (letB ts.length (byt s k) = true) := Lib.hid (let_iff.2 (.inl (by rw [hc]; exact hi)))
            clear hb hl hc hi
            go_wp2
            go_round
            case rel => exact ⟨k + 1, by omega, by go_num, Lib.hid (all_next hol.out HL.out)⟩
            case measure => simp [intOf]; omega
          · have e1 : (((s[k].toNat : Nat) : Int) != 105) = true := by rw [hb]; simp; omega
            have hl' : s[k].toNat < 256 := by omega
            have hn' : ts.length ≤ 9223372036854775807 := by omega
            rcases hd : digB ts.length c with _ | _
            · have HD : Hid (digB ts.length s[k].toNat = false) := Lib.hid (by rw [hb]; exact hd)
              have HL : Hid (letB ts.length (byt s k) = false) := Lib.hid (let_no.2 (by rw [hc]; exact ⟨hi, hd⟩))
              clear hb hl hc hi hd
              go_wp2_with (go_at_call 47; refine (rdig_f _ _ _ hl' hn' HD).mono ?_; rintro e w' ⟨rfl, rfl⟩)
              go_ret
              exact ⟨ret_bool (right_ok hlt (by rw [HS.out]; exact ok_let hkt HL.out)).symm, rfl⟩
            · have HD : Hid (digB ts.length s[k].toNat = true) := Lib.hid (by rw [hb]; exact hd)
              have HL : Hid (letB ts.length (byt s k) = true) := Lib.hid (let_iff.2 (.inr (by rw [hc]; exact hd)))
              have hge : ¬ ((s[k].toNat : Nat) : Int) - 48 < 0 := by have := (dig_iff.1 hd).1; omega
              clear hb hl hc hi hd
              go_wp2_with (go_at_call 47; refine (rdig_t _ _ _ hl' hn' HD).mono ?_; rintro e w' ⟨rfl, rfl⟩)
              go_round
              case rel => exact ⟨k + 1, by omega, by go_num, Lib.hid (all_next hol.out HL.out)⟩
              case measure => simp [intOf]; omega
        · by_cases g1 : s.size < 1
          · go_wp2
            go_ret
            exact ⟨ret_bool (right_ok hlt (by rw [HS.out]; exact ok_size (.inl g1))).symm, rfl⟩
          by_cases g2 : 6 < s.size
          · go_wp2
            go_ret
            exact ⟨ret_bool (right_ok hlt (by rw [HS.out]; exact ok_size (.inr g2))).symm, rfl⟩
          have HO : Hid (okB ts.length s = true) := Lib.hid (ok_iff.2 ⟨by omega, by omega, fun j hj => hol.out j (by omega)⟩)
          go_wp2
          go_round
          case rel => exact ⟨t + 1, by omega, by go_num, Lib.hid (all_next hok.out (by rw [HS.out]; exact HO.out))⟩
          case measure => simp [intOf]; omega
    · have HF : Hid (∀ j, j < ts.length → okB ts.length (ty ts j) = true) := Lib.hid (fun j hj => hok.out j (by omega))
      by_cases g1 : ts.length < 1
      · go_wp2
        go_ret
        exact ⟨ret_bool (right_size (.inl g1)).symm, rfl⟩
      by_cases g2 : 8 < ts.length
      · go_wp2
        go_ret
        exact ⟨ret_bool (by rw [right_size (.inr g2)]; simp; omega), rfl⟩
      go_wp2
      go_ret
      exact ⟨ret_bool (by rw [right_iff.2 ⟨by omega, by omega, HF.out⟩]; simp; omega), rfl⟩
theorem rright_t (v : Value) (ts : List ByteArray) (w : World) (h : TsAt w v ts) (hr : Hid (rightB ts = true)) : Calls Tryz.prog 48 #[v] w fun e w' => e = .returned (.bool true) ∧ w = w' :=
  (rright_any v ts w h).mono fun e w' ⟨h1, h2⟩ => ⟨by rw [h1, hr.out], h2⟩
theorem rright_f (v : Value) (ts : List ByteArray) (w : World) (h : TsAt w v ts) (hr : Hid (rightB ts = false)) : Calls Tryz.prog 48 #[v] w fun e w' => e = .returned (.bool false) ∧ w = w' :=
  (rright_any v ts w h).mono fun e w' ⟨h1, h2⟩ => ⟨by rw [h1, hr.out], h2⟩
end Go.Proofs.YtapjgobkpehgfaaGreatDoor
