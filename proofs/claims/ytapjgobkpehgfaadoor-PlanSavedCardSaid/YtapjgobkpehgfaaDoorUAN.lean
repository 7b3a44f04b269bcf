/-
  Contracts: is it one of the types; Size and To (the program's and the document's).
  Contracts: Refs (the program's and the document's).
-/
import Derived.Test.YtapjgobkpehgfaaDoorUAM

/- Contracts: is it one of the types; Size and To (the program's and the document's). -/
namespace Go.Proofs.YtapjgobkpehgfaaDoor
set_option linter.unusedSimpArgs false
set_option linter.unusedVariables false
open Go.RowKit

theorem TsAt.shape {w : World} {v : Value} {ts : List ByteArray} (h : TsAt w v ts) : ∃ a c, v = .slice a ts.length c ∧ ts.length ≤ c ∧ c ≤ 9223372036854775807 := by
  obtain ⟨a, c, rfl, h1, h2, _⟩ := h.cases
  exact ⟨a, c, rfl, h1, h2⟩
/-- The cell of one type. -/
theorem TsAt.one {w : World} {v : Value} {ts : List ByteArray} (h : TsAt w v ts) {n : Nat} (hn : n < ts.length) : ∃ b o c, v = .slice (some ⟨b, o, none⟩) ts.length c ∧ ts.length ≤ c ∧ c ≤ 9223372036854775807 ∧ b < w.heap.size ∧ w.cell? ⟨b, o + n, none⟩ = some (.string (ty ts n)) ∧ (ty ts n).size ≤ 9223372036854775807 := by
  obtain ⟨a, c, rfl, h1, h2, h3⟩ := h.cases
  rcases h3 with rfl | ⟨b, o, rfl, hb, hc⟩
  · exact absurd hn (by simp)
  · exact ⟨b, o, c, rfl, h1, h2, hb, hc n hn⟩
theorem one_lt {ts : List ByteArray} {t : Int} (h : oneB ts t = true) : ∃ n : Nat, t = n ∧ n < ts.length ∧ rightB ts = true := by
  obtain ⟨h0, h1, h2⟩ := one_iff.1 h
  exact ⟨t.toNat, by omega, by omega, h2⟩

theorem kone_any (v : Value) (ts : List ByteArray) (t : Int) (w : World) (h : TsAt w v ts) : Calls Tryd.prog 70 #[v, .int .i64 t] w fun e w' => e = .returned (.bool (oneB ts t)) ∧ w = w' := by
  have H := Lib.hid h
  obtain ⟨a, c, rfl, h1, h2⟩ := h.shape
  clear h
  by_cases h0 : t < 0
  · go_enter Tryd.func70, Tryd.ntmps70
    go_wp2
    go_ret
    exact ⟨ret_bool (one_no.2 (.inl (.inl h0))).symm, rfl⟩
  by_cases h3 : (ts.length : Int) ≤ t
  · go_enter Tryd.func70, Tryd.ntmps70
    go_wp2
    go_ret
    exact ⟨ret_bool (one_no.2 (.inl (.inr h3))).symm, rfl⟩
  rcases hr : rightB ts with _ | _
  · have HR := Lib.hid hr
    clear hr
    go_enter Tryd.func70, Tryd.ntmps70
    go_wp2_with (go_at_call 42; refine (kright_f _ ts _ H.out HR).mono ?_; rintro e w' ⟨rfl, rfl⟩)
    go_ret
    exact ⟨ret_bool (one_no.2 (.inr HR.out)).symm, rfl⟩
  · have HR := Lib.hid hr
    clear hr
    go_enter Tryd.func70, Tryd.ntmps70
    go_wp2_with (go_at_call 42; refine (kright_t _ ts _ H.out HR).mono ?_; rintro e w' ⟨rfl, rfl⟩)
    go_ret
    exact ⟨ret_bool (one_iff.2 ⟨by omega, by omega, HR.out⟩).symm, rfl⟩
theorem kone_t (v : Value) (ts : List ByteArray) (t : Int) (w : World) (h : TsAt w v ts) (hr : Hid (oneB ts t = true)) : Calls Tryd.prog 70 #[v, .int .i64 t] w fun e w' => e = .returned (.bool true) ∧ w = w' :=
  (kone_any v ts t w h).mono fun e w' ⟨h1, h2⟩ => ⟨by rw [h1, hr.out], h2⟩
theorem kone_f (v : Value) (ts : List ByteArray) (t : Int) (w : World) (h : TsAt w v ts) (hr : Hid (oneB ts t = false)) : Calls Tryd.prog 70 #[v, .int .i64 t] w fun e w' => e = .returned (.bool false) ∧ w = w' :=
  (kone_any v ts t w h).mono fun e w' ⟨h1, h2⟩ => ⟨by rw [h1, hr.out], h2⟩
theorem pts_i (c : Nat) (w : World) (hc : c = 105) : Calls Tryd.prog 85 #[.int .u8 c] w fun e w' => e = .returned (.int .i64 (-1)) ∧ w = w' := by
  subst hc
  go_enter Tryd.func85, Tryd.ntmps85
  go_wp2
  go_ret
  exact ⟨rfl, rfl⟩
theorem pts_d (c : Nat) (w : World) (h0 : 48 ≤ c) (h1 : c < 256) (h2 : c ≠ 105) : Calls Tryd.prog 85 #[.int .u8 c] w fun e w' => e = .returned (.int .i64 ((c : Int) - 48)) ∧ w = w' := by
  have h3 : (((c : Nat) : Int) == 105) = false := by simp; omega
  go_enter Tryd.func85, Tryd.ntmps85
  go_wp2
  go_ret
  exact ⟨rfl, rfl⟩

theorem ksize_any (v : Value) (ts : List ByteArray) (t : Int) (w : World) (h : TsAt w v ts) : Calls Tryd.prog 56 #[v, .int .i64 t] w fun e w' => e = .returned (.int .i64 (sizeI ts t)) ∧ w = w' := by
  have H := Lib.hid h
  rcases hr : oneB ts t with _ | _
  · have HR := Lib.hid hr
    have e1 : sizeI ts t = 0 := by unfold sizeI; rw [hr]; rfl
    rw [e1]
    clear hr h e1
    go_enter Tryd.func56, Tryd.ntmps56
    go_wp2_with (go_at_call 70; refine (kone_f _ ts _ _ H.out HR).mono ?_; rintro e w' ⟨rfl, rfl⟩)
    go_ret
    exact ⟨rfl, rfl⟩
  · have HR := Lib.hid hr
    have e1 : sizeI ts t = (ty ts t.toNat).size := by unfold sizeI; rw [hr]; rfl
    obtain ⟨n, rfl, hn, _⟩ := one_lt hr
    obtain ⟨b, o, c, rfl, h1, h2, hb, hc, hs⟩ := h.one hn
    simp only [Int.toNat_natCast] at e1
    rw [e1]
    clear hr h e1
    go_enter Tryd.func56, Tryd.ntmps56
    go_wp2_with (go_at_call 70; refine (kone_t _ ts _ _ H.out HR).mono ?_; rintro e w' ⟨rfl, rfl⟩)
    go_ret
    exact ⟨rfl, rfl⟩
theorem to_not {ts : List ByteArray} {t f : Int} (h : oneB ts t = false) : toI ts t f = -1 := by
  unfold toI; rw [h, if_neg]; simp
theorem to_out {ts : List ByteArray} {n : Nat} {f : Int} (h : f < 0 ∨ ((ty ts n).size : Int) ≤ f) : toI ts n f = -1 := by
  unfold toI; rw [if_neg]
  simp only [Int.toNat_natCast]
  omega
theorem to_in {ts : List ByteArray} {n k : Nat} (h : oneB ts n = true) (hk : k < (ty ts n).size) : toI ts n k = ptrI (byt (ty ts n) k) := by
  unfold toI
  simp only [Int.toNat_natCast]
  rw [if_pos ⟨h, by omega, by omega⟩]
theorem to_i {ts : List ByteArray} {n k : Nat} (h : oneB ts n = true) (hk : k < (ty ts n).size) (hc : byt (ty ts n) k = 105) : toI ts n k = -1 := by
  rw [to_in h hk, hc]; rfl
theorem to_d {ts : List ByteArray} {n k : Nat} (h : oneB ts n = true) (hk : k < (ty ts n).size) (hc : byt (ty ts n) k ≠ 105) : toI ts n k = (byt (ty ts n) k : Int) - 48 := by
  rw [to_in h hk, ptr_d hc]
/-- A letter of types that may be is i or the digit of one. -/
theorem right_let {ts : List ByteArray} (h : rightB ts = true) {n k : Nat} (hn : n < ts.length) (hk : k < (ty ts n).size) : byt (ty ts n) k = 105 ∨ digB ts.length (byt (ty ts n) k) = true :=
  let_iff.1 ((ok_iff.1 ((right_iff.1 h).2.2 n hn)).2.2 k hk)
theorem right_ty {ts : List ByteArray} (h : rightB ts = true) {n : Nat} (hn : n < ts.length) : 1 ≤ (ty ts n).size ∧ (ty ts n).size ≤ 6 :=
  ⟨(ok_iff.1 ((right_iff.1 h).2.2 n hn)).1, (ok_iff.1 ((right_iff.1 h).2.2 n hn)).2.1⟩

set_option maxHeartbeats 1000000 in
theorem kto_any (v : Value) (ts : List ByteArray) (t f : Int) (w : World) (h : TsAt w v ts) : Calls Tryd.prog 73 #[v, .int .i64 t, .int .i64 f] w fun e w' => e = .returned (.int .i64 (toI ts t f)) ∧ w = w' := by
  have H := Lib.hid h
  rcases hr : oneB ts t with _ | _
  · have HR := Lib.hid hr
    rw [to_not hr]
    clear hr h
    go_enter Tryd.func73, Tryd.ntmps73
    go_wp2_with (go_at_call 70; refine (kone_f _ ts _ _ H.out HR).mono ?_; rintro e w' ⟨rfl, rfl⟩)
    go_ret
    exact ⟨rfl, rfl⟩
  have HR := Lib.hid hr
  obtain ⟨n, rfl, hn, hri⟩ := one_lt hr
  obtain ⟨b, o, c, rfl, h1, h2, hb, hc, hs⟩ := h.one hn
  by_cases h0 : f < 0
  · rw [to_out (.inl h0)]
    clear hr h
    go_enter Tryd.func73, Tryd.ntmps73
    go_wp2_with (go_at_call 70; refine (kone_t _ ts _ _ H.out HR).mono ?_; rintro e w' ⟨rfl, rfl⟩)
    go_ret
    exact ⟨rfl, rfl⟩
  by_cases h3 : ((ty ts n).size : Int) ≤ f
  · rw [to_out (.inr h3)]
    clear hr h
    go_enter Tryd.func73, Tryd.ntmps73
    go_wp2_with (go_at_call 70; refine (kone_t _ ts _ _ H.out HR).mono ?_; rintro e w' ⟨rfl, rfl⟩)
    go_ret
    exact ⟨rfl, rfl⟩
  obtain ⟨k, rfl⟩ : ∃ k : Nat, f = k := ⟨f.toNat, by omega⟩
  have hk : k < (ty ts n).size := by omega
  have hl := right_let hri hn hk
  have hby := byt_at hk
  have hlt := byt_lt (ty ts n) k
  by_cases hi : byt (ty ts n) k = 105
  · rw [to_i hr hk hi]
    rw [hi] at hby
    have HB := Lib.hid hby
    clear hr h hl hri hlt hi h0 h3 hby
    generalize ty ts n = s at hc hs hk HB
    go_enter Tryd.func73, Tryd.ntmps73
    go_wp2_with (first
      | (go_at_call 70; refine (kone_t _ ts _ _ H.out HR).mono ?_; rintro e w' ⟨rfl, rfl⟩)
      | (go_at_call 85; refine (pts_i _ _ HB.out).mono ?_; rintro e w' ⟨rfl, rfl⟩))
    go_ret
    exact ⟨rfl, rfl⟩
  · rw [to_d hr hk hi]
    have hd := (dig_iff.1 (hl.resolve_left hi)).1
    rw [← hby] at hd hlt hi ⊢
    clear hr h hl hri hby h0 h3
    generalize ty ts n = s at hc hs hk hd hlt hi ⊢
    have HI := Lib.hid hi
    clear hi
    go_enter Tryd.func73, Tryd.ntmps73
    go_wp2_with (first
      | (go_at_call 70; refine (kone_t _ ts _ _ H.out HR).mono ?_; rintro e w' ⟨rfl, rfl⟩)
      | (go_at_call 85; refine (pts_d _ _ hd hlt HI.out).mono ?_; rintro e w' ⟨rfl, rfl⟩))
    go_ret
    exact ⟨rfl, rfl⟩
end Go.Proofs.YtapjgobkpehgfaaDoor

/- Contracts: Refs (the program's and the document's). -/
namespace Go.Proofs.YtapjgobkpehgfaaDoor
set_option linter.unusedSimpArgs false
set_option linter.unusedVariables false
open Go.RowKit

set_option maxHeartbeats 1000000 in
theorem krefs_any (v : Value) (ts : List ByteArray) (s : ByteArray) (w : World) (h : TsAt w v ts) (hs : s.size ≤ 9223372036854775807) : Calls Tryd.prog 43 #[v, .string s] w fun e w' => e = .returned (.bool (refsB ts s)) ∧ w = w' := by
  have H := Lib.hid h
  obtain ⟨a, c, rfl, h1, h2⟩ := h.shape
  clear h
  rcases hr : rightB ts with _ | _
  · have HR := Lib.hid hr
    rw [refs_right hr]
    clear hr
    go_enter Tryd.func43, Tryd.ntmps43
    go_wp2_with (go_at_call 42; refine (kright_f _ ts _ H.out HR).mono ?_; rintro e w' ⟨rfl, rfl⟩)
    go_ret
    exact ⟨rfl, rfl⟩
  have HR := Lib.hid hr
  clear hr
  have hn : ts.length ≤ 9223372036854775807 := by omega
  go_enter Tryd.func43, Tryd.ntmps43
  go_wp2_with (go_at_call 42; refine (kright_t _ ts _ H.out HR).mono ?_; rintro e w' ⟨rfl, rfl⟩)
  go_loop [11] (fun i => ∃ k : Nat, k ≤ s.size ∧ i = .int .i64 k ∧ Hid (∀ j, j < k → digB ts.length (byt s j) = true)) (fun i => s.size - (intOf i).toNat)
  case atStart => exact ⟨0, Nat.zero_le _, rfl, Lib.hid none_yet⟩
  case round =>
    obtain ⟨k, hk, rfl, hol⟩ := hrel
    by_cases hlt : k < s.size
    · have hb := byt_at hlt
      have hl := byt_lt s k
      have hl' : s[k].toNat < 256 := by omega
      rcases hd : digB ts.length (byt s k) with _ | _
      · have HD : Hid (digB ts.length s[k].toNat = false) := Lib.hid (by rw [hb]; exact hd)
        have HE := Lib.hid hd
        clear hb hl hd
        go_wp2_with (go_at_call 59; refine (kdig_f _ _ _ hl' hn HD).mono ?_; rintro e w' ⟨rfl, rfl⟩)
        go_ret
        exact ⟨ret_bool (refs_no hlt HE.out).symm, rfl⟩
      · have HD : Hid (digB ts.length s[k].toNat = true) := Lib.hid (by rw [hb]; exact hd)
        have HE := Lib.hid hd
        clear hb hl hd
        go_wp2_with (go_at_call 59; refine (kdig_t _ _ _ hl' hn HD).mono ?_; rintro e w' ⟨rfl, rfl⟩)
        go_round
        case rel => exact ⟨k + 1, by omega, by go_num, Lib.hid (all_next hol.out HE.out)⟩
        case measure => simp [intOf]; omega
    · go_wp2
      go_ret
      obtain rfl : k = s.size := by omega
      exact ⟨ret_bool (refs_iff.2 ⟨HR.out, hol.out⟩).symm, rfl⟩

end Go.Proofs.YtapjgobkpehgfaaDoor
