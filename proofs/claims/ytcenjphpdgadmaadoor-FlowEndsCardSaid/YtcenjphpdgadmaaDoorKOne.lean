/-
  Contracts: is it one of the types; Size and To (the program's and the document's).
-/
import Derived.Test.YtcenjphpdgadmaaDoorKRightR
namespace Go.Proofs.YtcenjphpdgadmaaDoor
set_option linter.unusedSimpArgs false
set_option linter.unusedVariables false
open Go.RowKit

theorem TsAt.shape {w : World} {v : Value} {ts : List ByteArray} (h : TsAt w v ts) : ∃ a c, v = .slice a ts.length c ∧ ts.length ≤ c ∧ c ≤ 9223372036854775807 := by
  obtain ⟨a, c, rfl, h1, h2, _⟩ := h.cases
  exact ⟨a, c, rfl, h1, h2⟩
/-- The cell of one type. -/
theorem TsAt.one {w : World} {v : Value} {ts : List ByteArray} (h : TsAt w v ts) {n : Nat} (hn : n < ts.length) : ∃ b o c, v = .slice (some ⟨b, o, none⟩) ts.length c ∧ ts.length ≤ c ∧ c ≤ 9223372036854775807 ∧ b < w.heap.size ∧ w.cell? ⟨b, o + n, none⟩ = some (.string (ty ts n)) ∧ (ty ts n).size ≤ 9223372036854775807 := by
  obtain ⟨a, c, rfl, h1, h2, h3⟩ := h.cases
  rcases h3 with rfl | ⟨b, o, rfl, hb, hc⟩
  · exact absurd hn (by simp)
  · exact ⟨b, o, c, rfl, h1, h2, hb, hc n hn⟩
theorem one_lt {ts : List ByteArray} {t : Int} (h : oneB ts t = true) : ∃ n : Nat, t = n ∧ n < ts.length ∧ rightB ts = true := by
  obtain ⟨h0, h1, h2⟩ := one_iff.1 h
  exact ⟨t.toNat, by omega, by omega, h2⟩

theorem ris_any (v : Value) (ts : List ByteArray) (t : Int) (w : World) (h : TsAt w v ts) : Calls Tryd.prog 60 #[v, .int .i64 t] w fun e w' => e = .returned (.bool (oneB ts t)) ∧ w = w' := by
  have H := Lib.hid h
  obtain ⟨a, c, rfl, h1, h2⟩ := h.shape
  clear h
  rcases hr : rightB ts with _ | _
  · have HR := Lib.hid hr
    clear hr
    go_enter Tryd.func60, Tryd.ntmps60
    go_wp2_with (go_at_call 41; refine (rright_f _ ts _ H.out HR).mono ?_; rintro e w' ⟨rfl, rfl⟩)
    go_ret
    exact ⟨ret_bool (one_no.2 (.inr HR.out)).symm, rfl⟩
  have HR := Lib.hid hr
  clear hr
  by_cases h0 : t < 0
  · go_enter Tryd.func60, Tryd.ntmps60
    go_wp2_with (go_at_call 41; refine (rright_t _ ts _ H.out HR).mono ?_; rintro e w' ⟨rfl, rfl⟩)
    go_ret
    exact ⟨ret_bool (one_no.2 (.inl (.inl h0))).symm, rfl⟩
  by_cases h3 : (ts.length : Int) ≤ t
  · go_enter Tryd.func60, Tryd.ntmps60
    go_wp2_with (go_at_call 41; refine (rright_t _ ts _ H.out HR).mono ?_; rintro e w' ⟨rfl, rfl⟩)
    go_ret
    exact ⟨ret_bool (by rw [one_no.2 (.inl (.inr h3))]; exact decide_eq_false (by omega)), rfl⟩
  go_enter Tryd.func60, Tryd.ntmps60
  go_wp2_with (go_at_call 41; refine (rright_t _ ts _ H.out HR).mono ?_; rintro e w' ⟨rfl, rfl⟩)
  go_ret
  exact ⟨ret_bool (one_iff.2 ⟨by omega, by omega, HR.out⟩).symm, rfl⟩
theorem ris_t (v : Value) (ts : List ByteArray) (t : Int) (w : World) (h : TsAt w v ts) (hr : Hid (oneB ts t = true)) : Calls Tryd.prog 60 #[v, .int .i64 t] w fun e w' => e = .returned (.bool true) ∧ w = w' :=
  (ris_any v ts t w h).mono fun e w' ⟨h1, h2⟩ => ⟨by rw [h1, hr.out], h2⟩
theorem ris_f (v : Value) (ts : List ByteArray) (t : Int) (w : World) (h : TsAt w v ts) (hr : Hid (oneB ts t = false)) : Calls Tryd.prog 60 #[v, .int .i64 t] w fun e w' => e = .returned (.bool false) ∧ w = w' :=
  (ris_any v ts t w h).mono fun e w' ⟨h1, h2⟩ => ⟨by rw [h1, hr.out], h2⟩

theorem rsize_any (v : Value) (ts : List ByteArray) (t : Int) (w : World) (h : TsAt w v ts) : Calls Tryd.prog 37 #[v, .int .i64 t] w fun e w' => e = .returned (.int .i64 (sizeI ts t)) ∧ w = w' := by
  have H := Lib.hid h
  rcases hr : oneB ts t with _ | _
  · have HR := Lib.hid hr
    have e1 : sizeI ts t = 0 := by unfold sizeI; rw [hr]; rfl
    rw [e1]
    clear hr h e1
    go_enter Tryd.func37, Tryd.ntmps37
    go_wp2_with (go_at_call 60; refine (ris_f _ ts _ _ H.out HR).mono ?_; rintro e w' ⟨rfl, rfl⟩)
    go_ret
    exact ⟨rfl, rfl⟩
  · have HR := Lib.hid hr
    have e1 : sizeI ts t = (ty ts t.toNat).size := by unfold sizeI; rw [hr]; rfl
    obtain ⟨n, rfl, hn, _⟩ := one_lt hr
    obtain ⟨b, o, c, rfl, h1, h2, hb, hc, hs⟩ := h.one hn
    simp only [Int.toNat_natCast] at e1
    rw [e1]
    clear hr h e1
    go_enter Tryd.func37, Tryd.ntmps37
    go_wp2_with (go_at_call 60; refine (ris_t _ ts _ _ H.out HR).mono ?_; rintro e w' ⟨rfl, rfl⟩)
    go_ret
    exact ⟨rfl, rfl⟩
theorem to_not {ts : List ByteArray} {t f : Int} (h : oneB ts t = false) : toI ts t f = -1 := by
  unfold toI; rw [h, if_neg]; simp
theorem to_out {ts : List ByteArray} {n : Nat} {f : Int} (h : f < 0 ∨ ((ty ts n).size : Int) ≤ f) : toI ts n f = -1 := by
  unfold toI; rw [if_neg]
  simp only [Int.toNat_natCast]
  omega
theorem to_in {ts : List ByteArray} {n k : Nat} (h : oneB ts n = true) (hk : k < (ty ts n).size) : toI ts n k = ptrI (byt (ty ts n) k) := by
  unfold toI
  simp only [Int.toNat_natCast]
  rw [if_pos ⟨h, by omega, by omega⟩]
theorem to_i {ts : List ByteArray} {n k : Nat} (h : oneB ts n = true) (hk : k < (ty ts n).size) (hc : byt (ty ts n) k = 105) : toI ts n k = -1 := by
  rw [to_in h hk, hc]; rfl
theorem to_d {ts : List ByteArray} {n k : Nat} (h : oneB ts n = true) (hk : k < (ty ts n).size) (hc : byt (ty ts n) k ≠ 105) : toI ts n k = (byt (ty ts n) k : Int) - 48 := by
  rw [to_in h hk, ptr_d hc]
/-- A letter of types that may be is i or the digit of one. -/
theorem right_let {ts : List ByteArray} (h : rightB ts = true) {n k : Nat} (hn : n < ts.length) (hk : k < (ty ts n).size) : byt (ty ts n) k = 105 ∨ digB ts.length (byt (ty ts n) k) = true :=
  let_iff.1 ((ok_iff.1 ((right_iff.1 h).2.2 n hn)).2.2 k hk)
theorem right_len {ts : List ByteArray} (h : rightB ts = true) : 1 ≤ ts.length ∧ ts.length ≤ 8 := ⟨(right_iff.1 h).1, (right_iff.1 h).2.1⟩
theorem right_ty {ts : List ByteArray} (h : rightB ts = true) {n : Nat} (hn : n < ts.length) : 1 ≤ (ty ts n).size ∧ (ty ts n).size ≤ 6 :=
  ⟨(ok_iff.1 ((right_iff.1 h).2.2 n hn)).1, (ok_iff.1 ((right_iff.1 h).2.2 n hn)).2.1⟩

set_option maxHeartbeats 1000000 in
theorem rto_any (v : Value) (ts : List ByteArray) (t f : Int) (w : World) (h : TsAt w v ts) : Calls Tryd.prog 67 #[v, .int .i64 t, .int .i64 f] w fun e w' => e = .returned (.int .i64 (toI ts t f)) ∧ w = w' := by
  have H := Lib.hid h
  rcases hr : oneB ts t with _ | _
  · have HR := Lib.hid hr
    rw [to_not hr]
    clear hr h
    go_enter Tryd.func67, Tryd.ntmps67
    go_wp2_with (go_at_call 60; refine (ris_f _ ts _ _ H.out HR).mono ?_; rintro e w' ⟨rfl, rfl⟩)
    go_ret
    exact ⟨rfl, rfl⟩
  have HR := Lib.hid hr
  obtain ⟨n, rfl, hn, hri⟩ := one_lt hr
  obtain ⟨b, o, c, rfl, h1, h2, hb, hc, hs⟩ := h.one hn
  by_cases h0 : f < 0
  · rw [to_out (.inl h0)]
    clear hr h
    go_enter Tryd.func67, Tryd.ntmps67
    go_wp2_with (go_at_call 60; refine (ris_t _ ts _ _ H.out HR).mono ?_; rintro e w' ⟨rfl, rfl⟩)
    go_ret
    exact ⟨rfl, rfl⟩
  by_cases h3 : ((ty ts n).size : Int) ≤ f
  · rw [to_out (.inr h3)]
    clear hr h
    go_enter Tryd.func67, Tryd.ntmps67
    go_wp2_with (go_at_call 60; refine (ris_t _ ts _ _ H.out HR).mono ?_; rintro e w' ⟨rfl, rfl⟩)
    go_ret
    exact ⟨rfl, rfl⟩
  obtain ⟨k, rfl⟩ : ∃ k : Nat, f = k := ⟨f.toNat, by omega⟩
  have hk : k < (ty ts n).size := by omega
  have hl := right_let hri hn hk
  have hby := byt_at hk
  have hlt := byt_lt (ty ts n) k
  have h8 := (right_len hri).2
  have hL : ts.length ≤ 9223372036854775807 := by omega
  by_cases hi : byt (ty ts n) k = 105
  · rw [to_i hr hk hi]
    rw [hi] at hby
    have hd : Hid (digB ts.length (ty ts n)[k].toNat = false) := Lib.hid (by rw [hby]; exact dig_no.2 (by omega))
    have hl' : (ty ts n)[k].toNat < 256 := by omega
    clear hr h hl hri hlt hi h0 h3 hby
    generalize ty ts n = s at hc hs hk hd hl'
    go_enter Tryd.func67, Tryd.ntmps67
    go_wp2_with (first
      | (go_at_call 60; refine (ris_t _ ts _ _ H.out HR).mono ?_; rintro e w' ⟨rfl, rfl⟩)
      | (go_at_call 40; refine (rdig_f _ _ _ hl' hL hd).mono ?_; rintro e w' ⟨rfl, rfl⟩))
    go_ret
    exact ⟨rfl, rfl⟩
  · rw [to_d hr hk hi]
    have hd := Lib.hid (hl.resolve_left hi)
    rw [← hby] at hd hlt ⊢
    clear hr h hl hri hby h0 h3 hi
    generalize ty ts n = s at hc hs hk hd hlt ⊢
    go_enter Tryd.func67, Tryd.ntmps67
    go_wp2_with (first
      | (go_at_call 60; refine (ris_t _ ts _ _ H.out HR).mono ?_; rintro e w' ⟨rfl, rfl⟩)
      | (go_at_call 40; refine (rdig_t _ _ _ hlt hL hd).mono ?_; rintro e w' ⟨rfl, rfl⟩))
    go_ret
    exact ⟨rfl, rfl⟩
end Go.Proofs.YtcenjphpdgadmaaDoor
