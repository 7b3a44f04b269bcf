/-
  Contracts: letters and digits; whether types may be (the program's and the document's).
  The document's Right.
  Contracts: is it one of the types; Size and To (the program's and the document's).
  Contracts: Refs (the program's and the document's).
-/
import Derived.Test.YtjkpbajojgdooaaDoorBRB

/- Contracts: letters and digits; whether types may be (the program's and the document's). -/
namespace Go.Proofs.YtjkpbajojgdooaaDoor
set_option linter.unusedSimpArgs false
set_option linter.unusedVariables false
open Go.RowKit

/-- The document's digit: the type that a letter names; -1: it names none. -/
theorem rdig_t (c n : Nat) (w : World) (hc : c < 256) (hn : n ≤ 9223372036854775807) (h : Hid (digB n c = true)) : Calls Tryd.prog 22 #[.int .u8 c, .int .i64 n] w fun e w' => e = .returned (.int .i64 ((c : Int) - 48)) ∧ w = w' := by
  have h1 := (dig_iff.1 h.out).1
  have h2 := (dig_iff.1 h.out).2
  clear h
  have h3 : ¬ c < 48 := by omega
  have h4 : ¬ (n : Int) ≤ (c : Int) - 48 := by omega
  go_enter Tryd.func22, Tryd.ntmps22
  go_wp2
  go_ret
  exact ⟨rfl, rfl⟩
theorem rdig_f (c n : Nat) (w : World) (hc : c < 256) (hn : n ≤ 9223372036854775807) (h : Hid (digB n c = false)) : Calls Tryd.prog 22 #[.int .u8 c, .int .i64 n] w fun e w' => e = .returned (.int .i64 (-1)) ∧ w = w' := by
  have h1 := dig_no.1 h.out
  clear h
  by_cases h0 : 48 ≤ c
  · have h3 : ¬ c < 48 := by omega
    have h4 : (n : Int) ≤ (c : Int) - 48 := by omega
    clear h1
    go_enter Tryd.func22, Tryd.ntmps22
    go_wp2
    go_ret
    exact ⟨rfl, rfl⟩
  · have h3 : c < 48 := by omega
    clear h1
    go_enter Tryd.func22, Tryd.ntmps22
    go_wp2
    go_ret
    exact ⟨rfl, rfl⟩

theorem all_next {P : Nat → Prop} {k : Nat} (h : ∀ j, j < k → P j) (hk : P k) : ∀ j, j < k + 1 → P j := by
  intro j hj
  rcases Nat.lt_or_ge j k with h1 | h1
  · exact h j h1
  · obtain rfl : j = k := by omega
    exact hk
theorem none_yet {P : Nat → Prop} : ∀ j, j < 0 → P j := fun j hj => absurd hj (by omega)

end Go.Proofs.YtjkpbajojgdooaaDoor

/- The document's Right. -/
namespace Go.Proofs.YtjkpbajojgdooaaDoor
set_option linter.unusedSimpArgs false
set_option linter.unusedVariables false
open Go.RowKit

set_option maxHeartbeats 2000000 in
theorem rright_any (v : Value) (ts : List ByteArray) (w : World) (h : TsAt w v ts) : Calls Tryd.prog 33 #[v] w fun e w' => e = .returned (.bool (rightB ts)) ∧ w = w' := by
  obtain ⟨a, c, rfl, h1, h2, h3⟩ := h.cases
  clear h
  rcases h3 with rfl | ⟨b, o, rfl, hb, hc⟩
  · go_enter Tryd.func33, Tryd.ntmps33
    go_wp2
    go_loop [3] (fun i => i = .int .i64 0) (fun _ => 0)
    case atStart => rfl
    case round =>
      subst hrel
      go_wp2
      go_ret
      exact ⟨rfl, rfl⟩
  have HC := Lib.hid hc
  clear hc
  go_enter Tryd.func33, Tryd.ntmps33
  go_wp2
  go_loop [3] (fun i => ∃ k : Nat, k ≤ ts.length ∧ i = .int .i64 k ∧ Hid (∀ j, j < k → okB ts.length (ty ts j) = true)) (fun i => ts.length - (intOf i).toNat)
  case atStart => exact ⟨0, Nat.zero_le _, rfl, Lib.hid none_yet⟩
  case round =>
    obtain ⟨t, ht, rfl, hok⟩ := hrel
    by_cases hlt : t < ts.length
    · obtain ⟨hx, hsx⟩ := HC.out t hlt
      generalize hs : ty ts t = s at hx hsx
      have HS := Lib.hid hs
      clear hs
      go_wp2
      go_loop [5] (fun i => ∃ k : Nat, k ≤ s.size ∧ i = .int .i64 k ∧ Hid (∀ j, j < k → letB ts.length (byt s j) = true)) (fun i => s.size - (intOf i).toNat)
      case atStart => exact ⟨0, Nat.zero_le _, rfl, Lib.hid none_yet⟩
      case round =>
        obtain ⟨k, hk, rfl, hol⟩ := hrel
        by_cases hkt : k < s.size
        · have hb := byt_at hkt
          have hl := byt_lt s k
          generalize hc : byt s k = c at hb hl
          by_cases hi : c = 105
          · have e1 : (((s[k].toNat : Nat) : Int) != 105) = false := by rw [hb, hi]; rfl
            have HL : Hid (letB ts.length (byt s k) = true) := Lib.hid (let_iff.2 (.inl (by rw [hc]; exact hi)))
            clear hb hl hc hi
            go_wp2
            go_round
            case rel => exact ⟨k + 1, by omega, by go_num, Lib.hid (all_next hol.out HL.out)⟩
            case measure => simp [intOf]; omega
          · have e1 : (((s[k].toNat : Nat) : Int) != 105) = true := by rw [hb]; simp; omega
            have hl' : s[k].toNat < 256 := by omega
            have hn' : ts.length ≤ 9223372036854775807 := by omega
            rcases hd : digB ts.length c with _ | _
            · have HD : Hid (digB ts.length s[k].toNat = false) := Lib.hid (by rw [hb]; exact hd)
              have HL : Hid (letB ts.length (byt s k) = false) := Lib.hid (let_no.2 (by rw [hc]; exact ⟨hi, hd⟩))
              clear hb hl hc hi hd
              go_wp2_with (go_at_call 22; refine (rdig_f _ _ _ hl' hn' HD).mono ?_; rintro e w' ⟨rfl, rfl⟩)
              go_ret
              exact ⟨ret_bool (right_ok hlt (by rw [HS.out]; exact ok_let hkt HL.out)).symm, rfl⟩
            · have HD : Hid (digB ts.length s[k].toNat = true) := Lib.hid (by rw [hb]; exact hd)
              have HL : Hid (letB ts.length (byt s k) = true) := Lib.hid (let_iff.2 (.inr (by rw [hc]; exact hd)))
              have hge : ¬ ((s[k].toNat : Nat) : Int) - 48 < 0 := by have := (dig_iff.1 hd).1; omega
              clear hb hl hc hi hd
              go_wp2_with (go_at_call 22; refine (rdig_t _ _ _ hl' hn' HD).mono ?_; rintro e w' ⟨rfl, rfl⟩)
              go_round
              case rel => exact ⟨k + 1, by omega, by go_num, Lib.hid (all_next hol.out HL.out)⟩
              case measure => simp [intOf]; omega
        · by_cases g1 : s.size < 1
          · go_wp2
            go_ret
            exact ⟨ret_bool (right_ok hlt (by rw [HS.out]; exact ok_size (.inl g1))).symm, rfl⟩
          by_cases g2 : 6 < s.size
          · go_wp2
            go_ret
            exact ⟨ret_bool (right_ok hlt (by rw [HS.out]; exact ok_size (.inr g2))).symm, rfl⟩
          have HO : Hid (okB ts.length s = true) := Lib.hid (ok_iff.2 ⟨by omega, by omega, fun j hj => hol.out j (by omega)⟩)
          go_wp2
          go_round
          case rel => exact ⟨t + 1, by omega, by go_num, Lib.hid (all_next hok.out (by rw [HS.out]; exact HO.out))⟩
          case measure => simp [intOf]; omega
    · have HF : Hid (∀ j, j < ts.length → okB ts.length (ty ts j) = true) := Lib.hid (fun j hj => hok.out j (by omega))
      by_cases g1 : ts.length < 1
      · go_wp2
        go_ret
        exact ⟨ret_bool (right_size (.inl g1)).symm, rfl⟩
      by_cases g2 : 8 < ts.length
      · go_wp2
        go_ret
        exact ⟨ret_bool (by rw [right_size (.inr g2)]; simp; omega), rfl⟩
      go_wp2
      go_ret
      exact ⟨ret_bool (by rw [right_iff.2 ⟨by omega, by omega, HF.out⟩]; simp; omega), rfl⟩
theorem rright_t (v : Value) (ts : List ByteArray) (w : World) (h : TsAt w v ts) (hr : Hid (rightB ts = true)) : Calls Tryd.prog 33 #[v] w fun e w' => e = .returned (.bool true) ∧ w = w' :=
  (rright_any v ts w h).mono fun e w' ⟨h1, h2⟩ => ⟨by rw [h1, hr.out], h2⟩
theorem rright_f (v : Value) (ts : List ByteArray) (w : World) (h : TsAt w v ts) (hr : Hid (rightB ts = false)) : Calls Tryd.prog 33 #[v] w fun e w' => e = .returned (.bool false) ∧ w = w' :=
  (rright_any v ts w h).mono fun e w' ⟨h1, h2⟩ => ⟨by rw [h1, hr.out], h2⟩
end Go.Proofs.YtjkpbajojgdooaaDoor

/- Contracts: is it one of the types; Size and To (the program's and the document's). -/
namespace Go.Proofs.YtjkpbajojgdooaaDoor
set_option linter.unusedSimpArgs false
set_option linter.unusedVariables false
open Go.RowKit

theorem TsAt.shape {w : World} {v : Value} {ts : List ByteArray} (h : TsAt w v ts) : ∃ a c, v = .slice a ts.length c ∧ ts.length ≤ c ∧ c ≤ 9223372036854775807 := by
  obtain ⟨a, c, rfl, h1, h2, _⟩ := h.cases
  exact ⟨a, c, rfl, h1, h2⟩
/-- The cell of one type. -/
theorem TsAt.one {w : World} {v : Value} {ts : List ByteArray} (h : TsAt w v ts) {n : Nat} (hn : n < ts.length) : ∃ b o c, v = .slice (some ⟨b, o, none⟩) ts.length c ∧ ts.length ≤ c ∧ c ≤ 9223372036854775807 ∧ b < w.heap.size ∧ w.cell? ⟨b, o + n, none⟩ = some (.string (ty ts n)) ∧ (ty ts n).size ≤ 9223372036854775807 := by
  obtain ⟨a, c, rfl, h1, h2, h3⟩ := h.cases
  rcases h3 with rfl | ⟨b, o, rfl, hb, hc⟩
  · exact absurd hn (by simp)
  · exact ⟨b, o, c, rfl, h1, h2, hb, hc n hn⟩
theorem one_lt {ts : List ByteArray} {t : Int} (h : oneB ts t = true) : ∃ n : Nat, t = n ∧ n < ts.length ∧ rightB ts = true := by
  obtain ⟨h0, h1, h2⟩ := one_iff.1 h
  exact ⟨t.toNat, by omega, by omega, h2⟩

theorem ris_any (v : Value) (ts : List ByteArray) (t : Int) (w : World) (h : TsAt w v ts) : Calls Tryd.prog 21 #[v, .int .i64 t] w fun e w' => e = .returned (.bool (oneB ts t)) ∧ w = w' := by
  have H := Lib.hid h
  obtain ⟨a, c, rfl, h1, h2⟩ := h.shape
  clear h
  rcases hr : rightB ts with _ | _
  · have HR := Lib.hid hr
    clear hr
    go_enter Tryd.func21, Tryd.ntmps21
    go_wp2_with (go_at_call 33; refine (rright_f _ ts _ H.out HR).mono ?_; rintro e w' ⟨rfl, rfl⟩)
    go_ret
    exact ⟨ret_bool (one_no.2 (.inr HR.out)).symm, rfl⟩
  have HR := Lib.hid hr
  clear hr
  by_cases h0 : t < 0
  · go_enter Tryd.func21, Tryd.ntmps21
    go_wp2_with (go_at_call 33; refine (rright_t _ ts _ H.out HR).mono ?_; rintro e w' ⟨rfl, rfl⟩)
    go_ret
    exact ⟨ret_bool (one_no.2 (.inl (.inl h0))).symm, rfl⟩
  by_cases h3 : (ts.length : Int) ≤ t
  · go_enter Tryd.func21, Tryd.ntmps21
    go_wp2_with (go_at_call 33; refine (rright_t _ ts _ H.out HR).mono ?_; rintro e w' ⟨rfl, rfl⟩)
    go_ret
    exact ⟨ret_bool (by rw [one_no.2 (.inl (.inr h3))]; exact decide_eq_false (by omega)), rfl⟩
  go_enter Tryd.func21, Tryd.ntmps21
  go_wp2_with (go_at_call 33; refine (rright_t _ ts _ H.out HR).mono ?_; rintro e w' ⟨rfl, rfl⟩)
  go_ret
  exact ⟨ret_bool (one_iff.2 ⟨by omega, by omega, HR.out⟩).symm, rfl⟩
theorem ris_t (v : Value) (ts : List ByteArray) (t : Int) (w : World) (h : TsAt w v ts) (hr : Hid (oneB ts t = true)) : Calls Tryd.prog 21 #[v, .int .i64 t] w fun e w' => e = .returned (.bool true) ∧ w = w' :=
  (ris_any v ts t w h).mono fun e w' ⟨h1, h2⟩ => ⟨by rw [h1, hr.out], h2⟩
theorem ris_f (v : Value) (ts : List ByteArray) (t : Int) (w : World) (h : TsAt w v ts) (hr : Hid (oneB ts t = false)) : Calls Tryd.prog 21 #[v, .int .i64 t] w fun e w' => e = .returned (.bool false) ∧ w = w' :=
  (ris_any v ts t w h).mono fun e w' ⟨h1, h2⟩ => ⟨by rw [h1, hr.out], h2⟩

theorem rsize_any (v : Value) (ts : List ByteArray) (t : Int) (w : World) (h : TsAt w v ts) : Calls Tryd.prog 34 #[v, .int .i64 t] w fun e w' => e = .returned (.int .i64 (sizeI ts t)) ∧ w = w' := by
  have H := Lib.hid h
  rcases hr : oneB ts t with _ | _
  · have HR := Lib.hid hr
    have e1 : sizeI ts t = 0 := by unfold sizeI; rw [hr]; rfl
    rw [e1]
    clear hr h e1
    go_enter Tryd.func34, Tryd.ntmps34
    go_wp2_with (go_at_call 21; refine (ris_f _ ts _ _ H.out HR).mono ?_; rintro e w' ⟨rfl, rfl⟩)
    go_ret
    exact ⟨rfl, rfl⟩
  · have HR := Lib.hid hr
    have e1 : sizeI ts t = (ty ts t.toNat).size := by unfold sizeI; rw [hr]; rfl
    obtain ⟨n, rfl, hn, _⟩ := one_lt hr
    obtain ⟨b, o, c, rfl, h1, h2, hb, hc, hs⟩ := h.one hn
    simp only [Int.toNat_natCast] at e1
    rw [e1]
    clear hr h e1
    go_enter Tryd.func34, Tryd.ntmps34
    go_wp2_with (go_at_call 21; refine (ris_t _ ts _ _ H.out HR).mono ?_; rintro e w' ⟨rfl, rfl⟩)
    go_ret
    exact ⟨rfl, rfl⟩
theorem to_not {ts : List ByteArray} {t f : Int} (h : oneB ts t = false) : toI ts t f = -1 := by
  unfold toI; rw [h, if_neg]; simp
theorem to_out {ts : List ByteArray} {n : Nat} {f : Int} (h : f < 0 ∨ ((ty ts n).size : Int) ≤ f) : toI ts n f = -1 := by
  unfold toI; rw [if_neg]
  simp only [Int.toNat_natCast]
  omega
theorem to_in {ts : List ByteArray} {n k : Nat} (h : oneB ts n = true) (hk : k < (ty ts n).size) : toI ts n k = ptrI (byt (ty ts n) k) := by
  unfold toI
  simp only [Int.toNat_natCast]
  rw [if_pos ⟨h, by omega, by omega⟩]
theorem to_i {ts : List ByteArray} {n k : Nat} (h : oneB ts n = true) (hk : k < (ty ts n).size) (hc : byt (ty ts n) k = 105) : toI ts n k = -1 := by
  rw [to_in h hk, hc]; rfl
theorem to_d {ts : List ByteArray} {n k : Nat} (h : oneB ts n = true) (hk : k < (ty ts n).size) (hc : byt (ty ts n) k ≠ 105) : toI ts n k = (byt (ty ts n) k : Int) - 48 := by
  rw [to_in h hk, ptr_d hc]
/-- A letter of types that may be is i or the digit of one. -/
theorem right_let {ts : List ByteArray} (h : rightB ts = true) {n k : Nat} (hn : n < ts.length) (hk : k < (ty ts n).size) : byt (ty ts n) k = 105 ∨ digB ts.length (byt (ty ts n) k) = true :=
  let_iff.1 ((ok_iff.1 ((right_iff.1 h).2.2 n hn)).2.2 k hk)
theorem right_len {ts : List ByteArray} (h : rightB ts = true) : 1 ≤ ts.length ∧ ts.length ≤ 8 := ⟨(right_iff.1 h).1, (right_iff.1 h).2.1⟩
theorem right_ty {ts : List ByteArray} (h : rightB ts = true) {n : Nat} (hn : n < ts.length) : 1 ≤ (ty ts n).size ∧ (ty ts n).size ≤ 6 :=
  ⟨(ok_iff.1 ((right_iff.1 h).2.2 n hn)).1, (ok_iff.1 ((right_iff.1 h).2.2 n hn)).2.1⟩

set_option maxHeartbeats 1000000 in
theorem rto_any (v : Value) (ts : List ByteArray) (t f : Int) (w : World) (h : TsAt w v ts) : Calls Tryd.prog 11 #[v, .int .i64 t, .int .i64 f] w fun e w' => e = .returned (.int .i64 (toI ts t f)) ∧ w = w' := by
  have H := Lib.hid h
  rcases hr : oneB ts t with _ | _
  · have HR := Lib.hid hr
    rw [to_not hr]
    clear hr h
    go_enter Tryd.func11, Tryd.ntmps11
    go_wp2_with (go_at_call 21; refine (ris_f _ ts _ _ H.out HR).mono ?_; rintro e w' ⟨rfl, rfl⟩)
    go_ret
    exact ⟨rfl, rfl⟩
  have HR := Lib.hid hr
  obtain ⟨n, rfl, hn, hri⟩ := one_lt hr
  obtain ⟨b, o, c, rfl, h1, h2, hb, hc, hs⟩ := h.one hn
  by_cases h0 : f < 0
  · rw [to_out (.inl h0)]
    clear hr h
    go_enter Tryd.func11, Tryd.ntmps11
    go_wp2_with (go_at_call 21; refine (ris_t _ ts _ _ H.out HR).mono ?_; rintro e w' ⟨rfl, rfl⟩)
    go_ret
    exact ⟨rfl, rfl⟩
  by_cases h3 : ((ty ts n).size : Int) ≤ f
  · rw [to_out (.inr h3)]
    clear hr h
    go_enter Tryd.func11, Tryd.ntmps11
    go_wp2_with (go_at_call 21; refine (ris_t _ ts _ _ H.out HR).mono ?_; rintro e w' ⟨rfl, rfl⟩)
    go_ret
    exact ⟨rfl, rfl⟩
  obtain ⟨k, rfl⟩ : ∃ k : Nat, f = k := ⟨f.toNat, by omega⟩
  have hk : k < (ty ts n).size := by omega
  have hl := right_let hri hn hk
  have hby := byt_at hk
  have hlt := byt_lt (ty ts n) k
  have h8 := (right_len hri).2
  have hL : ts.length ≤ 9223372036854775807 := by omega
  by_cases hi : byt (ty ts n) k = 105
  · rw [to_i hr hk hi]
    rw [hi] at hby
    have hd : Hid (digB ts.length (ty ts n)[k].toNat = false) := Lib.hid (by rw [hby]; exact dig_no.2 (by omega))
    have hl' : (ty ts n)[k].toNat < 256 := by omega
    clear hr h hl hri hlt hi h0 h3 hby
    generalize ty ts n = s at hc hs hk hd hl'
    go_enter Tryd.func11, Tryd.ntmps11
    go_wp2_with (first
      | (go_at_call 21; refine (ris_t _ ts _ _ H.out HR).mono ?_; rintro e w' ⟨rfl, rfl⟩)
      | (go_at_call 22; refine (rdig_f _ _ _ hl' hL hd).mono ?_; rintro e w' ⟨rfl, rfl⟩))
    go_ret
    exact ⟨rfl, rfl⟩
  · rw [to_d hr hk hi]
    have hd := Lib.hid (hl.resolve_left hi)
    rw [← hby] at hd hlt ⊢
    clear hr h hl hri hby h0 h3 hi
    generalize ty ts n = s at hc hs hk hd hlt ⊢
    go_enter Tryd.func11, Tryd.ntmps11
    go_wp2_with (first
      | (go_at_call 21; refine (ris_t _ ts _ _ H.out HR).mono ?_; rintro e w' ⟨rfl, rfl⟩)
      | (go_at_call 22; refine (rdig_t _ _ _ hlt hL hd).mono ?_; rintro e w' ⟨rfl, rfl⟩))
    go_ret
    exact ⟨rfl, rfl⟩
end Go.Proofs.YtjkpbajojgdooaaDoor

/- Contracts: Refs (the program's and the document's). -/
namespace Go.Proofs.YtjkpbajojgdooaaDoor
set_option linter.unusedSimpArgs false
set_option linter.unusedVariables false
open Go.RowKit

set_option maxHeartbeats 1000000 in
theorem rrefs_any (v : Value) (ts : List ByteArray) (s : ByteArray) (w : World) (h : TsAt w v ts) (hs : s.size ≤ 9223372036854775807) : Calls Tryd.prog 26 #[v, .string s] w fun e w' => e = .returned (.bool (refsB ts s)) ∧ w = w' := by
  have H := Lib.hid h
  obtain ⟨a, c, rfl, h1, h2⟩ := h.shape
  clear h
  have hn : ts.length ≤ 9223372036854775807 := by omega
  go_enter Tryd.func26, Tryd.ntmps26
  go_wp2
  go_loop [5] (fun i => ∃ k : Nat, k ≤ s.size ∧ i = .int .i64 k ∧ Hid (∀ j, j < k → digB ts.length (byt s j) = true)) (fun i => s.size - (intOf i).toNat)
  case atStart => exact ⟨0, Nat.zero_le _, rfl, Lib.hid none_yet⟩
  case round =>
    obtain ⟨k, hk, rfl, hol⟩ := hrel
    by_cases hlt : k < s.size
    · have hb := byt_at hlt
      have hl := byt_lt s k
      have hl' : s[k].toNat < 256 := by omega
      rcases hd : digB ts.length (byt s k) with _ | _
      · have HD : Hid (digB ts.length s[k].toNat = false) := Lib.hid (by rw [hb]; exact hd)
        have HE := Lib.hid hd
        clear hb hl hd
        go_wp2_with (go_at_call 22; refine (rdig_f _ _ _ hl' hn HD).mono ?_; rintro e w' ⟨rfl, rfl⟩)
        go_ret
        exact ⟨ret_bool (refs_no hlt HE.out).symm, rfl⟩
      · have HD : Hid (digB ts.length s[k].toNat = true) := Lib.hid (by rw [hb]; exact hd)
        have HE := Lib.hid hd
        have hge : ¬ ((s[k].toNat : Nat) : Int) - 48 < 0 := by have := (dig_iff.1 hd).1; omega
        clear hb hl hd
        go_wp2_with (go_at_call 22; refine (rdig_t _ _ _ hl' hn HD).mono ?_; rintro e w' ⟨rfl, rfl⟩)
        go_round
        case rel => exact ⟨k + 1, by omega, by go_num, Lib.hid (all_next hol.out HE.out)⟩
        case measure => simp [intOf]; omega
    · rcases hr : rightB ts with _ | _
      · have HR := Lib.hid hr
        clear hr
        go_wp2_with (go_at_call 33; refine (rright_f _ ts _ H.out HR).mono ?_; rintro e w' ⟨rfl, rfl⟩)
        go_ret
        exact ⟨ret_bool (refs_right HR.out).symm, rfl⟩
      · have HR := Lib.hid hr
        clear hr
        go_wp2_with (go_at_call 33; refine (rright_t _ ts _ H.out HR).mono ?_; rintro e w' ⟨rfl, rfl⟩)
        go_ret
        exact ⟨ret_bool (refs_iff.2 ⟨HR.out, fun j hj => hol.out j (by omega)⟩).symm, rfl⟩
end Go.Proofs.YtjkpbajojgdooaaDoor
