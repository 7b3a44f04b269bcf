/-
  Contracts: is it one of the types; Size and To (the program's and the document's).
  Contracts: Refs (the program's and the document's).
  Contracts of check: named, Local, Glob.
-/
import Derived.Test.YtapjgobkpehgfaaGreatDoorUAJ
import Derived.Test.YtapjgobkpehgfaaGreatDoorUAD
import Derived.Test.YtapjgobkpehgfaaGreatDoorUAF

/- Contracts: is it one of the types; Size and To (the program's and the document's). -/
namespace Go.Proofs.YtapjgobkpehgfaaGreatDoor
set_option linter.unusedSimpArgs false
set_option linter.unusedVariables false
open Go.RowKit

theorem TsAt.shape {w : World} {v : Value} {ts : List ByteArray} (h : TsAt w v ts) : ∃ a c, v = .slice a ts.length c ∧ ts.length ≤ c ∧ c ≤ 9223372036854775807 := by
  obtain ⟨a, c, rfl, h1, h2, _⟩ := h.cases
  exact ⟨a, c, rfl, h1, h2⟩
/-- The cell of one type. -/
theorem TsAt.one {w : World} {v : Value} {ts : List ByteArray} (h : TsAt w v ts) {n : Nat} (hn : n < ts.length) : ∃ b o c, v = .slice (some ⟨b, o, none⟩) ts.length c ∧ ts.length ≤ c ∧ c ≤ 9223372036854775807 ∧ b < w.heap.size ∧ w.cell? ⟨b, o + n, none⟩ = some (.string (ty ts n)) ∧ (ty ts n).size ≤ 9223372036854775807 := by
  obtain ⟨a, c, rfl, h1, h2, h3⟩ := h.cases
  rcases h3 with rfl | ⟨b, o, rfl, hb, hc⟩
  · exact absurd hn (by simp)
  · exact ⟨b, o, c, rfl, h1, h2, hb, hc n hn⟩
theorem one_lt {ts : List ByteArray} {t : Int} (h : oneB ts t = true) : ∃ n : Nat, t = n ∧ n < ts.length ∧ rightB ts = true := by
  obtain ⟨h0, h1, h2⟩ := one_iff.1 h
  exact ⟨t.toNat, by omega, by omega, h2⟩

theorem kone_any (v : Value) (ts : List ByteArray) (t : Int) (w : World) (h : TsAt w v ts) : Calls Tryz.prog 110 #[v, .int .i64 t] w fun e w' => e = .returned (.bool (oneB ts t)) ∧ w = w' := by
  have H := Lib.hid h
  obtain ⟨a, c, rfl, h1, h2⟩ := h.shape
  clear h
  by_cases h0 : t < 0
  · go_enter Tryz.func110, Tryz.ntmps110
    go_wp2
    go_ret
    exact ⟨ret_bool (one_no.2 (.inl (.inl h0))).symm, rfl⟩
  by_cases h3 : (ts.length : Int) ≤ t
  · go_enter Tryz.func110, Tryz.ntmps110
    go_wp2
    go_ret
    exact ⟨ret_bool (one_no.2 (.inl (.inr h3))).symm, rfl⟩
  rcases hr : rightB ts with _ | _
  · have HR := Lib.hid hr
    clear hr
    go_enter Tryz.func110, Tryz.ntmps110
    go_wp2_with (go_at_call 80; refine (kright_f _ ts _ H.out HR).mono ?_; rintro e w' ⟨rfl, rfl⟩)
    go_ret
    exact ⟨ret_bool (one_no.2 (.inr HR.out)).symm, rfl⟩
  · have HR := Lib.hid hr
    clear hr
    go_enter Tryz.func110, Tryz.ntmps110
    go_wp2_with (go_at_call 80; refine (kright_t _ ts _ H.out HR).mono ?_; rintro e w' ⟨rfl, rfl⟩)
    go_ret
    exact ⟨ret_bool (one_iff.2 ⟨by omega, by omega, HR.out⟩).symm, rfl⟩
theorem ris_any (v : Value) (ts : List ByteArray) (t : Int) (w : World) (h : TsAt w v ts) : Calls Tryz.prog 72 #[v, .int .i64 t] w fun e w' => e = .returned (.bool (oneB ts t)) ∧ w = w' := by
  have H := Lib.hid h
  obtain ⟨a, c, rfl, h1, h2⟩ := h.shape
  clear h
  rcases hr : rightB ts with _ | _
  · have HR := Lib.hid hr
    clear hr
    go_enter Tryz.func72, Tryz.ntmps72
    go_wp2_with (go_at_call 48; refine (rright_f _ ts _ H.out HR).mono ?_; rintro e w' ⟨rfl, rfl⟩)
    go_ret
    exact ⟨ret_bool (one_no.2 (.inr HR.out)).symm, rfl⟩
  have HR := Lib.hid hr
  clear hr
  by_cases h0 : t < 0
  · go_enter Tryz.func72, Tryz.ntmps72
    go_wp2_with (go_at_call 48; refine (rright_t _ ts _ H.out HR).mono ?_; rintro e w' ⟨rfl, rfl⟩)
    go_ret
    exact ⟨ret_bool (one_no.2 (.inl (.inl h0))).symm, rfl⟩
  by_cases h3 : (ts.length : Int) ≤ t
  · go_enter Tryz.func72, Tryz.ntmps72
    go_wp2_with (go_at_call 48; refine (rright_t _ ts _ H.out HR).mono ?_; rintro e w' ⟨rfl, rfl⟩)
    go_ret
    exact ⟨ret_bool (by rw [one_no.2 (.inl (.inr h3))]; exact decide_eq_false (by omega)), rfl⟩
  go_enter Tryz.func72, Tryz.ntmps72
  go_wp2_with (go_at_call 48; refine (rright_t _ ts _ H.out HR).mono ?_; rintro e w' ⟨rfl, rfl⟩)
  go_ret
  exact ⟨ret_bool (one_iff.2 ⟨by omega, by omega, HR.out⟩).symm, rfl⟩
theorem kone_t (v : Value) (ts : List ByteArray) (t : Int) (w : World) (h : TsAt w v ts) (hr : Hid (oneB ts t = true)) : Calls Tryz.prog 110 #[v, .int .i64 t] w fun e w' => e = .returned (.bool true) ∧ w = w' :=
  (kone_any v ts t w h).mono fun e w' ⟨h1, h2⟩ => ⟨by rw [h1, hr.out], h2⟩
theorem kone_f (v : Value) (ts : List ByteArray) (t : Int) (w : World) (h : TsAt w v ts) (hr : Hid (oneB ts t = false)) : Calls Tryz.prog 110 #[v, .int .i64 t] w fun e w' => e = .returned (.bool false) ∧ w = w' :=
  (kone_any v ts t w h).mono fun e w' ⟨h1, h2⟩ => ⟨by rw [h1, hr.out], h2⟩
theorem ris_t (v : Value) (ts : List ByteArray) (t : Int) (w : World) (h : TsAt w v ts) (hr : Hid (oneB ts t = true)) : Calls Tryz.prog 72 #[v, .int .i64 t] w fun e w' => e = .returned (.bool true) ∧ w = w' :=
  (ris_any v ts t w h).mono fun e w' ⟨h1, h2⟩ => ⟨by rw [h1, hr.out], h2⟩
theorem ris_f (v : Value) (ts : List ByteArray) (t : Int) (w : World) (h : TsAt w v ts) (hr : Hid (oneB ts t = false)) : Calls Tryz.prog 72 #[v, .int .i64 t] w fun e w' => e = .returned (.bool false) ∧ w = w' :=
  (ris_any v ts t w h).mono fun e w' ⟨h1, h2⟩ => ⟨by rw [h1, hr.out], h2⟩

theorem pts_i (c : Nat) (w : World) (hc : c = 105) : Calls Tryz.prog 133 #[.int .u8 c] w fun e w' => e = .returned (.int .i64 (-1)) ∧ w = w' := by
  subst hc
  go_enter Tryz.func133, Tryz.ntmps133
  go_wp2
  go_ret
  exact ⟨rfl, rfl⟩
theorem pts_d (c : Nat) (w : World) (h0 : 48 ≤ c) (h1 : c < 256) (h2 : c ≠ 105) : Calls Tryz.prog 133 #[.int .u8 c] w fun e w' => e = .returned (.int .i64 ((c : Int) - 48)) ∧ w = w' := by
  have h3 : (((c : Nat) : Int) == 105) = false := by simp; omega
  go_enter Tryz.func133, Tryz.ntmps133
  go_wp2
  go_ret
  exact ⟨rfl, rfl⟩

theorem ksize_any (v : Value) (ts : List ByteArray) (t : Int) (w : World) (h : TsAt w v ts) : Calls Tryz.prog 94 #[v, .int .i64 t] w fun e w' => e = .returned (.int .i64 (sizeI ts t)) ∧ w = w' := by
  have H := Lib.hid h
  rcases hr : oneB ts t with _ | _
  · have HR := Lib.hid hr
    have e1 : sizeI ts t = 0 := by unfold sizeI; rw [hr]; rfl
    rw [e1]
    clear hr h e1
    go_enter Tryz.func94, Tryz.ntmps94
    go_wp2_with (go_at_call 110; refine (kone_f _ ts _ _ H.out HR).mono ?_; rintro e w' ⟨rfl, rfl⟩)
    go_ret
    exact ⟨rfl, rfl⟩
  · have HR := Lib.hid hr
    have e1 : sizeI ts t = (ty ts t.toNat).size := by unfold sizeI; rw [hr]; rfl
    obtain ⟨n, rfl, hn, _⟩ := one_lt hr
    obtain ⟨b, o, c, rfl, h1, h2, hb, hc, hs⟩ := h.one hn
    simp only [Int.toNat_natCast] at e1
    rw [e1]
    clear hr h e1
    go_enter Tryz.func94, Tryz.ntmps94
    go_wp2_with (go_at_call 110; refine (kone_t _ ts _ _ H.out HR).mono ?_; rintro e w' ⟨rfl, rfl⟩)
    go_ret
    exact ⟨rfl, rfl⟩
theorem rsize_any (v : Value) (ts : List ByteArray) (t : Int) (w : World) (h : TsAt w v ts) : Calls Tryz.prog 44 #[v, .int .i64 t] w fun e w' => e = .returned (.int .i64 (sizeI ts t)) ∧ w = w' := by
  have H := Lib.hid h
  rcases hr : oneB ts t with _ | _
  · have HR := Lib.hid hr
    have e1 : sizeI ts t = 0 := by unfold sizeI; rw [hr]; rfl
    rw [e1]
    clear hr h e1
    go_enter Tryz.func44, Tryz.ntmps44
    go_wp2_with (go_at_call 72; refine (ris_f _ ts _ _ H.out HR).mono ?_; rintro e w' ⟨rfl, rfl⟩)
    go_ret
    exact ⟨rfl, rfl⟩
  · have HR := Lib.hid hr
    have e1 : sizeI ts t = (ty ts t.toNat).size := by unfold sizeI; rw [hr]; rfl
    obtain ⟨n, rfl, hn, _⟩ := one_lt hr
    obtain ⟨b, o, c, rfl, h1, h2, hb, hc, hs⟩ := h.one hn
    simp only [Int.toNat_natCast] at e1
    rw [e1]
    clear hr h e1
    go_enter Tryz.func44, Tryz.ntmps44
    go_wp2_with (go_at_call 72; refine (ris_t _ ts _ _ H.out HR).mono ?_; rintro e w' ⟨rfl, rfl⟩)
    go_ret
    exact ⟨rfl, rfl⟩
theorem to_not {ts : List ByteArray} {t f : Int} (h : oneB ts t = false) : toI ts t f = -1 := by
  unfold toI; rw [h, if_neg]; simp
theorem to_out {ts : List ByteArray} {n : Nat} {f : Int} (h : f < 0 ∨ ((ty ts n).size : Int) ≤ f) : toI ts n f = -1 := by
  unfold toI; rw [if_neg]
  simp only [Int.toNat_natCast]
  omega
theorem to_in {ts : List ByteArray} {n k : Nat} (h : oneB ts n = true) (hk : k < (ty ts n).size) : toI ts n k = ptrI (byt (ty ts n) k) := by
  unfold toI
  simp only [Int.toNat_natCast]
  rw [if_pos ⟨h, by omega, by omega⟩]
theorem to_i {ts : List ByteArray} {n k : Nat} (h : oneB ts n = true) (hk : k < (ty ts n).size) (hc : byt (ty ts n) k = 105) : toI ts n k = -1 := by
  rw [to_in h hk, hc]; rfl
theorem to_d {ts : List ByteArray} {n k : Nat} (h : oneB ts n = true) (hk : k < (ty ts n).size) (hc : byt (ty ts n) k ≠ 105) : toI ts n k = (byt (ty ts n) k : Int) - 48 := by
  rw [to_in h hk, ptr_d hc]
/-- A letter of types that may be is i or the digit of one. -/
theorem right_let {ts : List ByteArray} (h : rightB ts = true) {n k : Nat} (hn : n < ts.length) (hk : k < (ty ts n).size) : byt (ty ts n) k = 105 ∨ digB ts.length (byt (ty ts n) k) = true :=
  let_iff.1 ((ok_iff.1 ((right_iff.1 h).2.2 n hn)).2.2 k hk)
theorem right_len {ts : List ByteArray} (h : rightB ts = true) : 1 ≤ ts.length ∧ ts.length ≤ 8 := ⟨(right_iff.1 h).1, (right_iff.1 h).2.1⟩
theorem right_ty {ts : List ByteArray} (h : rightB ts = true) {n : Nat} (hn : n < ts.length) : 1 ≤ (ty ts n).size ∧ (ty ts n).size ≤ 6 :=
  ⟨(ok_iff.1 ((right_iff.1 h).2.2 n hn)).1, (ok_iff.1 ((right_iff.1 h).2.2 n hn)).2.1⟩

set_option maxHeartbeats 1000000 in
theorem kto_any (v : Value) (ts : List ByteArray) (t f : Int) (w : World) (h : TsAt w v ts) : Calls Tryz.prog 117 #[v, .int .i64 t, .int .i64 f] w fun e w' => e = .returned (.int .i64 (toI ts t f)) ∧ w = w' := by
  have H := Lib.hid h
  rcases hr : oneB ts t with _ | _
  · have HR := Lib.hid hr
    rw [to_not hr]
    clear hr h
    go_enter Tryz.func117, Tryz.ntmps117
    go_wp2_with (go_at_call 110; refine (kone_f _ ts _ _ H.out HR).mono ?_; rintro e w' ⟨rfl, rfl⟩)
    go_ret
    exact ⟨rfl, rfl⟩
  have HR := Lib.hid hr
  obtain ⟨n, rfl, hn, hri⟩ := one_lt hr
  obtain ⟨b, o, c, rfl, h1, h2, hb, hc, hs⟩ := h.one hn
  by_cases h0 : f < 0
  · rw [to_out (.inl h0)]
    clear hr h
    go_enter Tryz.func117, Tryz.ntmps117
    go_wp2_with (go_at_call 110; refine (kone_t _ ts _ _ H.out HR).mono ?_; rintro e w' ⟨rfl, rfl⟩)
    go_ret
    exact ⟨rfl, rfl⟩
  by_cases h3 : ((ty ts n).size : Int) ≤ f
  · rw [to_out (.inr h3)]
    clear hr h
    go_enter Tryz.func117, Tryz.ntmps117
    go_wp2_with (go_at_call 110; refine (kone_t _ ts _ _ H.out HR).mono ?_; rintro e w' ⟨rfl, rfl⟩)
    go_ret
    exact ⟨rfl, rfl⟩
  obtain ⟨k, rfl⟩ : ∃ k : Nat, f = k := ⟨f.toNat, by omega⟩
  have hk : k < (ty ts n).size := by omega
  have hl := right_let hri hn hk
  have hby := byt_at hk
  have hlt := byt_lt (ty ts n) k
  by_cases hi : byt (ty ts n) k = 105
  · rw [to_i hr hk hi]
    rw [hi] at hby
    have HB := Lib.hid hby
    clear hr h hl hri hlt hi h0 h3 hby
    generalize ty ts n = s at hc hs hk HB
    go_enter Tryz.func117, Tryz.ntmps117
    go_wp2_with (first
      | (go_at_call 110; refine (kone_t _ ts _ _ H.out HR).mono ?_; rintro e w' ⟨rfl, rfl⟩)
      | (go_at_call 133; refine (pts_i _ _ HB.out).mono ?_; rintro e w' ⟨rfl, rfl⟩))
    go_ret
    exact ⟨rfl, rfl⟩
  · rw [to_d hr hk hi]
    have hd := (dig_iff.1 (hl.resolve_left hi)).1
    rw [← hby] at hd hlt hi ⊢
    clear hr h hl hri hby h0 h3
    generalize ty ts n = s at hc hs hk hd hlt hi ⊢
    have HI := Lib.hid hi
    clear hi
    go_enter Tryz.func117, Tryz.ntmps117
    go_wp2_with (first
      | (go_at_call 110; refine (kone_t _ ts _ _ H.out HR).mono ?_; rintro e w' ⟨rfl, rfl⟩)
      | (go_at_call 133; refine (pts_d _ _ hd hlt HI.out).mono ?_; rintro e w' ⟨rfl, rfl⟩))
    go_ret
    exact ⟨rfl, rfl⟩
set_option maxHeartbeats 1000000 in
theorem rto_any (v : Value) (ts : List ByteArray) (t f : Int) (w : World) (h : TsAt w v ts) : Calls Tryz.prog 79 #[v, .int .i64 t, .int .i64 f] w fun e w' => e = .returned (.int .i64 (toI ts t f)) ∧ w = w' := by
  have H := Lib.hid h
  rcases hr : oneB ts t with _ | _
  · have HR := Lib.hid hr
    rw [to_not hr]
    clear hr h
    go_enter Tryz.func79, Tryz.ntmps79
    go_wp2_with (go_at_call 72; refine (ris_f _ ts _ _ H.out HR).mono ?_; rintro e w' ⟨rfl, rfl⟩)
    go_ret
    exact ⟨rfl, rfl⟩
  have HR := Lib.hid hr
  obtain ⟨n, rfl, hn, hri⟩ := one_lt hr
  obtain ⟨b, o, c, rfl, h1, h2, hb, hc, hs⟩ := h.one hn
  by_cases h0 : f < 0
  · rw [to_out (.inl h0)]
    clear hr h
    go_enter Tryz.func79, Tryz.ntmps79
    go_wp2_with (go_at_call 72; refine (ris_t _ ts _ _ H.out HR).mono ?_; rintro e w' ⟨rfl, rfl⟩)
    go_ret
    exact ⟨rfl, rfl⟩
  by_cases h3 : ((ty ts n).size : Int) ≤ f
  · rw [to_out (.inr h3)]
    clear hr h
    go_enter Tryz.func79, Tryz.ntmps79
    go_wp2_with (go_at_call 72; refine (ris_t _ ts _ _ H.out HR).mono ?_; rintro e w' ⟨rfl, rfl⟩)
    go_ret
    exact ⟨rfl, rfl⟩
  obtain ⟨k, rfl⟩ : ∃ k : Nat, f = k := ⟨f.toNat, by omega⟩
  have hk : k < (ty ts n).size := by omega
  have hl := right_let hri hn hk
  have hby := byt_at hk
  have hlt := byt_lt (ty ts n) k
  have h8 := (right_len hri).2
  have hL : ts.length ≤ 9223372036854775807 := by omega
  by_cases hi : byt (ty ts n) k = 105
  · rw [to_i hr hk hi]
    rw [hi] at hby
    have hd : Hid (digB ts.length (ty ts n)[k].toNat = false) := Lib.hid (by rw [hby]; exact dig_no.2 (by omega))
    have hl' : (ty ts n)[k].toNat < 256 := by omega
    clear hr h hl hri hlt hi h0 h3 hby
    generalize ty ts n = s at hc hs hk hd hl'
    go_enter Tryz.func79, Tryz.ntmps79
    go_wp2_with (first
      | (go_at_call 72; refine (ris_t _ ts _ _ H.out HR).mono ?_; rintro e w' ⟨rfl, rfl⟩)
      | (go_at_call 47; refine (rdig_f _ _ _ hl' hL hd).mono ?_; rintro e w' ⟨rfl, rfl⟩))
    go_ret
    exact ⟨rfl, rfl⟩
  · rw [to_d hr hk hi]
    have hd := Lib.hid (hl.resolve_left hi)
    rw [← hby] at hd hlt ⊢
    clear hr h hl hri hby h0 h3 hi
    generalize ty ts n = s at hc hs hk hd hlt ⊢
    go_enter Tryz.func79, Tryz.ntmps79
    go_wp2_with (first
      | (go_at_call 72; refine (ris_t _ ts _ _ H.out HR).mono ?_; rintro e w' ⟨rfl, rfl⟩)
      | (go_at_call 47; refine (rdig_t _ _ _ hlt hL hd).mono ?_; rintro e w' ⟨rfl, rfl⟩))
    go_ret
    exact ⟨rfl, rfl⟩
end Go.Proofs.YtapjgobkpehgfaaGreatDoor

/- Contracts: Refs (the program's and the document's). -/
namespace Go.Proofs.YtapjgobkpehgfaaGreatDoor
set_option linter.unusedSimpArgs false
set_option linter.unusedVariables false
open Go.RowKit

set_option maxHeartbeats 1000000 in
theorem krefs_any (v : Value) (ts : List ByteArray) (s : ByteArray) (w : World) (h : TsAt w v ts) (hs : s.size ≤ 9223372036854775807) : Calls Tryz.prog 81 #[v, .string s] w fun e w' => e = .returned (.bool (refsB ts s)) ∧ w = w' := by
  have H := Lib.hid h
  obtain ⟨a, c, rfl, h1, h2⟩ := h.shape
  clear h
  rcases hr : rightB ts with _ | _
  · have HR := Lib.hid hr
    rw [refs_right hr]
    clear hr
    go_enter Tryz.func81, Tryz.ntmps81
    go_wp2_with (go_at_call 80; refine (kright_f _ ts _ H.out HR).mono ?_; rintro e w' ⟨rfl, rfl⟩)
    go_ret
    exact ⟨rfl, rfl⟩
  have HR := Lib.hid hr
  clear hr
  have hn : ts.length ≤ 9223372036854775807 := by omega
  go_enter Tryz.func81, Tryz.ntmps81
  go_wp2_with (go_at_call 80; refine (kright_t _ ts _ H.out HR).mono ?_; rintro e w' ⟨rfl, rfl⟩)
  go_loop [11] (fun i => ∃ k : Nat, k ≤ s.size ∧ i = .int .i64 k ∧ Hid (∀ j, j < k → digB ts.length (byt s j) = true)) (fun i => s.size - (intOf i).toNat)
  case atStart => exact ⟨0, Nat.zero_le _, rfl, Lib.hid none_yet⟩
  case round =>
    obtain ⟨k, hk, rfl, hol⟩ := hrel
    by_cases hlt : k < s.size
    · have hb := byt_at hlt
      have hl := byt_lt s k
      have hl' : s[k].toNat < 256 := by omega
      rcases hd : digB ts.length (byt s k) with _ | _
      · have HD : Hid (digB ts.length s[k].toNat = false) := Lib.hid (by rw [hb]; exact hd)
        have HE := Lib.hid hd
        clear hb hl hd
        go_wp2_with (go_at_call 99; refine (kdig_f _ _ _ hl' hn HD).mono ?_; rintro e w' ⟨rfl, rfl⟩)
        go_ret
        exact ⟨ret_bool (refs_no hlt HE.out).symm, rfl⟩
      · have HD : Hid (digB ts.length s[k].toNat = true) := Lib.hid (by rw [hb]; exact hd)
        have HE := Lib.hid hd
        clear hb hl hd
        go_wp2_with (go_at_call 99; refine (kdig_t _ _ _ hl' hn HD).mono ?_; rintro e w' ⟨rfl, rfl⟩)
        go_round
        case rel => exact ⟨k + 1, by omega, by go_num, Lib.hid (all_next hol.out HE.out)⟩
        case measure => simp [intOf]; omega
    · go_wp2
      go_ret
      obtain rfl : k = s.size := by omega
      exact ⟨ret_bool (refs_iff.2 ⟨HR.out, hol.out⟩).symm, rfl⟩

set_option maxHeartbeats 1000000 in
theorem rrefs_any (v : Value) (ts : List ByteArray) (s : ByteArray) (w : World) (h : TsAt w v ts) (hs : s.size ≤ 9223372036854775807) : Calls Tryz.prog 27 #[v, .string s] w fun e w' => e = .returned (.bool (refsB ts s)) ∧ w = w' := by
  have H := Lib.hid h
  obtain ⟨a, c, rfl, h1, h2⟩ := h.shape
  clear h
  have hn : ts.length ≤ 9223372036854775807 := by omega
  go_enter Tryz.func27, Tryz.ntmps27
  go_wp2
  go_loop [5] (fun i => ∃ k : Nat, k ≤ s.size ∧ i = .int .i64 k ∧ Hid (∀ j, j < k → digB ts.length (byt s j) = true)) (fun i => s.size - (intOf i).toNat)
  case atStart => exact ⟨0, Nat.zero_le _, rfl, Lib.hid none_yet⟩
  case round =>
    obtain ⟨k, hk, rfl, hol⟩ := hrel
    by_cases hlt : k < s.size
    · have hb := byt_at hlt
      have hl := byt_lt s k
      have hl' : s[k].toNat < 256 := by omega
      rcases hd : digB ts.length (byt s k) with _ | _
      · have HD : Hid (digB ts.length s[k].toNat = false) := Lib.hid (by rw [hb]; exact hd)
        have HE := Lib.hid hd
        clear hb hl hd
        go_wp2_with (go_at_call 47; refine (rdig_f _ _ _ hl' hn HD).mono ?_; rintro e w' ⟨rfl, rfl⟩)
        go_ret
        exact ⟨ret_bool (refs_no hlt HE.out).symm, rfl⟩
      · have HD : Hid (digB ts.length s[k].toNat = true) := Lib.hid (by rw [hb]; exact hd)
        have HE := Lib.hid hd
        have hge : ¬ ((s[k].toNat : Nat) : Int) - 48 < 0 := by have := (dig_iff.1 hd).1; omega
        clear hb hl hd
        go_wp2_with (go_at_call 47; refine (rdig_t _ _ _ hl' hn HD).mono ?_; rintro e w' ⟨rfl, rfl⟩)
        go_round
        case rel => exact ⟨k + 1, by omega, by go_num, Lib.hid (all_next hol.out HE.out)⟩
        case measure => simp [intOf]; omega
    · rcases hr : rightB ts with _ | _
      · have HR := Lib.hid hr
        clear hr
        go_wp2_with (go_at_call 48; refine (rright_f _ ts _ H.out HR).mono ?_; rintro e w' ⟨rfl, rfl⟩)
        go_ret
        exact ⟨ret_bool (refs_right HR.out).symm, rfl⟩
      · have HR := Lib.hid hr
        clear hr
        go_wp2_with (go_at_call 48; refine (rright_t _ ts _ H.out HR).mono ?_; rintro e w' ⟨rfl, rfl⟩)
        go_ret
        exact ⟨ret_bool (refs_iff.2 ⟨HR.out, fun j hj => hol.out j (by omega)⟩).symm, rfl⟩
end Go.Proofs.YtapjgobkpehgfaaGreatDoor

/- Contracts of check: named, Local, Glob. -/
namespace Go.Proofs.YtapjgobkpehgfaaGreatDoor
set_option linter.unusedSimpArgs false
set_option linter.unusedVariables false
open Go.RowKit

theorem ts_of {w : World} {v : Value} {ts : List Bs} (h : RowAt w v (ts.map str)) (hs : ∀ t ∈ ts, t.length ≤ maxLen) : TsAt w v (tsP ts) := by
  refine ⟨?_, fun s hs' => ?_⟩
  · have e : (tsP ts).map Value.string = ts.map str := by unfold tsP; rw [List.map_map]; rfl
    rw [e]; exact h
  · unfold tsP at hs'
    obtain ⟨t, ht, rfl⟩ := List.mem_map.1 hs'
    have := hs t ht
    unfold maxLen at this; exact this
theorem krefs_b (v : Value) (ts : List ByteArray) (s : ByteArray) (b : Bool) (w : World) (h : TsAt w v ts) (hs : s.size ≤ 9223372036854775807) (hr : Hid (refsB ts s = b)) : Calls Tryz.prog 81 #[v, .string s] w fun e w' => e = .returned (.bool b) ∧ w = w' :=
  (krefs_any v ts s w h hs).mono fun e w' ⟨h1, h2⟩ => ⟨by rw [h1, hr.out], h2⟩

theorem named_out (v : Value) (s : ByteArray) (a : Nat) (w : World) (hs : s.size ≤ 9223372036854775807) (ha : a ≤ 255) (h : s.size ≤ a) (hv : ∃ x n c, v = .slice x n c) :
    Calls Tryz.prog 111 #[v, .string s, .int .u8 a] w fun e w' => e = .returned (.int .i64 (-1)) ∧ w = w' := by
  obtain ⟨x, n, c, rfl⟩ := hv
  go_enter Tryz.func111, Tryz.ntmps111
  go_wp2
  go_ret
  exact ⟨rfl, rfl⟩
theorem named_f (v : Value) (ts : List ByteArray) (s d1 d : ByteArray) (a : Nat) (w : World) (h : TsAt w v ts) (hs : s.size ≤ 9223372036854775807) (hd : d.size ≤ 9223372036854775807) (ha : a ≤ 255) (hlt : a < s.size)
    (h1 : ∀ w, (Instr.slice 9 (.string s) (some (.int .u8 (a : Int))) none none).run Tryz.prog w = .ok (.string d1) w)
    (h2 : ∀ w, (Instr.slice 9 (.string d1) none (some (.int .i64 1)) none).run Tryz.prog w = .ok (.string d) w)
    (hr : Hid (refsB ts d = false)) :
    Calls Tryz.prog 111 #[v, .string s, .int .u8 a] w fun e w' => e = .returned (.int .i64 (-1)) ∧ w = w' := by
  have H := Lib.hid h
  obtain ⟨x, c, rfl, -, -⟩ := h.shape
  clear h
  go_enter Tryz.func111, Tryz.ntmps111
  go_wp2_with (go_at_call 81; refine (krefs_b _ ts d false _ H.out hd hr).mono ?_; rintro e w' ⟨rfl, rfl⟩)
  go_ret
  exact ⟨rfl, rfl⟩
theorem named_t (v : Value) (ts : List ByteArray) (s d1 d : ByteArray) (a : Nat) (w : World) (h : TsAt w v ts) (hs : s.size ≤ 9223372036854775807) (hd : d.size ≤ 9223372036854775807) (ha : a ≤ 255) (hlt : a < s.size)
    (h1 : ∀ w, (Instr.slice 9 (.string s) (some (.int .u8 (a : Int))) none none).run Tryz.prog w = .ok (.string d1) w)
    (h2 : ∀ w, (Instr.slice 9 (.string d1) none (some (.int .i64 1)) none).run Tryz.prog w = .ok (.string d) w)
    (hr : Hid (refsB ts d = true)) (h48 : 48 ≤ s[a].toNat) (h256 : s[a].toNat < 256) :
    Calls Tryz.prog 111 #[v, .string s, .int .u8 a] w fun e w' => e = .returned (.int .i64 ((s[a].toNat : Int) - 48)) ∧ w = w' := by
  have H := Lib.hid h
  obtain ⟨x, c, rfl, -, -⟩ := h.shape
  clear h
  go_enter Tryz.func111, Tryz.ntmps111
  go_wp2_with (go_at_call 81; refine (krefs_b _ ts d true _ H.out hd hr).mono ?_; rintro e w' ⟨rfl, rfl⟩)
  go_ret
  exact ⟨rfl, rfl⟩
theorem slice_lo (s : ByteArray) (a : Nat) (h : a ≤ s.size) (w : World) : (Instr.slice 9 (.string s) (some (.int .u8 (a : Int))) none none).run Tryz.prog w = .ok (.string (s.extract a s.size)) w := by
  simpa using run_slice_string_l (P := Tryz.prog) w 9 s Tryz.underlying9 .u8 (a : Int) (by omega) (by omega)
theorem slice_hi (s : ByteArray) (h : 1 ≤ s.size) (w : World) : (Instr.slice 9 (.string s) none (some (.int .i64 1)) none).run Tryz.prog w = .ok (.string (s.extract 0 1)) w := by
  simpa using run_slice_string_h (P := Tryz.prog) w 9 s Tryz.underlying9 .i64 1 (by omega) (by omega)
theorem one_letter (s : Bs) (a : Nat) (h : a < s.length) : ((⟨s.toArray⟩ : ByteArray).extract a s.length).extract 0 1 = baL [s.getD a 0] := by
  have hx : (⟨s.toArray⟩ : ByteArray).size = s.length := rfl
  rw [ByteArray.ext_iff]
  apply Array.ext'
  have e : s.getD a 0 = s[a] := by rw [List.getD_eq_getElem?_getD, List.getElem?_eq_getElem h]; rfl
  rw [e]
  simp [baL, ByteArray.data_extract]
  rw [List.drop_eq_getElem_cons h, List.take_take, Nat.min_eq_left (by omega)]; rfl
theorem named_any (v : Value) (ts : List Bs) (s : Bs) (a : Int) (w : World) (h : TsAt w v (tsP ts)) (hs : s.length ≤ maxLen) (h0 : 0 ≤ a) (ha : a ≤ 255) :
    Calls Tryz.prog 111 #[v, str s, .int .u8 a] w fun e w' => e = .returned (.int .i64 (namesI ts s a)) ∧ w = w' := by
  obtain ⟨a, rfl⟩ : ∃ n : Nat, a = n := ⟨a.toNat, by omega⟩
  unfold maxLen at hs
  by_cases hlt : a < s.length
  · have e1 := slice_lo ⟨s.toArray⟩ a (Nat.le_of_lt hlt)
    have e2 := slice_hi ((⟨s.toArray⟩ : ByteArray).extract a (⟨s.toArray⟩ : ByteArray).size) (by rw [ByteArray.size_extract]; show 1 ≤ min s.length s.length - a; omega)
    have e3 : ((⟨s.toArray⟩ : ByteArray).extract a (⟨s.toArray⟩ : ByteArray).size).extract 0 1 = baL [s.getD a 0] := one_letter s a hlt
    rw [e3] at e2
    have hd : (baL [s.getD a 0]).size ≤ 9223372036854775807 := by show 1 ≤ _; omega
    have e4 : namesI ts s a = if refsB (tsP ts) (baL [s.getD a 0]) = true then ((s.getD a 0).toNat : Int) - 48 else -1 := by
      unfold namesI
      simp only [Int.toNat_natCast]
      by_cases hr : refsB (tsP ts) (baL [s.getD a 0]) = true
      · rw [if_pos ⟨by omega, by omega, hr⟩, if_pos hr]
      · rw [if_neg (fun h => hr h.2.2), if_neg hr]
    have e5 : (⟨s.toArray⟩ : ByteArray)[a]'hlt = s.getD a 0 := by
      rw [List.getD_eq_getElem?_getD, List.getElem?_eq_getElem hlt]; rfl
    rw [e4]
    rcases hr : refsB (tsP ts) (baL [s.getD a 0]) with _ | _
    · rw [if_neg (by simp)]
      exact named_f v (tsP ts) ⟨s.toArray⟩ _ _ a w h hs hd (by omega) hlt e1 e2 (Lib.hid hr)
    · rw [if_pos rfl]
      have h48 := ((refs_list.1 hr).2 (s.getD a 0) (by simp)).1
      have := named_t v (tsP ts) ⟨s.toArray⟩ _ _ a w h hs hd (by omega) hlt e1 e2 (Lib.hid hr) (by rw [e5]; exact h48) (UInt8.toNat_lt _)
      rw [e5] at this
      exact this
  · rw [names_no (by omega)]
    obtain ⟨x, c, rfl, -, -⟩ := h.shape
    exact named_out _ ⟨s.toArray⟩ a w hs (by omega) (by show s.length ≤ a; omega) ⟨_, _, _, rfl⟩
theorem names_le {ts : List Bs} {s : Bs} {a : Int} : -1 ≤ namesI ts s a ∧ namesI ts s a ≤ 207 := by
  unfold namesI
  split
  · next h =>
    have h1 := ((refs_list.1 h.2.2).2 (s.getD a.toNat 0) (by simp)).1
    have h2 := UInt8.toNat_lt (s.getD a.toNat 0)
    have e : (2 : Nat) ^ 8 = 256 := rfl
    omega
  · omega

theorem local_any (v : Value) (p : PProg) (a : Int) (w : World) (h : ProgAt w v p) (hs : OkP p) (h0 : 0 ≤ a) (ha : a ≤ 255) : Calls Tryz.prog 95 #[v, .int .u8 a] w (AggPost w (.int .i64 (localI p a))) := by
  obtain ⟨vt, vc, rfl, ht, hc⟩ := h
  have hwb : Below w.heap.size w (w.alloc (.cells (progC vt p vc) 25)) := (Below.refl _ _).alloc (Nat.le_refl _) _
  have HN := Lib.hid (named_any vt p.types p.locals a _ (ts_of (ht.below hwb) hs.ty) hs.lo h0 ha)
  have HW := Lib.hid hwb
  obtain ⟨x, c, rfl, -, -, -⟩ := id ht.elems
  obtain ⟨x', c', rfl, -, -, -⟩ := id hc
  clear ht hc hs hwb
  go_enter Tryz.func95, Tryz.ntmps95
  go_wp2_with (go_at_call 111; refine HN.out.mono ?_; rintro e w' ⟨rfl, rfl⟩)
  go_ret
  exact ⟨rfl, HW.out⟩
theorem glob_any (v : Value) (p : PProg) (a : Int) (w : World) (h : ProgAt w v p) (hs : OkP p) (h0 : 0 ≤ a) (ha : a ≤ 255) : Calls Tryz.prog 107 #[v, .int .u8 a] w (AggPost w (.int .i64 (globI p a))) := by
  obtain ⟨vt, vc, rfl, ht, hc⟩ := h
  have hwb : Below w.heap.size w (w.alloc (.cells (progC vt p vc) 25)) := (Below.refl _ _).alloc (Nat.le_refl _) _
  have HN := Lib.hid (named_any vt p.types p.globs a _ (ts_of (ht.below hwb) hs.ty) hs.gl h0 ha)
  have HW := Lib.hid hwb
  obtain ⟨x, c, rfl, -, -, -⟩ := id ht.elems
  obtain ⟨x', c', rfl, -, -, -⟩ := id hc
  clear ht hc hs hwb
  go_enter Tryz.func107, Tryz.ntmps107
  go_wp2_with (go_at_call 111; refine HN.out.mono ?_; rintro e w' ⟨rfl, rfl⟩)
  go_ret
  exact ⟨rfl, HW.out⟩
end Go.Proofs.YtapjgobkpehgfaaGreatDoor
