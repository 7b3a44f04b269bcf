/-
  WordErrors: the walk.
-/
import Derived.Test.YtpecigjdellpaaaDoorWTwo
import Derived.Test.YtpecigjdellpaaaDoorWMayR
import Derived.Laws.IdiomStrings
namespace Go.Proofs.YtpecigjdellpaaaDoor
open Go.RowKit

theorem mayR_one (c : UInt8) : mayR [c] = okC c := by
  unfold mayR mayL; simp
theorem mayR_t (x : Bs) (w : World) (hx : x.length ≤ 140737488351232) (h : Hid (mayR x = true)) : Calls Tryd.prog 20 #[str x] w fun e w' => e = .returned (.bool true) ∧ w = w' :=
  (mayR_any ⟨x.toArray⟩ w (by rw [bs_size]; unfold maxLen; omega)).mono fun e w' ⟨h1, h2⟩ => ⟨by rw [h1, h.out], h2⟩
theorem mayR_f (x : Bs) (w : World) (hx : x.length ≤ 140737488351232) (h : Hid (mayR x = false)) : Calls Tryd.prog 20 #[str x] w fun e w' => e = .returned (.bool false) ∧ w = w' :=
  (mayR_any ⟨x.toArray⟩ w (by rw [bs_size]; unfold maxLen; omega)).mono fun e w' ⟨h1, h2⟩ => ⟨by rw [h1, h.out], h2⟩

/-- 'string([]byte{c})', right behind the making. -/
theorem conv_one (c : UInt8) (w : World) : (convert 42 9 (.slice (some ⟨w.heap.size, 0, none⟩) 1 1)).run Tryd.prog (w.alloc (.cells #[.int .u8 c.toNat] 5)) = .ok (str [c]) (w.alloc (.cells #[.int .u8 c.toNat] 5)) := by
  refine run_convert_bytes_back _ 42 9 5 _ 1 [c] Tryd.underlying42 Tryd.underlying5 Tryd.underlying9 ?_
  intro j hj
  obtain rfl : j = 0 := by simp at hj; omega
  exact one_cell w (.int .u8 c.toNat) 5 0 _ rfl
theorem eqN_of {c : UInt8} {n : Nat} (h : c.toNat = n) : (((c.toNat : Nat) : Int) == (n : Int)) = true := by rw [h]; simp
theorem neN_of {c : UInt8} {n : Nat} (h : c.toNat ≠ n) : (((c.toNat : Nat) : Int) == (n : Int)) = false := by simp; omega
theorem one_below (w : World) (o : Obj) : Below w.heap.size w (w.alloc o) := (Below.refl _ _).alloc (Nat.le_refl _) _

set_option maxRecDepth 100000 in
theorem errs_big (s t : ByteArray) (c : UInt8) (w : World) (hs : 3000 < s.size ∨ 3000 < t.size) (hmax : s.size ≤ maxLen) (hmax' : t.size ≤ maxLen) (hm : HasM w) :
    Calls Tryd.prog 7 #[.string s, .string t, .int .u8 c.toNat] w fun e w' => e = .returned (.bool true) ∧ Below w.heap.size w w' := by
  have HA := alive_any w hm
  unfold maxLen at hmax hmax'
  by_cases h1 : 3000 < s.size
  · clear hs
    go_enter Tryd.func7, Tryd.ntmps7
    go_wp2_with (go_at_call 10; refine HA.mono ?_; rintro e w1 ⟨rfl, hb1⟩)
    go_ret
    exact ⟨rfl, hb1⟩
  · have h2 : 3000 < t.size := by omega
    clear hs
    go_enter Tryd.func7, Tryd.ntmps7
    go_wp2_with (go_at_call 10; refine HA.mono ?_; rintro e w1 ⟨rfl, hb1⟩)
    go_ret
    exact ⟨rfl, hb1⟩
set_option maxRecDepth 100000 in
theorem errs_may (s t : ByteArray) (c : UInt8) (w : World) (hs : s.size ≤ 3000) (ht : t.size ≤ 3000) (hm : HasM w) (HC : Hid (mayR [c] = true)) :
    Calls Tryd.prog 7 #[.string s, .string t, .int .u8 c.toNat] w fun e w' => e = .returned (.bool true) ∧ Below w.heap.size w w' := by
  have HA := alive_any w hm
  have hcv := conv_one c
  go_enter Tryd.func7, Tryd.ntmps7
  go_wp2_with (first
    | (go_at_call 10; refine HA.mono ?_; rintro e w1 ⟨rfl, hb1⟩; have hm1 := hm.below hb1)
    | (go_at_call 20; refine (mayR_t [c] _ (by simp) HC).mono ?_; rintro e w2 ⟨rfl, rfl⟩))
  go_ret
  exact ⟨rfl, hb1.trans ((one_below w1 _).mono hb1.size)⟩
set_option maxRecDepth 100000 in
theorem errs_three (s t : ByteArray) (c : UInt8) (w : World) (hs : s.size ≤ 3000) (ht : t.size ≤ 3000) (hm : HasM w) (HC : Hid (mayR [c] = false)) (h : c.toNat = 32 ∨ c.toNat = 35 ∨ c.toNat = 10) :
    Calls Tryd.prog 7 #[.string s, .string t, .int .u8 c.toNat] w fun e w' => e = .returned (.bool true) ∧ Below w.heap.size w w' := by
  have HA := alive_any w hm
  have hcv := conv_one c
  rcases h with h | h | h
  · have e1 : (((c.toNat : Nat) : Int) == 32) = true := eqN_of h
    clear h
    go_enter Tryd.func7, Tryd.ntmps7
    go_wp2_with (first
      | (go_at_call 10; refine HA.mono ?_; rintro e w1 ⟨rfl, hb1⟩; have hm1 := hm.below hb1)
      | (go_at_call 20; refine (mayR_f [c] _ (by simp) HC).mono ?_; rintro e w2 ⟨rfl, rfl⟩))
    go_ret
    exact ⟨rfl, hb1.trans ((one_below w1 _).mono hb1.size)⟩
  · have e1 : (((c.toNat : Nat) : Int) == 32) = false := neN_of (n := 32) (by omega)
    have e2 : (((c.toNat : Nat) : Int) == 35) = true := eqN_of h
    clear h
    go_enter Tryd.func7, Tryd.ntmps7
    go_wp2_with (first
      | (go_at_call 10; refine HA.mono ?_; rintro e w1 ⟨rfl, hb1⟩; have hm1 := hm.below hb1)
      | (go_at_call 20; refine (mayR_f [c] _ (by simp) HC).mono ?_; rintro e w2 ⟨rfl, rfl⟩))
    go_ret
    exact ⟨rfl, hb1.trans ((one_below w1 _).mono hb1.size)⟩
  · have e1 : (((c.toNat : Nat) : Int) == 32) = false := neN_of (n := 32) (by omega)
    have e2 : (((c.toNat : Nat) : Int) == 35) = false := neN_of (n := 35) (by omega)
    have e3 : (((c.toNat : Nat) : Int) == 10) = true := eqN_of h
    clear h
    go_enter Tryd.func7, Tryd.ntmps7
    go_wp2_with (first
      | (go_at_call 10; refine HA.mono ?_; rintro e w1 ⟨rfl, hb1⟩; have hm1 := hm.below hb1)
      | (go_at_call 20; refine (mayR_f [c] _ (by simp) HC).mono ?_; rintro e w2 ⟨rfl, rfl⟩))
    go_ret
    exact ⟨rfl, hb1.trans ((one_below w1 _).mono hb1.size)⟩
set_option maxRecDepth 100000 in
theorem errs_ahead (s t : ByteArray) (c : UInt8) (n : Nat) (w : World) (hs : s.size ≤ 3000) (ht : t.size ≤ 3000) (hm : HasM w) (HC : Hid (mayR [c] = false)) (h1 : c.toNat ≠ 32) (h2 : c.toNat ≠ 35) (h3 : c.toNat ≠ 10)
    (HL : Hid (∀ w, HasM w → Calls Tryd.prog 11 #[.string s] w (ErrPost w n))) :
    Calls Tryd.prog 7 #[.string s, .string t, .int .u8 c.toNat] w fun e w' => e = .returned (.bool true) ∧ Below w.heap.size w w' := by
  have HA := alive_any w hm
  have hcv := conv_one c
  have e1 : (((c.toNat : Nat) : Int) == 32) = false := neN_of h1
  have e2 : (((c.toNat : Nat) : Int) == 35) = false := neN_of h2
  have e3 : (((c.toNat : Nat) : Int) == 10) = false := neN_of h3
  clear h1 h2 h3
  go_enter Tryd.func7, Tryd.ntmps7
  go_wp2_with (first
    | (go_at_call 10; refine HA.mono ?_; rintro e w1 ⟨rfl, hb1⟩; have hm1 := hm.below hb1)
    | (go_at_call 20; refine (mayR_f [c] _ (by simp) HC).mono ?_; rintro e w2 ⟨rfl, rfl⟩; have hb2 := one_below w1 (.cells #[.int .u8 c.toNat] 5); have hm2 := hm1.below hb2)
    | (go_at_call 11; refine (HL.out _ hm2).mono ?_; rintro e w3 ⟨a3, c3, rfl, hb3⟩))
  go_ret
  have s1 := hb1.size
  have s2 := hb2.size
  exact ⟨rfl, (hb1.trans (hb2.mono (by omega))).trans (hb3.mono (by omega))⟩
set_option maxRecDepth 100000 in
set_option maxHeartbeats 4000000 in
theorem errs_told (s t : ByteArray) (c : UInt8) (n : Nat) (G : List (List Bs)) (w : World) (hs : s.size ≤ 3000) (ht : t.size ≤ 3000) (hm : HasM w) (HC : Hid (mayR [c] = false)) (h1 : c.toNat ≠ 32) (h2 : c.toNat ≠ 35) (h3 : c.toNat ≠ 10)
    (HL : Hid (∀ w, HasM w → Calls Tryd.prog 11 #[.string s] w (OkPost w G))) (hn : n = s.data.toList.count 10 + 2)
    (HE : Hid (∀ w, HasM w → Calls Tryd.prog 11 #[.string (s ++ ⟨#[10, 111, 107, 32]⟩ ++ ⟨[c].toArray⟩ ++ ⟨#[10]⟩ ++ t)] w (ErrPost w n))) :
    Calls Tryd.prog 7 #[.string s, .string t, .int .u8 c.toNat] w fun e w' => e = .returned (.bool true) ∧ Below w.heap.size w w' := by
  have HA := alive_any w hm
  have hcv := conv_one c
  have HN := Lib.hid hn
  have hsz : (⟨[c].toArray⟩ : ByteArray).size = 1 := rfl
  have e1 : (((c.toNat : Nat) : Int) == 32) = false := neN_of h1
  have e2 : (((c.toNat : Nat) : Int) == 35) = false := neN_of h2
  have e3 : (((c.toNat : Nat) : Int) == 10) = false := neN_of h3
  clear h1 h2 h3 hn
  go_enter Tryd.func7, Tryd.ntmps7
  go_wp2_with (first
    | (go_at_call 10; refine HA.mono ?_; rintro e w1 ⟨rfl, hb1⟩; have hm1 := hm.below hb1)
    | (go_at_call 20; refine (mayR_f [c] _ (by simp) HC).mono ?_; rintro e w2 ⟨rfl, rfl⟩; have hb2 := one_below w1 (.cells #[.int .u8 c.toNat] 5); have hm2 := hm1.below hb2)
    | (go_at_call 11; refine (HL.out _ hm2).mono ?_; rintro e w3 ⟨a3, c3, rfl, _, hb3⟩; have hm3 := hm2.below hb3))
  go_loop [10, 53] (fun v10 v53 => ∃ k m : Nat, k ≤ s.size ∧ v53 = .int .i64 k ∧ v10 = .int .i64 m ∧ m = cntTo s k + 2) (fun _ v53 => s.size - (intOf v53).toNat)
  case atStart => exact ⟨0, 2, Nat.zero_le _, rfl, rfl, by rw [cnt_zero]⟩
  case round =>
    obtain ⟨k, m, hk, rfl, rfl, hcm⟩ := hrel
    have hmk : m ≤ 3002 := by have := cnt_le s k; omega
    by_cases hlt : k < s.size
    · have HM := Lib.hid hcm
      clear hcm
      by_cases h10 : s[k] = 10
      · have e1 := eq10_of h10
        have HN : Hid (m + 1 = cntTo s (k + 1) + 2) := Lib.hid (by rw [cnt_yes hlt h10, HM.out])
        clear h10
        go_wp2
        go_round
        case rel => exact ⟨k + 1, m + 1, by omega, by go_num, by go_num, HN.out⟩
        case measure => simp [intOf]; omega
      · have e1 := ne10_of h10
        have HN : Hid (m = cntTo s (k + 1) + 2) := Lib.hid (by rw [cnt_no hlt h10, HM.out])
        clear h10
        go_wp2
        go_round
        case rel => exact ⟨k + 1, m, by omega, by go_num, rfl, HN.out⟩
        case measure => simp [intOf]; omega
    · have HM : Hid (m = s.data.toList.count 10 + 2) := Lib.hid (by
        obtain rfl : k = s.size := by omega
        rw [← cnt_all]; exact hcm)
      clear hcm
      have hE : n = m := by rw [HN.out, HM.out]
      subst hE
      have hcv3 := conv_one c w3
      have hb4 := one_below w3 (.cells #[.int .u8 c.toNat] 5)
      have hm4 := hm3.below hb4
      go_wp2_with (go_at_call 11; refine (HE.out _ hm4).mono ?_; rintro e w5 ⟨a5, c5, rfl, hb5⟩)
      go_ret
      refine ⟨rfl, ?_⟩
      have s1 := hb1.size
      have s2 := hb2.size
      have s3 := hb3.size
      have s4 := hb4.size
      exact (((hb1.trans (hb2.mono (by omega))).trans (hb3.mono (by omega))).trans (hb4.mono (by omega))).trans (hb5.mono (by omega))

theorem errs_list (s t : ByteArray) (c : UInt8) : (s ++ ⟨#[10, 111, 107, 32]⟩ ++ ⟨[c].toArray⟩ ++ ⟨#[10]⟩ ++ t).data.toList = s.data.toList ++ 10 :: ([111, 107, 32, c] ++ 10 :: t.data.toList) := by simp
theorem errs_walk (s t : ByteArray) (a : Int) (hmax : s.size ≤ maxLen) (hmax' : t.size ≤ maxLen) (ha : (Lit.int .u8 a).wf = true) (w : World) (hm : HasM w) :
    Calls Tryd.prog 7 #[.string s, .string t, .int .u8 a] w fun e w' => e = .returned (.bool true) ∧ Below w.heap.size w w' := by
  obtain ⟨c, rfl⟩ : ∃ c : UInt8, a = c.toNat := by
    have hb : 0 ≤ a ∧ a ≤ 255 := by
      simp only [Lit.wf, IntKind.wrap, decide_eq_true_eq] at ha
      have e1 : IntKind.u8.min = 0 := by decide
      have e2 : IntKind.u8.max = 255 := by decide
      simp at ha
      omega
    exact ⟨UInt8.ofNat a.toNat, by rw [UInt8.toNat_ofNat']; omega⟩
  by_cases hbig : 3000 < s.size ∨ 3000 < t.size
  · exact errs_big s t c w hbig hmax hmax' hm
  · have hs : s.size ≤ 3000 := by omega
    have ht : t.size ≤ 3000 := by omega
    rcases hc : okC c with _ | _
    · have HC : Hid (mayR [c] = false) := Lib.hid (by rw [mayR_one, hc])
      by_cases h3 : c.toNat = 32 ∨ c.toNat = 35 ∨ c.toNat = 10
      · exact errs_three s t c w hs ht hm HC h3
      · have n1 : c.toNat ≠ 32 := by omega
        have n2 : c.toNat ≠ 35 := by omega
        have n3 : c.toNat ≠ 10 := by omega
        rcases linesL_cases s.data.toList (by rw [len_size]; omega) with ⟨h1, h2⟩ | ⟨k, l, h1, _⟩
        · have hcl := errs_list s t c
          have hlen : (s.data.toList ++ 10 :: ([111, 107, 32, c] ++ 10 :: t.data.toList)).length ≤ 20000 := by
            simp only [List.length_append, List.length_cons, len_size, List.length_nil]; omega
          have hcm : (s ++ ⟨#[10, 111, 107, 32]⟩ ++ ⟨[c].toArray⟩ ++ ⟨#[10]⟩ ++ t).size ≤ maxLen := by
            rw [← len_size, hcl]; unfold maxLen; omega
          exact errs_told s t c _ _ w hs ht hm HC n1 n2 n3 (Lib.hid fun w hm => lines_ok s _ w hmax hm h1) rfl
            (Lib.hid fun w hm => lines_err _ _ w hcm hm (by
              rw [hcl]
              exact errs hlen h2 hc (fun e => n1 (by rw [e]; rfl)) (fun e => n2 (by rw [e]; rfl)) (fun e => n3 (by rw [e]; rfl))))
        · exact errs_ahead s t c (k + 1) w hs ht hm HC n1 n2 n3 (Lib.hid fun w hm => lines_err s _ w hmax hm h1)
    · exact errs_may s t c w hs ht hm (Lib.hid (by rw [mayR_one, hc]))
end Go.Proofs.YtpecigjdellpaaaDoor
