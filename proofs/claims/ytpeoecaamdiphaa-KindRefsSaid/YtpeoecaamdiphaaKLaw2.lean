/-
  KindRefs: the walk.
-/
import Derived.Test.YtpeoecaamdiphaaKAlive
namespace Go.Proofs.Ytpeoecaamdiphaa
open Go.RowKit

theorem kright_x (v : Value) (ts : List ByteArray) (x : Bool) (w : World) (h : TsAt w v ts) (hr : Hid (rightB ts = x)) : Calls Try.prog 12 #[v] w fun e w' => e = .returned (.bool x) ∧ w = w' :=
  (kright_any v ts w h).mono fun e w' ⟨h1, h2⟩ => ⟨by rw [h1, hr.out], h2⟩
theorem byt_append_l {a b : ByteArray} {k : Nat} (h : k < a.size) : byt (a ++ b) k = byt a k := by
  have h' : k < a.data.toList.length := by rw [Array.length_toList]; exact h
  unfold byt
  rw [ByteArray.data_append, Array.toList_append, List.getD_eq_getElem?_getD, List.getD_eq_getElem?_getD, List.getElem?_append_left h']
theorem byt_append_r {a b : ByteArray} {k : Nat} : byt (a ++ b) (a.size + k) = byt b k := by
  have h' : a.data.toList.length = a.size := by rw [Array.length_toList]; rfl
  unfold byt
  rw [ByteArray.data_append, Array.toList_append, List.getD_eq_getElem?_getD, List.getD_eq_getElem?_getD, List.getElem?_append_right (by omega), h', Nat.add_sub_cancel_left]
theorem refs_append (ts : List ByteArray) (a b : ByteArray) : refsB ts (a ++ b) = (refsB ts a && refsB ts b) := by
  rw [Bool.eq_iff_iff, Bool.and_eq_true, refs_iff, refs_iff, refs_iff, ByteArray.size_append]
  constructor
  · rintro ⟨h1, h2⟩
    refine ⟨⟨h1, fun k hk => ?_⟩, h1, fun k hk => ?_⟩
    · have := h2 k (by omega); rwa [byt_append_l hk] at this
    · have := h2 (a.size + k) (by omega); rwa [byt_append_r] at this
  · rintro ⟨⟨h1, h2⟩, _, h3⟩
    refine ⟨h1, fun k hk => ?_⟩
    by_cases hka : k < a.size
    · rw [byt_append_l hka]; exact h2 k hka
    · obtain ⟨j, rfl⟩ : ∃ j, k = a.size + j := ⟨k - a.size, by omega⟩
      rw [byt_append_r]; exact h3 j (by omega)
theorem refs_empty (ts : List ByteArray) : refsB ts ⟨#[]⟩ = rightB ts := by
  rw [Bool.eq_iff_iff, refs_iff]
  exact ⟨fun h => h.1, fun h => ⟨h, fun k hk => absurd hk (Nat.not_lt_zero k)⟩⟩
theorem byt_extract {a : ByteArray} {k : Nat} (h : k < a.size) : byt (a.extract k (k + 1)) 0 = byt a k := by
  have h' : k < a.data.toList.length := by rw [Array.length_toList]; exact h
  have h0 : k < a.data.size := h
  unfold byt
  rw [ByteArray.data_extract, List.getD_eq_getElem?_getD, List.getD_eq_getElem?_getD, Array.getElem?_toList, Array.getElem?_toList, Array.getElem?_extract]
  have h1 : 0 < min (k + 1) a.data.size - k := by omega
  rw [if_pos h1]; rfl
theorem refs_single {ts : List ByteArray} {a : ByteArray} {k : Nat} (h : k < a.size) : refsB ts (a.extract k (k + 1)) = (rightB ts && digB ts.length (byt a k)) := by
  rw [Bool.eq_iff_iff, refs_iff, Bool.and_eq_true, ByteArray.size_extract]
  constructor
  · rintro ⟨h1, h2⟩
    have := h2 0 (by omega)
    rw [byt_extract h] at this
    exact ⟨h1, this⟩
  · rintro ⟨h1, h2⟩
    refine ⟨h1, fun j hj => ?_⟩
    obtain rfl : j = 0 := by omega
    rw [byt_extract h]; exact h2

theorem slice_at (s : ByteArray) (k : Nat) (h : k < s.size) (w : World) : (Instr.slice 9 (.string s) (some (.int .i64 k)) (some (.int .i64 (k + 1))) none).run Try.prog w = .ok (.string (s.extract k (k + 1))) w := by
  have := run_slice_string (P := Try.prog) w 9 s .i64 .i64 (k : Int) ((k : Int) + 1) Try.underlying9 (by omega) (by omega) (by omega)
  simpa using this

/-- As far as the first k letters. -/
def eachB (ts : List ByteArray) (a : ByteArray) (k : Nat) : Bool := rightB ts && decide (∀ j, j < k → digB ts.length (byt a j) = true)
theorem each_zero (ts : List ByteArray) (a : ByteArray) : eachB ts a 0 = rightB ts := by
  unfold eachB; rw [decide_eq_true (fun j hj => absurd hj (by omega)), Bool.and_true]
theorem each_all (ts : List ByteArray) (a : ByteArray) : eachB ts a a.size = refsB ts a := rfl
theorem each_next {ts : List ByteArray} {a : ByteArray} {k : Nat} (h : k < a.size) : eachB ts a (k + 1) = (eachB ts a k && refsB ts (a.extract k (k + 1))) := by
  rw [refs_single h, Bool.eq_iff_iff]
  simp only [eachB, Bool.and_eq_true, decide_eq_true_eq]
  constructor
  · rintro ⟨h1, h2⟩; exact ⟨⟨h1, fun j hj => h2 j (by omega)⟩, h1, h2 k (by omega)⟩
  · rintro ⟨⟨h1, h2⟩, _, h3⟩; exact ⟨h1, all_next h2 h3⟩

set_option maxHeartbeats 4000000 in
theorem refs_walk (v : Value) (ts : List ByteArray) (a b : ByteArray) (w : World) (h : TsAt w v ts) (ha : a.size ≤ 9223372036854775807) (hb : b.size ≤ 9223372036854775807) : Calls Try.prog 9 #[v, .string a, .string b] w (TrueB w) := by
  have H := Lib.hid h
  clear h
  rcases hf : fewB ts with _ | _
  · have HF := Lib.hid hf
    clear hf
    go_enter Try.func9, Try.ntmps9
    go_wp2_with (first
      | (go_at_call 10; refine (alive_any _).mono ?_; rintro e w1 ⟨rfl, hb1⟩)
      | (go_at_call 11; refine (few_f _ ts _ (H.out.below hb1) HF).mono ?_; rintro e w' ⟨rfl, rfl⟩))
    go_ret
    exact ⟨rfl, hb1⟩
  have HF := Lib.hid hf
  clear hf
  by_cases hga : 100 < a.size
  · go_enter Try.func9, Try.ntmps9
    go_wp2_with (first
      | (go_at_call 10; refine (alive_any _).mono ?_; rintro e w1 ⟨rfl, hb1⟩)
      | (go_at_call 11; refine (few_t _ ts _ (H.out.below hb1) HF).mono ?_; rintro e w' ⟨rfl, rfl⟩))
    go_ret
    exact ⟨rfl, hb1⟩
  by_cases hgb : 100 < b.size
  · go_enter Try.func9, Try.ntmps9
    go_wp2_with (first
      | (go_at_call 10; refine (alive_any _).mono ?_; rintro e w1 ⟨rfl, hb1⟩)
      | (go_at_call 11; refine (few_t _ ts _ (H.out.below hb1) HF).mono ?_; rintro e w' ⟨rfl, rfl⟩))
    go_ret
    exact ⟨rfl, hb1⟩
  have hab := refs_append ts a b
  have hem := refs_empty ts
  have hsz : (a ++ b).size ≤ 9223372036854775807 := by rw [ByteArray.size_append]; omega
  have HE0 := Lib.hid (each_zero ts a)
  have HEA := Lib.hid (each_all ts a)
  generalize hR : rightB ts = R at hem HE0
  generalize hA : refsB ts a = A at hab HEA
  generalize hB : refsB ts b = B at hab
  have HR := Lib.hid hR
  have HA := Lib.hid hA
  have HB := Lib.hid hB
  have HAB := Lib.hid hab
  have HEM := Lib.hid hem
  clear hR hA hB hab hem
  go_enter Try.func9, Try.ntmps9
  cases A <;> cases B <;> cases R
  all_goals
    go_wp2_with (first
      | (go_at_call 10; refine (alive_any _).mono ?_; rintro e w1 ⟨rfl, hb1⟩; have HT1 := Lib.hid (H.out.below hb1))
      | (go_at_call 11; refine (few_t _ ts _ HT1.out HF).mono ?_; rintro e w' ⟨rfl, rfl⟩)
      | (go_at_call 14; with_reducible refine (krefs_n _ ts a _ _ HT1.out ha HA).mono ?_; rintro e w' ⟨rfl, rfl⟩)
      | (go_at_call 14; with_reducible refine (krefs_n _ ts b _ _ HT1.out hb HB).mono ?_; rintro e w' ⟨rfl, rfl⟩)
      | (go_at_call 12; refine (kright_x _ ts _ _ HT1.out HR).mono ?_; rintro e w' ⟨rfl, rfl⟩))
    go_loop [8, 37] (fun x i => ∃ (k : Nat) (E : Bool), k ≤ a.size ∧ i = .int .i64 k ∧ x = .bool E ∧ Hid (eachB ts a k = E)) (fun _ i => a.size - (intOf i).toNat)
    case atStart => exact ⟨0, _, Nat.zero_le _, rfl, rfl, HE0⟩
    case round =>
      obtain ⟨k, E, hk, rfl, rfl, hE⟩ := hrel
      by_cases hlt : k < a.size
      · have hN := each_next (ts := ts) hlt
        rw [hE.out] at hN
        cases E
        · have HN := Lib.hid hN
          clear hN
          go_wp2
          go_round
          case rel => exact ⟨k + 1, false, by omega, by go_num, rfl, HN⟩
          case measure => simp [intOf]; omega
        · have hes : (a.extract k (k + 1)).size ≤ 9223372036854775807 := by rw [ByteArray.size_extract]; omega
          have hsl := slice_at a k hlt w1
          generalize a.extract k (k + 1) = d at hN hes hsl
          generalize hX : refsB ts d = X at hN
          have HX := Lib.hid hX
          have HN := Lib.hid hN
          clear hX hN
          cases X
          all_goals
            go_wp2_with (go_at_call 14; refine (krefs_n _ ts _ _ _ HT1.out hes HX).mono ?_; rintro e w' ⟨rfl, rfl⟩)
            go_round
            case rel => exact ⟨k + 1, _, by omega, by go_num, rfl, HN⟩
            case measure => simp [intOf]; omega
      · obtain rfl : k = a.size := by omega
        have hEE : E = _ := hE.out.symm.trans HEA.out
        subst hEE
        go_wp2_with (first
          | (go_at_call 14; with_reducible refine (krefs_n _ ts (a ++ b) _ _ HT1.out hsz HAB).mono ?_; rintro e w' ⟨rfl, rfl⟩)
          | (go_at_call 14; with_reducible refine (krefs_n _ ts a _ _ HT1.out ha HA).mono ?_; rintro e w' ⟨rfl, rfl⟩)
          | (go_at_call 14; with_reducible refine (krefs_n _ ts ⟨#[]⟩ _ _ HT1.out (by decide) HEM).mono ?_; rintro e w' ⟨rfl, rfl⟩)
          | (go_at_call 12; refine (kright_x _ ts _ _ HT1.out HR).mono ?_; rintro e w' ⟨rfl, rfl⟩))
        go_ret
        exact ⟨rfl, hb1⟩
end Go.Proofs.Ytpeoecaamdiphaa
