/-
  WordSpaces: the walk.
-/
import Derived.Test.YtpecigjdellpaaaDoorWTwo
namespace Go.Proofs.YtpecigjdellpaaaDoor
open Go.RowKit

/-- None of the first k bytes is the byte 10. -/
def NoTo (s : ByteArray) (k : Nat) : Prop := ∀ c ∈ s.data.toList.take k, c ≠ 10
theorem NoTo.next {s : ByteArray} {k : Nat} (h : NoTo s k) (hk : k < s.size) (hc : s[k] ≠ 10) : NoTo s (k + 1) := by
  intro c hm
  rw [take_snoc s k hk] at hm
  rcases List.mem_append.1 hm with h' | h'
  · exact h c h'
  · simp at h'; subst h'; exact hc
theorem noTo_zero (s : ByteArray) : NoTo s 0 := by intro c h; simp at h
theorem NoTo.all {s : ByteArray} (h : NoTo s s.size) : ∀ c ∈ s.data.toList, c ≠ 10 := by
  have e : s.data.toList.take s.size = s.data.toList := List.take_of_length_le (by rw [len_size]; exact Nat.le_refl _)
  rw [NoTo, e] at h
  exact h

set_option maxRecDepth 100000 in
theorem spaces_big (s t : ByteArray) (a : Int) (w : World) (hs : 3000 < s.size ∨ 3000 < t.size) (hmax : s.size ≤ maxLen) (hmax' : t.size ≤ maxLen) (hm : HasM w) :
    Calls Tryd.prog 6 #[.string s, .int .u16 a, .string t] w fun e w' => e = .returned (.bool true) ∧ Below w.heap.size w w' := by
  have HA := alive_any w hm
  unfold maxLen at hmax hmax'
  by_cases h1 : 3000 < s.size
  · clear hs
    go_enter Tryd.func6, Tryd.ntmps6
    go_wp2_with (go_at_call 10; refine HA.mono ?_; rintro e w1 ⟨rfl, hb1⟩)
    go_ret
    exact ⟨rfl, hb1⟩
  · have h2 : 3000 < t.size := by omega
    clear hs
    go_enter Tryd.func6, Tryd.ntmps6
    go_wp2_with (go_at_call 10; refine HA.mono ?_; rintro e w1 ⟨rfl, hb1⟩)
    go_ret
    exact ⟨rfl, hb1⟩
set_option maxRecDepth 100000 in
theorem spaces_err (s t : ByteArray) (a : Int) (n : Nat) (w : World) (hs : s.size ≤ 3000) (ht : t.size ≤ 3000) (hm : HasM w) (HL : Hid (∀ w, HasM w → Calls Tryd.prog 11 #[.string s] w (ErrPost w n))) :
    Calls Tryd.prog 6 #[.string s, .int .u16 a, .string t] w fun e w' => e = .returned (.bool true) ∧ Below w.heap.size w w' := by
  have HA := alive_any w hm
  go_enter Tryd.func6, Tryd.ntmps6
  go_wp2_with (first
    | (go_at_call 10; refine HA.mono ?_; rintro e w1 ⟨rfl, hb1⟩; have hm1 := hm.below hb1)
    | (go_at_call 11; refine (HL.out w1 hm1).mono ?_; rintro e w2 ⟨a2, c2, rfl, hb2⟩))
  go_ret
  exact ⟨rfl, hb1.trans (hb2.mono hb1.size)⟩

set_option maxRecDepth 100000 in
set_option maxHeartbeats 4000000 in
theorem spaces_told (s t : ByteArray) (a : Int) (i : Nat) (G : List (List Bs)) (w : World) (hs : s.size ≤ 3000) (ht : t.size ≤ 3000) (hm : HasM w) (ha : 0 ≤ a ∧ a ≤ 65535) (hi : Int.tmod a ((s.size : Int) + 1) = (i : Int)) (hle : i ≤ s.size)
    (HL : Hid (∀ w, HasM w → Calls Tryd.prog 11 #[.string s] w (OkPost w G)))
    (H2 : Hid ((∀ c ∈ t.data.toList, c ≠ 10) → ∀ w, HasM w → Calls Tryd.prog 11 #[.string (⟨#[10, 10]⟩ ++ s ++ ⟨#[32, 35]⟩ ++ t ++ ⟨#[10, 32, 10]⟩)] w (OkPost w G)))
    (H3 : Hid (∀ hlt : i < s.size, s[i].toNat = 32 → ∀ w, HasM w → Calls Tryd.prog 11 #[.string (s.extract 0 i ++ ⟨#[32, 32]⟩ ++ s.extract (i + 1) s.size)] w (OkPost w G))) :
    Calls Tryd.prog 6 #[.string s, .int .u16 a, .string t] w fun e w' => e = .returned (.bool true) ∧ Below w.heap.size w w' := by
  have HA := alive_any w hm
  obtain ⟨ha0, ha1⟩ := ha
  go_enter Tryd.func6, Tryd.ntmps6
  go_wp2_with (first
    | (go_at_call 10; refine HA.mono ?_; rintro e w1 ⟨rfl, hb1⟩; have hm1 := hm.below hb1)
    | (go_at_call 11; refine (HL.out w1 hm1).mono ?_; rintro e w2 ⟨a2, c2, rfl, hg2, hb2⟩; have hm2 := hm1.below hb2))
  go_loop [39] (fun v39 => ∃ k : Nat, k ≤ t.size ∧ v39 = .int .i64 k ∧ NoTo t k) (fun v39 => t.size - (intOf v39).toNat)
  case atStart => exact ⟨0, Nat.zero_le _, rfl, noTo_zero t⟩
  case round =>
    obtain ⟨k, hk, rfl, hno⟩ := hrel
    by_cases hlt : k < t.size
    · by_cases h10 : t[k] = 10
      · have e1 := eq10_of h10
        clear h10
        go_wp2
        go_ret
        exact ⟨rfl, hb1.trans (hb2.mono hb1.size)⟩
      · have e1 := ne10_of h10
        have HN := Lib.hid (hno.next hlt h10)
        clear h10
        go_wp2
        go_round
        case rel => exact ⟨k + 1, by omega, by go_num, HN.out⟩
        case measure => simp [intOf]; omega
    · obtain rfl : k = t.size := by omega
      have HC := Lib.hid (H2.out hno.all)
      clear hno H2
      by_cases hil : i < s.size
      · by_cases h32 : s[i].toNat = 32
        · have e1 : (((s[i].toNat : Nat) : Int) == 32) = true := by rw [h32]; rfl
          have HD := Lib.hid (H3.out hil h32)
          clear h32 H3
          go_wp2_with (go_at_call 11; refine (HC.out w2 hm2).mono ?_; rintro e w3 ⟨a3, c3, rfl, hg3, hb3⟩; have hm3 := hm2.below hb3)
          have hI1 : (i : Int) ≤ (s.size : Int) := by omega
          have hI2 : (i : Int) + 1 ≤ (s.size : Int) := by omega
          go_quiet (fail)
          have hbq := below_drewN w3 nq
          generalize w3.drewN nq = wq at *
          have hmq := hm3.below hbq
          go_wp2_with (first
            | (go_at_call 11; ((refine (HD.out wq hmq).mono ?_); rintro e w4 ⟨a4, c4, rfl, hg4, hb4⟩; have hga := ((hg2.below hb3).below hbq).below hb4; have hgb := (hg3.below hbq).below hb4))
            | (go_at_call 13; ((with_reducible refine (same_any _ _ G w4 hga hgb).mono ?_); rintro e w5 ⟨rfl, hd5⟩; have hb5 := hd5.below; have hgc := hga.below hb5; have hgd := hg4.below hb5))
            | (go_at_call 13; ((with_reducible refine (same_any _ _ G w5 hgc hgd).mono ?_); rintro e w6 ⟨rfl, hd6⟩; have hb6 := hd6.below)))
          go_ret
          refine ⟨rfl, ?_⟩
          have s1 := hb1.size
          have s2 := hb2.size
          have s3 := hb3.size
          have sq := hbq.size
          have s4 := hb4.size
          have s5 := hb5.size
          exact (((((hb1.trans (hb2.mono (by omega))).trans (hb3.mono (by omega))).trans (hbq.mono (by omega))).trans (hb4.mono (by omega))).trans (hb5.mono (by omega))).trans (hb6.mono (by omega))
        · have e1 : (((s[i].toNat : Nat) : Int) == 32) = false := by simp; omega
          clear h32 H3
          go_wp2_with (first
            | (go_at_call 11; ((with_reducible refine (HC.out w2 hm2).mono ?_); rintro e w3 ⟨a3, c3, rfl, hg3, hb3⟩; have hm3 := hm2.below hb3))
            | (go_at_call 11; ((with_reducible refine (HL.out w3 hm3).mono ?_); rintro e w4 ⟨a4, c4, rfl, hg4, hb4⟩; have hga := (hg2.below hb3).below hb4; have hgb := hg3.below hb4))
            | (go_at_call 13; ((with_reducible refine (same_any _ _ G w4 hga hgb).mono ?_); rintro e w5 ⟨rfl, hd5⟩; have hb5 := hd5.below; have hgc := hga.below hb5; have hgd := hg4.below hb5))
            | (go_at_call 13; ((with_reducible refine (same_any _ _ G w5 hgc hgd).mono ?_); rintro e w6 ⟨rfl, hd6⟩; have hb6 := hd6.below)))
          go_ret
          refine ⟨rfl, ?_⟩
          have s1 := hb1.size
          have s2 := hb2.size
          have s3 := hb3.size
          have s4 := hb4.size
          have s5 := hb5.size
          exact ((((hb1.trans (hb2.mono (by omega))).trans (hb3.mono (by omega))).trans (hb4.mono (by omega))).trans (hb5.mono (by omega))).trans (hb6.mono (by omega))
      · obtain rfl : i = s.size := by omega
        clear H3
        go_wp2_with (first
          | (go_at_call 11; ((with_reducible refine (HC.out w2 hm2).mono ?_); rintro e w3 ⟨a3, c3, rfl, hg3, hb3⟩; have hm3 := hm2.below hb3))
          | (go_at_call 11; ((with_reducible refine (HL.out w3 hm3).mono ?_); rintro e w4 ⟨a4, c4, rfl, hg4, hb4⟩; have hga := (hg2.below hb3).below hb4; have hgb := hg3.below hb4))
          | (go_at_call 13; ((with_reducible refine (same_any _ _ G w4 hga hgb).mono ?_); rintro e w5 ⟨rfl, hd5⟩; have hb5 := hd5.below; have hgc := hga.below hb5; have hgd := hg4.below hb5))
          | (go_at_call 13; ((with_reducible refine (same_any _ _ G w5 hgc hgd).mono ?_); rintro e w6 ⟨rfl, hd6⟩; have hb6 := hd6.below)))
        go_ret
        refine ⟨rfl, ?_⟩
        have s1 := hb1.size
        have s2 := hb2.size
        have s3 := hb3.size
        have s4 := hb4.size
        have s5 := hb5.size
        exact ((((hb1.trans (hb2.mono (by omega))).trans (hb3.mono (by omega))).trans (hb4.mono (by omega))).trans (hb5.mono (by omega))).trans (hb6.mono (by omega))

theorem more_list (s t : ByteArray) : (⟨#[10, 10]⟩ ++ s ++ ⟨#[32, 35]⟩ ++ t ++ ⟨#[10, 32, 10]⟩ : ByteArray).data.toList = 10 :: 10 :: (s.data.toList ++ (32 :: 35 :: t.data.toList ++ [10, 32, 10])) := by simp
theorem part_list (s : ByteArray) (i : Nat) (h : i < s.size) : s.data.toList = s.data.toList.take i ++ s[i] :: s.data.toList.drop (i + 1) := by
  conv => lhs; rw [← List.take_append_drop i s.data.toList]
  congr 1
  rw [List.drop_eq_getElem_cons (by rw [len_size]; exact h)]
  rfl
theorem double_list (s : ByteArray) (i : Nat) (h : i < s.size) : (s.extract 0 i ++ ⟨#[32, 32]⟩ ++ s.extract (i + 1) s.size : ByteArray).data.toList = s.data.toList.take i ++ 32 :: 32 :: s.data.toList.drop (i + 1) := by
  have h1 : (s.extract 0 i).data.toList = s.data.toList.take i := by
    simp
  have h2 : (s.extract (i + 1) s.size).data.toList = s.data.toList.drop (i + 1) := by
    have := Lib.extract_to_end s (i + 1)
    simpa using this
  rw [ByteArray.data_append, ByteArray.data_append, Array.toList_append, Array.toList_append, h1, h2]
  simp
theorem spaces_walk (s : ByteArray) (a : Int) (t : ByteArray) (hmax : s.size ≤ maxLen) (ha : (Lit.int .u16 a).wf = true) (hmax' : t.size ≤ maxLen) (w : World) (hm : HasM w) :
    Calls Tryd.prog 6 #[.string s, .int .u16 a, .string t] w fun e w' => e = .returned (.bool true) ∧ Below w.heap.size w w' := by
  have hb : 0 ≤ a ∧ a ≤ 65535 := by
    simp only [Lit.wf, decide_eq_true_eq] at ha
    have e1 : IntKind.u16.min = 0 := by decide
    have e2 : IntKind.u16.max = 65535 := by decide
    simp at ha
    omega
  by_cases hbig : 3000 < s.size ∨ 3000 < t.size
  · exact spaces_big s t a w hbig hmax hmax' hm
  · have hs : s.size ≤ 3000 := by omega
    have ht : t.size ≤ 3000 := by omega
    rcases linesL_cases s.data.toList (by rw [len_size]; omega) with ⟨h1, h2⟩ | ⟨k, l, h1, _⟩
    · obtain ⟨n, rfl⟩ : ∃ n : Nat, a = n := ⟨a.toNat, by omega⟩
      have hi : Int.tmod (n : Int) ((s.size : Int) + 1) = ((n % (s.size + 1) : Nat) : Int) := by
        rw [show ((s.size : Int) + 1) = ((s.size + 1 : Nat) : Int) by omega]; exact (Int.ofNat_tmod n (s.size + 1)).symm
      have hle : n % (s.size + 1) ≤ s.size := by have := Nat.mod_lt n (show 0 < s.size + 1 by omega); omega
      generalize n % (s.size + 1) = i at hi hle
      refine spaces_told s t n i _ w hs ht hm hb hi hle (Lib.hid fun w hm => lines_ok s _ w hmax hm h1) (Lib.hid ?_) (Lib.hid ?_)
      · intro hno w hm
        have hcl := more_list s t
        have hlen : (10 :: 10 :: (s.data.toList ++ (32 :: 35 :: t.data.toList ++ [10, 32, 10]))).length ≤ 20000 := by
          simp only [List.length_append, List.length_cons, len_size, List.length_nil]; omega
        refine lines_ok _ _ w ?_ hm ?_
        · rw [← len_size, hcl]; unfold maxLen; omega
        · rw [hcl]; exact spaces_more hno hlen h2
      · intro hlt h32 w hm
        have hcl := double_list s i hlt
        have hp := part_list s i hlt
        have e32 : s[i] = 32 := UInt8.toNat_inj.1 (by rw [h32]; rfl)
        rw [e32] at hp
        have hlen : (s.data.toList.take i ++ 32 :: 32 :: s.data.toList.drop (i + 1)).length ≤ 20000 := by
          have := congrArg List.length hp
          simp only [List.length_append, List.length_cons, len_size] at this ⊢; omega
        refine lines_ok _ _ w ?_ hm ?_
        · rw [← len_size, hcl]; unfold maxLen; omega
        · rw [hcl]
          have := spaces_double (a := s.data.toList.take i) (b := s.data.toList.drop (i + 1)) hlen (by rw [← hp]; exact h2)
          rw [← hp] at this
          exact this
    · exact spaces_err s t a (k + 1) w hs ht hm (Lib.hid fun w hm => lines_err s _ w hmax hm h1)
end Go.Proofs.YtpecigjdellpaaaDoor
