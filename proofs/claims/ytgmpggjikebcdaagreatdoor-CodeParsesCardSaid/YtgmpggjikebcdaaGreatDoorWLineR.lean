/-
  The document's line: the words of one line.
-/
import Derived.Test.YtgmpggjikebcdaaGreatDoorWWords
import Derived.Test.YtgmpggjikebcdaaGreatDoorWPure3
import Derived.WalkSpells
namespace Go.Proofs.YtgmpggjikebcdaaGreatDoor
open Go.RowKit

def nonE (ps : List Bs) : List Bs := ps.filter (fun w => !w.isEmpty)
theorem nonE_append (a b : List Bs) : nonE (a ++ b) = nonE a ++ nonE b := by simp [nonE]
theorem nonE_len (a : List Bs) : (nonE a).length ≤ a.length := List.length_filter_le _ _

/-- What is known behind k bytes. -/
def SpRel (s : ByteArray) (k : Nat) (ps : List Bs) (wd : Bs) : Prop := splitL 32 (s.data.toList.take k) = ps ++ [wd] ∧ ∀ c ∈ s.data.toList.take k, c ≠ 35
theorem sp_zero (s : ByteArray) : SpRel s 0 [] [] := ⟨by simp [splitL], by simp⟩
section
variable {s : ByteArray} {k : Nat} {ps : List Bs} {wd : Bs}
theorem SpRel.no (h : SpRel s k ps wd) (hk : k < s.size) (hc : s[k] ≠ 35) : ∀ c ∈ s.data.toList.take (k + 1), c ≠ 35 := by
  intro c hm
  rw [take_snoc s k hk] at hm
  rcases List.mem_append.1 hm with h' | h'
  · exact h.2 c h'
  · simp at h'; subst h'; exact hc
theorem SpRel.grow (h : SpRel s k ps wd) (hk : k < s.size) (hc : s[k] ≠ 35) (h3 : s[k] ≠ 32) : SpRel s (k + 1) ps (wd ++ [s[k]]) := by
  refine ⟨?_, h.no hk hc⟩
  obtain ⟨i, l, p, qs, h1, h2, h4⟩ := splitL_glue 32 (s.data.toList.take k) [s[k]]
  rw [splitL_none 32 [s[k]] (by simpa using h3)] at h2
  obtain ⟨rfl, rfl⟩ := List.cons.inj h2
  rw [h.1] at h1
  obtain ⟨rfl, e⟩ := List.append_inj' h1 rfl
  obtain rfl : wd = l := by simpa using e
  rw [take_snoc s k hk, h4]
theorem SpRel.turn (h : SpRel s k ps wd) (hk : k < s.size) (h3 : s[k] = 32) : SpRel s (k + 1) (ps ++ [wd]) [] := by
  refine ⟨?_, h.no hk (by rw [h3]; decide)⟩
  rw [take_snoc s k hk, h3, splitL_two, h.1]; rfl
theorem SpRel.len (h : SpRel s k ps wd) (hk : k ≤ s.size) : ps.length ≤ s.size ∧ wd.length ≤ s.size := by
  have e := congrArg List.length h.1
  rw [splitL_length, List.length_append, List.length_singleton] at e
  have c := List.count_le_length (a := 32) (l := s.data.toList.take k)
  have l := splitL_len 32 (s.data.toList.take k) wd (by rw [h.1]; simp)
  have t : (s.data.toList.take k).length ≤ s.size := by rw [List.length_take, len_size]; omega
  omega
/-- At the end of the line. -/
theorem SpRel.ends (h : SpRel s k ps wd) (hk : k = s.size ∨ ∃ hlt : k < s.size, s[k] = 35) : wordsL s.data.toList = nonE ps ++ nonE [wd] := by
  have e : s.data.toList.takeWhile (fun c => c != 35) = s.data.toList.take k := by
    have ha : ∀ x ∈ s.data.toList.take k, (x != 35) = true := fun x hx => by simpa using h.2 x hx
    rcases hk with rfl | ⟨hlt, h35⟩
    · have et : s.data.toList.take s.size = s.data.toList := List.take_of_length_le (by rw [len_size]; exact Nat.le_refl _)
      rw [et] at ha ⊢
      exact takeWhile_whole _ _ ha
    · have hp : s.data.toList = s.data.toList.take k ++ 35 :: s.data.toList.drop (k + 1) := by
        conv => lhs; rw [← List.take_append_drop k s.data.toList]
        congr 1
        rw [List.drop_eq_getElem_cons (by rw [len_size]; exact hlt)]
        congr 1
      conv => lhs; rw [hp]
      rw [List.takeWhile_append_of_pos ha]
      simp
  show (splitL 32 (s.data.toList.takeWhile (fun c => c != 35))).filter (fun w => !w.isEmpty) = _
  rw [e, h.1]
  exact nonE_append ps [wd]
end
theorem grow_str (s : ByteArray) (k : Nat) (hk : k < s.size) (wd : Bs) : Value.string (⟨wd.toArray⟩ ++ s.extract k (k + 1)) = str (wd ++ [s[k]]) := by
  have e : (s.extract k (k + 1)).data.toList = [s[k]] := by
    rw [Lib.extract_data, show k + 1 - k = 1 by omega, List.drop_eq_getElem_cons (by rw [len_size]; exact hk)]
    rfl
  have : (⟨wd.toArray⟩ ++ s.extract k (k + 1) : ByteArray) = ⟨(wd ++ [s[k]]).toArray⟩ := by
    apply ByteArray.ext
    rw [ByteArray.data_append]
    apply Array.toList_inj.1
    rw [Array.toList_append, e]
  rw [this]

/-- The row of the words so far. -/
def LnRow (w : World) (xs : List Bs) (v : Value) (wr : World) : Prop := wr.ownsRow w.heap.size 9 1 v xs.length (xs.map str) ∧ Below w.heap.size w wr
theorem lnrow_start (w : World) : LnRow w [] (.slice none 0 0) w := ⟨World.ownsRow_nil _ _ _ _, Below.refl _ _⟩
theorem LnRow.size {w wr : World} {xs : List Bs} {v : Value} (h : LnRow w xs v wr) : w.heap.size ≤ wr.heap.size := h.2.size
theorem LnRow.keep {w wr w' : World} {xs : List Bs} {v v' : Value} {p : Bs} {o : Obj} (h : LnRow w xs v wr) (ho : w'.ownsRow w.heap.size 9 1 v' (xs.length + 1) (xs.map str ++ [str p])) (hg : (wr.alloc o).grownBy w' v.ownBlock) : LnRow w (xs ++ [p]) v' w' := by
  refine ⟨by simpa using ho, ?_⟩
  exact (h.2.alloc h.size o).grown hg (by have := h.size; simp; omega) (fun g hg' => ((h.1.alloc o).lt g hg').1)
theorem LnRow.done {w wr : World} {xs : List Bs} {v : Value} (h : LnRow w xs v wr) : OwnS w xs (.returned v) wr := by
  rcases ownsRow_forms h.1 with ⟨rfl, h0⟩ | ⟨g, cap, rfl⟩
  · have ho := h.1
    exact ⟨none, 0, by rw [h0], by rw [h0] at ho ⊢; exact ho, h.2⟩
  · exact ⟨_, cap, rfl, h.1, h.2⟩
theorem eq35_of {c : UInt8} (h : c = 35) : (((c.toNat : Nat) : Int) == 35) = true := by subst h; rfl
theorem ne35_of {c : UInt8} (h : c ≠ 35) : (((c.toNat : Nat) : Int) == 35) = false := by
  have : c.toNat ≠ 35 := fun e => h (UInt8.toNat_inj.1 (by simpa using e))
  simp; omega
theorem eq32_of {c : UInt8} (h : c = 32) : (((c.toNat : Nat) : Int) != 32) = false := by subst h; rfl
theorem ne32_of {c : UInt8} (h : c ≠ 32) : (((c.toNat : Nat) : Int) != 32) = true := by
  have : c.toNat ≠ 32 := fun e => h (UInt8.toNat_inj.1 (by simpa using e))
  simp; omega

set_option maxRecDepth 100000 in
set_option maxHeartbeats 4000000 in
theorem lineR_walk (s : ByteArray) (w : World) (hs : s.size ≤ 20000) (R : List Bs) (HE : Hid (∀ k ps wd, SpRel s k ps wd → (k = s.size ∨ ∃ hlt : k < s.size, s[k] = 35) → R = nonE ps ++ nonE [wd])) : Calls Tryz.prog 49 #[.string s] w (OwnS w R) := by
  obtain ⟨i0, hi, hz0, hz1, hz2⟩ := info_parts Tryz.info9
  go_enter Tryz.func49, Tryz.ntmps49
  go_wp2
  go_loopw [3, 4, 5] (fun v3 v4 v5 wr => ∃ (k : Nat) (ps : List Bs) (wd : Bs), k ≤ s.size ∧ v5 = .int .i64 k ∧ v4 = str wd ∧ SpRel s k ps wd ∧ LnRow w (nonE ps) v3 wr) (fun _ _ v5 _ => s.size - (intOf v5).toNat)
  case atStart => exact ⟨0, [], [], Nat.zero_le _, rfl, rfl, sp_zero s, lnrow_start w⟩
  case round =>
    obtain ⟨k, ps, wd, hk, rfl, rfl, hsp, hr⟩ := hrel
    obtain ⟨hpl, hwl⟩ := hsp.len hk
    have hnl := Nat.le_trans (nonE_len ps) hpl
    have hfit : (nonE ps).length + 1 ≤ maxLen := by unfold maxLen; omega
    by_cases hlt : k < s.size
    · by_cases h35 : s[k] = 35
      · have e1 := eq35_of h35
        have HR := Lib.hid (HE.out k ps wd hsp (.inr ⟨hlt, h35⟩))
        clear h35 HE
        rcases hwd : wd with _ | ⟨p0, pr⟩
        · subst hwd
          go_wp2
          go_ret
          rw [HR.out]
          have : nonE ps ++ nonE [[]] = nonE ps := by simp [nonE]
          rw [this]
          exact hr.done
        · subst hwd
          go_wp2_with (at_builtin; refine wpList_append_own _ rfl _ _ 22 rfl w.heap.size 9 i0 (.string ByteArray.empty) 1 16 Tryz.underlying22 hi hz0 hz1 hz2 rfl (by decide) _ _ _ rfl (hr.1.alloc _) ⟨wr.heap.size, 0, none⟩ 1 1 [str (p0 :: pr)] rfl rfl ?c1 ?c2 ?c3 ?c4 ?c5 ?_)
          case c1 => exact one_cell wr _ _
          case c2 => exact one_one _
          case c3 => exact hfit
          case c4 => omega
          case c5 => have := hr.size; simp; omega
          intro v' w' ho hg _
          have HN := Lib.hid (hr.keep ho hg)
          clear ho hg
          go_wp2
          go_ret
          rw [HR.out]
          exact HN.out.done
      · have e1 := ne35_of h35
        by_cases h32 : s[k] = 32
        · have e2 := eq32_of h32
          have HS := Lib.hid (hsp.turn hlt h32)
          clear h35 h32 hsp
          rcases hwd : wd with _ | ⟨p0, pr⟩
          · subst hwd
            go_wp2
            go_roundw
            case rel => exact ⟨k + 1, ps ++ [[]], [], by omega, by go_num, rfl, HS.out, by rw [nonE_append]; simpa [nonE] using hr⟩
            case measure => simp [intOf]; omega
          · subst hwd
            go_wp2_with (at_builtin; refine wpList_append_own _ rfl _ _ 22 rfl w.heap.size 9 i0 (.string ByteArray.empty) 1 16 Tryz.underlying22 hi hz0 hz1 hz2 rfl (by decide) _ _ _ rfl (hr.1.alloc _) ⟨wr.heap.size, 0, none⟩ 1 1 [str (p0 :: pr)] rfl rfl ?d1 ?d2 ?d3 ?d4 ?d5 ?_)
            case d1 => exact one_cell wr _ _
            case d2 => exact one_one _
            case d3 => exact hfit
            case d4 => omega
            case d5 => have := hr.size; simp; omega
            intro v' w' ho hg _
            have HN := Lib.hid (hr.keep ho hg)
            clear ho hg
            go_wp2
            go_roundw
            case rel => exact ⟨k + 1, ps ++ [p0 :: pr], [], by omega, by go_num, rfl, HS.out, by rw [nonE_append]; exact HN.out⟩
            case measure => simp [intOf]; omega
        · have e2 := ne32_of h32
          have HS := Lib.hid (hsp.grow hlt h35 h32)
          have HG := Lib.hid (grow_str s k hlt wd)
          clear h35 h32 hsp
          have hws : (⟨wd.toArray⟩ : ByteArray).size ≤ 20000 := by rw [bs_size]; omega
          go_wp2
          go_roundw
          case rel => exact ⟨k + 1, ps, wd ++ [s[k]], by omega, by go_num, HG.out, HS.out, hr⟩
          case measure => simp [intOf]; omega
    · obtain rfl : k = s.size := by omega
      have HR := Lib.hid (HE.out _ ps wd hsp (.inl rfl))
      clear HE
      rcases hwd : wd with _ | ⟨p0, pr⟩
      · subst hwd
        go_wp2
        go_ret
        rw [HR.out]
        have : nonE ps ++ nonE [[]] = nonE ps := by simp [nonE]
        rw [this]
        exact hr.done
      · subst hwd
        go_wp2_with (at_builtin; refine wpList_append_own _ rfl _ _ 22 rfl w.heap.size 9 i0 (.string ByteArray.empty) 1 16 Tryz.underlying22 hi hz0 hz1 hz2 rfl (by decide) _ _ _ rfl (hr.1.alloc _) ⟨wr.heap.size, 0, none⟩ 1 1 [str (p0 :: pr)] rfl rfl ?f1 ?f2 ?f3 ?f4 ?f5 ?_)
        case f1 => exact one_cell wr _ _
        case f2 => exact one_one _
        case f3 => exact hfit
        case f4 => omega
        case f5 => have := hr.size; simp; omega
        intro v' w' ho hg _
        have HN := Lib.hid (hr.keep ho hg)
        clear ho hg
        go_wp2
        go_ret
        rw [HR.out]
        exact HN.out.done
theorem lineR_any (s : ByteArray) (w : World) (hs : s.size ≤ 20000) : Calls Tryz.prog 49 #[.string s] w (OwnS w (wordsL s.data.toList)) :=
  lineR_walk s w hs _ (Lib.hid fun _ _ _ h hk => h.ends hk)
end Go.Proofs.YtgmpggjikebcdaaGreatDoor
