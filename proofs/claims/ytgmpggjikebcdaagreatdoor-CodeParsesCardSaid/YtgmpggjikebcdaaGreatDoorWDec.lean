/-
  Decimal numbers: what the document calls so; the contract of isDecimal.
-/
import Derived.Test.YtgmpggjikebcdaaGreatDoorWRows
import Derived.Test.YtgmpggjikebcdaaGreatDoorShelf
import Derived.Test.YtgmpggjikebcdaaGreatDoorWDec0
namespace Go.Proofs.YtgmpggjikebcdaaGreatDoor
open Go.RowKit


theorem trim_eq (l : Bs) : Lib.trimPrefix l [45] = trimL l := by
  cases l with
  | nil => rfl
  | cons c r =>
    unfold Lib.trimPrefix trimL
    by_cases h : c = 45
    · subst h; simp [Lib.hasPrefix]
    · have e1 : Lib.hasPrefix (c :: r) [45] = false := by
        rw [Bool.eq_false_iff]; intro e; simp [Lib.hasPrefix] at e; exact h (by first | exact e | exact e.symm)
      simp only [e1, if_neg h]; rfl

theorem trim_any (s : ByteArray) (w : World) : Calls Tryz.prog 87 #[.string s, .string ⟨#[45]⟩] w fun e w' => e = .returned (str (trimL s.data.toList)) ∧ w = w' := by
  refine (Tryz.strings_TrimPrefix s ⟨#[45]⟩ w).mono ?_
  rintro e w' ⟨rfl, rfl⟩
  rw [show (⟨#[45]⟩ : ByteArray).data.toList = [45] from rfl, trim_eq]
  exact ⟨rfl, rfl⟩

/-- The first k bytes are digits. -/
def DigTo (s : ByteArray) (k : Nat) : Prop := ∀ c ∈ s.data.toList.take k, digC c = true
theorem DigTo.next {s : ByteArray} {k : Nat} (h : DigTo s k) (hk : k < s.size) (hc : digC s[k] = true) : DigTo s (k + 1) := by
  intro c hm
  rw [take_snoc s k hk] at hm
  rcases List.mem_append.1 hm with h' | h'
  · exact h c h'
  · simp at h'; subst h'; exact hc
theorem digTo_zero (s : ByteArray) : DigTo s 0 := by intro c h; simp at h
theorem DigTo.all {s : ByteArray} (h : DigTo s s.size) : s.data.toList.all digC = true := by
  have e : s.data.toList.take s.size = s.data.toList := List.take_of_length_le (by rw [len_size]; exact Nat.le_refl _)
  rw [DigTo, e] at h
  exact List.all_eq_true.2 h
theorem not_dig {s : ByteArray} {k : Nat} (hk : k < s.size) (hc : digC s[k] = false) : s.data.toList.all digC = false := by
  rw [Bool.eq_false_iff]
  intro h
  have := List.all_eq_true.1 h s[k] (by
    have : s[k] = s.data.toList[k]'(by simpa using hk) := rfl
    rw [this]; exact List.getElem_mem _)
  rw [hc] at this
  exact absurd this (by decide)
theorem digC_cases (c : UInt8) : ((48 ≤ (c.toNat : Int) ∧ (c.toNat : Int) ≤ 57) ∧ digC c = true) ∨ (((c.toNat : Int) < 48 ∨ 57 < (c.toNat : Int)) ∧ digC c = false) := by
  by_cases h2 : 48 ≤ c.toNat ∧ c.toNat ≤ 57
  · left; refine ⟨by omega, ?_⟩; simp [digC, h2.1, h2.2]
  · right; refine ⟨by omega, ?_⟩
    simp only [digC, Bool.and_eq_false_iff, decide_eq_false_iff_not]
    omega
theorem ba_empty {d : ByteArray} (h : d.size = 0) : d = ⟨#[]⟩ := by
  obtain ⟨a⟩ := d
  congr 1
  exact Array.eq_empty_of_size_eq_zero h
theorem head_of {d : ByteArray} (h : 0 < d.size) : d.data.toList.head? = some d[0] := by
  rw [List.head?_eq_getElem?, List.getElem?_eq_getElem (by rw [len_size]; exact h)]
  rfl

/-- What isDecimal answers of digits d of the text s. -/
def decOf (s d : ByteArray) : Bool := !d.data.toList.isEmpty && d.data.toList.all digC && (d.data.toList.head? != some 48 || s.data.toList == [48])

theorem not_empty {d : ByteArray} (h : 0 < d.size) : d.data.toList.isEmpty = false := by
  rw [Bool.eq_false_iff]; intro e
  have := len_size d
  rw [List.isEmpty_iff.1 e] at this
  simp at this; omega
theorem dec_zero {s d : ByteArray} (h : 0 < d.size) (ha : d.data.toList.all digC = true) (h0 : (d[0].toNat : Int) = 48) : (s.toList == [48]) = decOf s d := by
  have e : d[0] = 48 := UInt8.toNat_inj.1 (by have : d[0].toNat = 48 := by omega
                                              rw [this]; rfl)
  unfold decOf
  rw [not_empty h, ha, head_of h, e, ByteArray.toList_eq]; simp
theorem dec_more {s d : ByteArray} (h : 0 < d.size) (ha : d.data.toList.all digC = true) (h0 : ¬ (d[0].toNat : Int) = 48) : true = decOf s d := by
  have e : d[0] ≠ 48 := fun e => h0 (by rw [e]; rfl)
  unfold decOf
  rw [not_empty h, ha, head_of h]; simp [e]

set_option maxRecDepth 100000 in
set_option maxHeartbeats 2000000 in
theorem isDecimal_walk (s d : ByteArray) (w : World) (hd : d.size ≤ maxLen) (H : Calls Tryz.prog 87 #[.string s, .string ⟨#[45]⟩] w fun e w' => e = .returned (.string d) ∧ w = w') :
    Calls Tryz.prog 75 #[.string s] w fun e w' => e = .returned (.bool (decOf s d)) ∧ w = w' := by
  unfold maxLen at hd
  by_cases h0 : d.size = 0
  · have := ba_empty h0
    subst this
    clear h0
    go_enter Tryz.func75, Tryz.ntmps75
    go_wp2_with (go_at_call 87; refine H.mono ?_; rintro e w' ⟨rfl, rfl⟩)
    go_ret
    exact ⟨rfl, rfl⟩
  · have hpos : 0 < d.size := by omega
    have hl : d.toList.isEmpty = false := by
      rw [ByteArray.toList_eq, Bool.eq_false_iff]; intro e
      have := len_size d
      rw [List.isEmpty_iff.1 e] at this
      simp at this; omega
    have HL := Lib.hid hl
    go_enter Tryz.func75, Tryz.ntmps75
    go_wp2_with (go_at_call 87; refine H.mono ?_; rintro e w' ⟨rfl, rfl⟩)
    clear hl
    go_loop [11] (fun i => ∃ k : Nat, k ≤ d.size ∧ i = .int .i64 k ∧ DigTo d k) (fun i => d.size - (intOf i).toNat)
    case atStart => exact ⟨0, Nat.zero_le _, rfl, digTo_zero d⟩
    case round =>
      obtain ⟨k, hk, rfl, hok⟩ := hrel
      by_cases hlt : k < d.size
      · rcases digC_cases d[k] with ⟨⟨h1, h2⟩, hc⟩ | ⟨h1, hc⟩
        · have HC := Lib.hid hc
          clear hc
          go_wp2_with (go_at_call 74; refine (isDigit_t _ _ (by assumption) (by assumption)).mono ?_; rintro e w' ⟨rfl, rfl⟩)
          go_round
          case rel => exact ⟨k + 1, by omega, by go_num, hok.next hlt HC.out⟩
          case measure => simp [intOf]; omega
        · have HC := Lib.hid hc
          clear hc
          go_wp2_with (go_at_call 74; refine (isDigit_f _ _ (by assumption)).mono ?_; rintro e w' ⟨rfl, rfl⟩)
          go_ret
          exact ⟨ret_bool (by unfold decOf; rw [not_dig hlt HC.out]; simp), rfl⟩
      · obtain rfl : k = d.size := by omega
        have HA := Lib.hid hok.all
        have HH := Lib.hid (head_of hpos)
        go_wp2
        · go_ret
          exact ⟨ret_bool (dec_zero hpos HA.out (by assumption)), rfl⟩
        · go_ret
          exact ⟨ret_bool (dec_more hpos HA.out (by assumption)), rfl⟩

theorem trimL_le (l : Bs) : (trimL l).length ≤ l.length := by
  cases l with
  | nil => exact Nat.le_refl _
  | cons c r =>
    show (if c = 45 then r else c :: r).length ≤ _
    split <;> simp
theorem isDecimal_any (s : ByteArray) (w : World) (hs : s.size ≤ maxLen) : Calls Tryz.prog 75 #[.string s] w fun e w' => e = .returned (.bool (decL s.data.toList)) ∧ w = w' :=
  isDecimal_walk s ⟨(trimL s.data.toList).toArray⟩ w (by rw [bs_size]; have := trimL_le s.data.toList; rw [len_size] at this; omega) (trim_any s w)
theorem isDecimal_t (s : ByteArray) (w : World) (hs : s.size ≤ maxLen) (h : Hid (decL s.data.toList = true)) : Calls Tryz.prog 75 #[.string s] w fun e w' => e = .returned (.bool true) ∧ w = w' :=
  (isDecimal_any s w hs).mono fun e w' ⟨h1, h2⟩ => ⟨by rw [h1, h.out], h2⟩
theorem isDecimal_f (s : ByteArray) (w : World) (hs : s.size ≤ maxLen) (h : Hid (decL s.data.toList = false)) : Calls Tryz.prog 75 #[.string s] w fun e w' => e = .returned (.bool false) ∧ w = w' :=
  (isDecimal_any s w hs).mono fun e w' ⟨h1, h2⟩ => ⟨by rw [h1, h.out], h2⟩

/-- What Number answers. -/
def NumPost (w : World) (r : Int × Nat) (e : Ending) (w' : World) : Prop := e = .returned (.tuple #[.int .i64 r.1, .int .i64 r.2]) ∧ Below w.heap.size w w'

theorem number_form (s : ByteArray) (w : World) (hs : s.size ≤ maxLen) (h : Hid (decL s.data.toList = false)) : Calls Tryz.prog 61 #[.string s] w (NumPost w (0, 4)) := by
  go_enter Tryz.func61, Tryz.ntmps61
  go_wp2_with (go_at_call 75; refine (isDecimal_f s _ hs h).mono ?_; rintro e w' ⟨rfl, rfl⟩)
  go_ret2
  exact ⟨rfl, Below.refl _ _⟩

theorem below_bytes (w : World) (t : ByteArray) : Below w.heap.size w (Lib.bytesWorld w 5 t) := Lib.bytesWorld_below w 5 t
def IntPost (w : World) (v : Int) (e : Ending) (w' : World) : Prop := e = .returned (.tuple #[.int .i64 v, .nilIface]) ∧ Below w.heap.size w w'
theorem parse_ok (s : ByteArray) (v : Int) (w : World) (hs : s.size ≤ maxLen - 1) (hp : Lib.parseIntB 64 s.data.toList = .ok v) : Calls Tryz.prog 76 #[.string s, .int .i64 10, .int .i64 64] w (IntPost w v) := by
  unfold maxLen at hs
  refine (Tryz.strconv_ParseInt_10_at64_ok s (by omega) v hp w).mono ?_
  rintro e w' ⟨rfl, h⟩
  refine ⟨rfl, ?_⟩
  rcases h with rfl | ⟨t, rfl⟩
  · exact Below.refl _ _
  · exact below_bytes w t
theorem number_ok (s : ByteArray) (v : Int) (w : World) (hs : s.size ≤ maxLen - 1) (h : Hid (decL s.data.toList = true)) (hp : Lib.parseIntB 64 s.data.toList = .ok v) : Calls Tryz.prog 61 #[.string s] w (NumPost w (v, 0)) := by
  have HP := parse_ok s v w hs hp
  have hs' : s.size ≤ maxLen := by omega
  clear hp
  go_enter Tryz.func61, Tryz.ntmps61
  go_wp2_with (first | (go_at_call 75; refine (isDecimal_t s _ hs' h).mono ?_; rintro e w' ⟨rfl, rfl⟩) | (go_at_call 76; refine HP.mono ?_; rintro e w1 ⟨rfl, hb⟩))
  go_ret2
  exact ⟨rfl, hb⟩
end Go.Proofs.YtgmpggjikebcdaaGreatDoor
