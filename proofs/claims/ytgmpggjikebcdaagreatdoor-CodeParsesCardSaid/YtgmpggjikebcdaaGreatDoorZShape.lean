/-
  The document's shape, part and letters: contracts.
-/
import Derived.Test.YtgmpggjikebcdaaGreatDoorCNum
import Derived.Test.YtgmpggjikebcdaaGreatDoorWMayR
namespace Go.Proofs.YtgmpggjikebcdaaGreatDoor
open Go.RowKit

def low (c : UInt8) : UInt8 := c + 32
/-- What shape answers. -/
def shapeL (op : Int) : Bs × Bs := match byOpL op with
  | none => ([], [])
  | some o => (o.2.1, o.2.2.map low)
theorem shapeL_some {op : Int} {o : Int × Bs × Bs} (h : byOpL op = some o) : shapeL op = (o.2.1, o.2.2.map low) := by unfold shapeL; rw [h]
def PairV (x : Bs × Bs) : Value := .tuple #[str x.1, str x.2]
theorem shape_none {op : Int} (h : op < 1 ∨ 15 < op) : shapeL op = ([], []) := by
  have : byOpL op = none := by
    unfold byOpL
    rw [List.find?_eq_none]
    intro o ho
    obtain ⟨h1, h2, _⟩ := ops_cases ho
    simp only [beq_iff_eq]
    omega
  unfold shapeL; rw [this]

set_option maxRecDepth 100000 in
theorem rest_any (op : Int) (w : World) (h : op < 1 ∨ 10 < op) : Calls Tryz.prog 40 #[.int .u8 op] w fun e w' => e = .returned (PairV (shapeL op)) ∧ w = w' := by
  by_cases e11 : op = 11
  · subst e11
    go_enter Tryz.func40, Tryz.ntmps40
    go_wp2
    go_ret2
    exact ⟨rfl, rfl⟩
  by_cases e12 : op = 12
  · subst e12
    go_enter Tryz.func40, Tryz.ntmps40
    go_wp2
    go_ret2
    exact ⟨rfl, rfl⟩
  by_cases e13 : op = 13
  · subst e13
    go_enter Tryz.func40, Tryz.ntmps40
    go_wp2
    go_ret2
    exact ⟨rfl, rfl⟩
  by_cases e14 : op = 14
  · subst e14
    go_enter Tryz.func40, Tryz.ntmps40
    go_wp2
    go_ret2
    exact ⟨rfl, rfl⟩
  by_cases e15 : op = 15
  · subst e15
    go_enter Tryz.func40, Tryz.ntmps40
    go_wp2
    go_ret2
    exact ⟨rfl, rfl⟩
  have n11 : (op == 11) = false := by simpa using e11
  have n12 : (op == 12) = false := by simpa using e12
  have n13 : (op == 13) = false := by simpa using e13
  have n14 : (op == 14) = false := by simpa using e14
  have n15 : (op == 15) = false := by simpa using e15
  rw [shape_none (by omega)]
  clear h
  go_enter Tryz.func40, Tryz.ntmps40
  go_wp2
  go_ret2
  exact ⟨rfl, rfl⟩
set_option maxRecDepth 100000 in
theorem shape_any (op : Int) (w : World) : Calls Tryz.prog 25 #[.int .u8 op] w fun e w' => e = .returned (PairV (shapeL op)) ∧ w = w' := by
  by_cases e1 : op = 1
  · subst e1
    go_enter Tryz.func25, Tryz.ntmps25
    go_wp2
    go_ret2
    exact ⟨rfl, rfl⟩
  by_cases e2 : op = 2
  · subst e2
    go_enter Tryz.func25, Tryz.ntmps25
    go_wp2
    go_ret2
    exact ⟨rfl, rfl⟩
  by_cases e3 : op = 3
  · subst e3
    go_enter Tryz.func25, Tryz.ntmps25
    go_wp2
    go_ret2
    exact ⟨rfl, rfl⟩
  by_cases e4 : op = 4
  · subst e4
    go_enter Tryz.func25, Tryz.ntmps25
    go_wp2
    go_ret2
    exact ⟨rfl, rfl⟩
  by_cases e5 : op = 5
  · subst e5
    go_enter Tryz.func25, Tryz.ntmps25
    go_wp2
    go_ret2
    exact ⟨rfl, rfl⟩
  by_cases e6 : op = 6
  · subst e6
    go_enter Tryz.func25, Tryz.ntmps25
    go_wp2
    go_ret2
    exact ⟨rfl, rfl⟩
  by_cases e7 : op = 7
  · subst e7
    go_enter Tryz.func25, Tryz.ntmps25
    go_wp2
    go_ret2
    exact ⟨rfl, rfl⟩
  by_cases e8 : op = 8
  · subst e8
    go_enter Tryz.func25, Tryz.ntmps25
    go_wp2
    go_ret2
    exact ⟨rfl, rfl⟩
  by_cases e9 : op = 9
  · subst e9
    go_enter Tryz.func25, Tryz.ntmps25
    go_wp2
    go_ret2
    exact ⟨rfl, rfl⟩
  by_cases e10 : op = 10
  · subst e10
    go_enter Tryz.func25, Tryz.ntmps25
    go_wp2
    go_ret2
    exact ⟨rfl, rfl⟩
  have n1 : (op == 1) = false := by simpa using e1
  have n2 : (op == 2) = false := by simpa using e2
  have n3 : (op == 3) = false := by simpa using e3
  have n4 : (op == 4) = false := by simpa using e4
  have n5 : (op == 5) = false := by simpa using e5
  have n6 : (op == 6) = false := by simpa using e6
  have n7 : (op == 7) = false := by simpa using e7
  have n8 : (op == 8) = false := by simpa using e8
  have n9 : (op == 9) = false := by simpa using e9
  have n10 : (op == 10) = false := by simpa using e10
  have hr := rest_any op w (by omega)
  generalize shapeL op = x at hr ⊢
  obtain ⟨x, y⟩ := x
  unfold PairV at hr ⊢
  simp only at hr ⊢
  go_enter Tryz.func25, Tryz.ntmps25
  go_wp2_with (go_at_call 40; refine hr.mono ?_; rintro e w1 ⟨rfl, rfl⟩)
  go_ret2
  exact ⟨rfl, rfl⟩

/-! ### part -/
def partR (i : PIns) (c : UInt8) : Int := if c = 97 then i.a else if c = 98 then i.b else if c = 99 then i.c else i.n
theorem partR_low (i : PIns) {c : UInt8} (h : c = 65 ∨ c = 66 ∨ c = 67 ∨ c = 78) : partR i (low c) = partL i c := by
  rcases h with rfl | rfl | rfl | rfl <;> rfl
set_option maxRecDepth 100000 in
theorem part_low (i : PIns) (c : UInt8) (w : World) (hi : OkI i) (h : c = 65 ∨ c = 66 ∨ c = 67 ∨ c = 78) : Calls Tryz.prog 39 #[insV i, .int .u8 (low c).toNat] w (AggPost w (.int .i64 (partL i c))) := by
  obtain ⟨x, a, b, c', n⟩ := i
  obtain ⟨o0, o1, a0, a1, b0, b1, c0, c1, n0, n1⟩ := hi
  simp only at *
  rcases h with rfl | rfl | rfl | rfl
  · rw [show (((low 65).toNat : Nat) : Int) = 97 from rfl, show partL ⟨x, a, b, c', n⟩ 65 = a from rfl]
    go_enter Tryz.func39, Tryz.ntmps39
    go_wp2
    go_ret
    exact ⟨rfl, (Below.refl _ _).alloc (Nat.le_refl _) _⟩
  · rw [show (((low 66).toNat : Nat) : Int) = 98 from rfl, show partL ⟨x, a, b, c', n⟩ 66 = b from rfl]
    go_enter Tryz.func39, Tryz.ntmps39
    go_wp2
    go_ret
    exact ⟨rfl, (Below.refl _ _).alloc (Nat.le_refl _) _⟩
  · rw [show (((low 67).toNat : Nat) : Int) = 99 from rfl, show partL ⟨x, a, b, c', n⟩ 67 = c' from rfl]
    go_enter Tryz.func39, Tryz.ntmps39
    go_wp2
    go_ret
    exact ⟨rfl, (Below.refl _ _).alloc (Nat.le_refl _) _⟩
  · rw [show (((low 78).toNat : Nat) : Int) = 110 from rfl, show partL ⟨x, a, b, c', n⟩ 78 = n from rfl]
    go_enter Tryz.func39, Tryz.ntmps39
    go_wp2
    go_ret
    exact ⟨rfl, (Below.refl _ _).alloc (Nat.le_refl _) _⟩

/-! ### letters, or -/
theorem areL_dash {s : Bs} (h : (45 : UInt8) ∈ s) : areL s = false := by
  unfold areL
  have : s.all lcC = false := List.all_eq_false.2 ⟨45, h, by decide⟩
  rw [this, Bool.and_false]
theorem areL_mayR {s : Bs} (h : ∀ c ∈ s, c ≠ 45) : areL s = (s == [] || mayR s) := by
  have e : s.all lcC = s.all okC := by
    apply Bool.eq_iff_iff.2
    rw [List.all_eq_true, List.all_eq_true]
    exact ⟨fun h1 c hc => by have h2 := h1 c hc; unfold lcC at h2; unfold okC; rw [h2]; rfl, fun h1 c hc => by
      have h2 := h1 c hc
      have h3 := h c hc
      unfold okC at h2
      unfold lcC
      rcases Bool.or_eq_true _ _ ▸ h2 with h2 | h2
      · exact h2
      · exact absurd (UInt8.toNat_inj.1 (by simpa using h2)) h3⟩
  unfold areL mayR mayL
  rw [e]
  cases s with
  | nil => rfl
  | cons a r => simp

set_option maxRecDepth 100000 in
theorem or_any (s : Bs) (w : World) : Calls Tryz.prog 19 #[str s] w fun e w' => e = .returned (str (orL s)) ∧ w = w' := by
  by_cases h : s = []
  · subst h
    go_enter Tryz.func19, Tryz.ntmps19
    go_wp2
    go_ret
    exact ⟨rfl, rfl⟩
  · have hx : (s == []) = false := by simpa using h
    have e : orL s = s := by unfold orL; rw [if_neg h]
    rw [e]
    clear h e
    go_enter Tryz.func19, Tryz.ntmps19
    go_wp2
    go_ret
    exact ⟨rfl, rfl⟩
theorem z45_of {c : UInt8} (h : c = 45) : (((c.toNat : Nat) : Int) == 45) = true := by subst h; rfl
theorem zn45_of {c : UInt8} (h : c ≠ 45) : (((c.toNat : Nat) : Int) == 45) = false := by
  have : c.toNat ≠ 45 := fun e => h (UInt8.toNat_inj.1 (by simpa using e))
  simp; omega
set_option maxRecDepth 100000 in
theorem letters_any (s : ByteArray) (w : World) (hs : s.size ≤ maxLen) : Calls Tryz.prog 38 #[.string s] w fun e w' => e = .returned (.bool (areL s.data.toList)) ∧ w = w' := by
  have HM := Lib.hid (mayR_any s w hs)
  unfold maxLen at hs
  go_enter Tryz.func38, Tryz.ntmps38
  go_wp2
  go_loopw [3] (fun v3 wr => ∃ k : Nat, k ≤ s.size ∧ v3 = .int .i64 k ∧ Hid (∀ c ∈ s.data.toList.take k, c ≠ 45) ∧ wr = w) (fun v3 _ => s.size - (intOf v3).toNat)
  case atStart => exact ⟨0, Nat.zero_le _, rfl, Lib.hid (by simp), rfl⟩
  case round =>
    obtain ⟨k, hk, rfl, hn, rfl⟩ := hrel
    by_cases hlt : k < s.size
    · have hk' : k < s.data.toList.length := by rw [len_size]; exact hlt
      by_cases h45 : s[k] = 45
      · have e1 := z45_of h45
        have HF : Hid (areL s.data.toList = false) := Lib.hid (areL_dash (h45 ▸ List.getElem_mem hk'))
        clear h45
        go_wp2
        go_ret
        rw [HF.out]
        exact ⟨rfl, rfl⟩
      · have e1 := zn45_of h45
        have HN : Hid (∀ c ∈ s.data.toList.take (k + 1), c ≠ 45) := Lib.hid (by
          rw [List.take_succ_eq_append_getElem hk']
          intro c hc
          rcases List.mem_append.1 hc with h | h
          · exact hn.out c h
          · simp only [List.mem_singleton] at h; subst h; exact h45)
        clear h45
        go_wp2
        go_roundw
        case rel => exact ⟨k + 1, by omega, by go_num, HN, trivial⟩
        case measure => simp [intOf]; omega
    · have HA : Hid (areL s.data.toList = (s.data.toList == [] || mayR s.data.toList)) := Lib.hid (areL_mayR (by have := hn.out; rw [List.take_of_length_le (by rw [len_size]; omega)] at this; exact this))
      by_cases h0 : s.data.toList = []
      · have hx : (s.data.toList == []) = true := by simpa using h0
        have hx2 : (s.toList == []) = true := by rw [ByteArray.toList_eq]; exact hx
        rw [hx] at HA
        clear h0
        go_wp2
        go_ret
        rw [HA.out]
        exact ⟨rfl, rfl⟩
      · have hx : (s.data.toList == []) = false := by simpa using h0
        have hx2 : (s.toList == []) = false := by rw [ByteArray.toList_eq]; exact hx
        rw [hx] at HA
        clear h0
        go_wp2_with (go_at_call 50; refine HM.out.mono ?_; rintro e w1 ⟨rfl, rfl⟩)
        go_ret
        rw [HA.out]
        exact ⟨rfl, rfl⟩
theorem letters_b (s : Bs) (b : Bool) (w : World) (hs : s.length ≤ maxLen) (h : areL s = b) : Calls Tryz.prog 38 #[str s] w fun e w' => e = .returned (.bool b) ∧ w = w' := by
  have := letters_any ⟨s.toArray⟩ w (by rw [bs_size]; exact hs)
  rw [show (⟨s.toArray⟩ : ByteArray).data.toList = s from rfl, h] at this
  exact this
end Go.Proofs.YtgmpggjikebcdaaGreatDoor
