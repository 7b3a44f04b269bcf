/-
  The program's hasField, followsNothing, nextPlace, oneIf, mayBeRun: their contracts.
-/
import Derived.Test.YtmnoohpkjgjphaaDoorPGet
import Derived.Test.YtmnoohpkjgjphaaDoorHChk
import Derived.StillTailTactics
namespace Go.Proofs.YtmnoohpkjgjphaaDoor
set_option linter.unusedSimpArgs false
set_option linter.unusedVariables false
open Go.RowKit

theorem oneIf_n (r : Bool) (w : World) : Calls Tryd.prog 41 #[.bool r] w fun e w' => e = .returned (.int .i64 (if r = true then 1 else 0)) ∧ w' = w := by
  rcases r with _ | _
  all_goals
    go_enter Tryd.func41, Tryd.ntmps41
    go_wp2
    go_ret
    exact ⟨rfl, rfl⟩
theorem may_n (v : Value) (p : PProg) (r : Bool) (w : World) (h : ProgAt w v p) (hs : OkP p) (ho : HasO w) (hr : decide ((checkL p).2 = 0) = r) : Calls Tryd.prog 22 #[v] w (AggPost w (.bool r)) := by
  obtain ⟨vt, vc, rfl, ht, hc⟩ := id h
  have hwb : Below w.heap.size w (w.alloc (.cells (progC vt p vc) 25)) := (Below.refl _ _).alloc (Nat.le_refl _) _
  have HW := Lib.hid hwb
  have HC := Lib.hid (check_n _ p (checkL p).1 (checkL p).2 _ (h.below hwb) hs (ho.below hwb) rfl rfl)
  have KP := Lib.hid (keep_new h)
  obtain ⟨x, c, rfl, -, -, -⟩ := id ht.elems
  obtain ⟨x', c', rfl, -, -, -⟩ := id hc
  have HR := Lib.hid hr
  clear hr ht hc h ho hs hwb
  generalize (checkL p).1 = z at *
  generalize (checkL p).2 = ee at *
  by_cases he : ee = 0
  · subst he
    go_enter Tryd.func22, Tryd.ntmps22
    go_wp2_with (first
      | (refine wpList_loadB rfl 25 _ rfl w.heap.size (progC (.slice x p.types.length c) p (.slice x' p.code.length c')) rfl 25 KP.out.blk _ Tryd.underlying25 rfl prog_info ?_)
      | (go_at_call 36; refine HC.out.mono ?_; rintro e1 w1 ⟨rfl, hb⟩))
    go_ret
    exact ⟨ret_bool (by rw [← HR.out]; rfl), HW.out.trans (hb.mono HW.out.size)⟩
  · have e1 : ((ee : Int) == 0) = false := by simp [he]
    have HE := Lib.hid he
    clear he
    go_enter Tryd.func22, Tryd.ntmps22
    go_wp2_with (first
      | (refine wpList_loadB rfl 25 _ rfl w.heap.size (progC (.slice x p.types.length c) p (.slice x' p.code.length c')) rfl 25 KP.out.blk _ Tryd.underlying25 rfl prog_info ?_)
      | (go_at_call 36; refine HC.out.mono ?_; rintro e1 w1 ⟨rfl, hb⟩))
    go_ret
    exact ⟨ret_bool (by rw [← HR.out, decide_eq_false HE.out]), HW.out.trans (hb.mono HW.out.size)⟩
theorem has_n (vs : Value) (a n m : Int) (ao : Option Addr) (c : Nat) (w : World) (HOB : Hid (Calls Tryd.prog 40 #[vs, .int .u8 a] w fun e w' => e = .returned (.slice ao m.toNat c) ∧ w' = w)) (h0 : 0 ≤ m) (h1 : m ≤ 9223372036854775807) (r : Bool) (hr : decide (n < m) = r) :
    Calls Tryd.prog 37 #[vs, .int .u8 a, .int .i64 n] w fun e w' => e = .returned (.bool r) ∧ w' = w := by
  obtain ⟨k, rfl⟩ : ∃ k : Nat, m = k := ⟨m.toNat, by omega⟩
  rw [Int.toNat_natCast] at HOB
  have HR := Lib.hid hr
  clear hr
  by_cases hn : n < (k : Int)
  · have HN := Lib.hid hn
    go_enter Tryd.func37, Tryd.ntmps37
    go_wp2_with (go_at_call 40; refine HOB.out.mono ?_; rintro e1 w1 ⟨rfl, rfl⟩)
    go_ret
    exact ⟨ret_bool (by rw [← HR.out, decide_eq_true HN.out]), rfl⟩
  · have HN := Lib.hid hn
    go_enter Tryd.func37, Tryd.ntmps37
    go_wp2_with (go_at_call 40; refine HOB.out.mono ?_; rintro e1 w1 ⟨rfl, rfl⟩)
    go_ret
    exact ⟨ret_bool (by rw [← HR.out, decide_eq_false (by have := HN.out; omega)]), rfl⟩
def folB (s : PSt) (i : PIns) : Bool := if i.op = 8 ∨ i.op = 10 then decide (pA s i.b = 0) else if i.op = 9 ∨ i.op = 11 then decide (pA s i.a = 0) else false
theorem next_n (w : World) (B b : Nat) (s : PSt) (vo vt : Value) (i : PIns) (hm : Mem w B b s vo vt) (hi : OkI i) (hx : i.op = 4 → i.a < 8) (hpc : s.pc ≤ 1000000) :
    Calls Tryd.prog 38 #[ptr b, insV i] w (AggPost w (.int .i64 (if i.op = 3 ∨ (i.op = 4 ∧ xA s i.a = 0) then i.n else (s.pc : Int) + 1))) := by
  have hwb : Below w.heap.size w (w.alloc (.cells (insC i) 55)) := (Below.refl _ _).alloc (Nat.le_refl _) _
  have HW := Lib.hid hwb
  have hm' := hm.below hwb
  obtain ⟨-, -, c22, -⟩ := hm'.rest
  have HR : Hid (∀ z, (if i.op = 3 ∨ (i.op = 4 ∧ xA s i.a = 0) then i.n else (s.pc : Int) + 1) = z → AggPost w (.int .i64 z) = AggPost w (.int .i64 (if i.op = 3 ∨ (i.op = 4 ∧ xA s i.a = 0) then i.n else (s.pc : Int) + 1))) := Lib.hid fun z hz => by rw [hz]
  by_cases h3 : i.op = 3
  · rw [← HR.out i.n (by rw [if_pos (.inl h3)])]
    clear HR hx hm hi
    obtain ⟨op, a, bb, c, n⟩ := i
    simp only at h3
    subst h3
    go_enter Tryd.func38, Tryd.ntmps38
    go_wp2_with (fail)
    go_quiet (fail)
    go_wp2
    go_ret
    exact ⟨rfl, HW.out.trans ((belowDrewN _ _).mono HW.out.size)⟩
  · have e3 : (i.op == 3) = false := by simp [h3]
    by_cases h4 : i.op = 4
    · have hx' := hx h4
      obtain ⟨o0, o1, a0, a1, b0, b1, cc0, cc1, n0, n1⟩ := hi
      have ca := hm'.x i.a.toNat (by omega)
      by_cases hz : xA s i.a = 0
      · rw [← HR.out i.n (by rw [if_pos (.inr ⟨h4, hz⟩)])]
        rw [show s.x.getD i.a.toNat 0 = 0 from hz] at ca
        clear HR hx hm hm' hz b0 b1 cc0 cc1 n0 n1 o0 o1 a1
        obtain ⟨op, a, bb, c, n⟩ := i
        simp only at h4 hx' ca a0
        obtain ⟨k, rfl⟩ : ∃ k : Nat, a = k := ⟨a.toNat, by omega⟩
        rw [Int.toNat_natCast] at ca
        subst h4
        go_enter Tryd.func38, Tryd.ntmps38
        go_wp2_with (fail)
        go_quiet (fail)
        go_wp2
        go_ret
        exact ⟨rfl, HW.out.trans ((belowDrewN _ _).mono HW.out.size)⟩
      · rw [← HR.out ((s.pc : Int) + 1) (by rw [if_neg (by rintro (h | ⟨_, h⟩); exact h3 h; exact hz h)])]
        rw [show s.x.getD i.a.toNat 0 = xA s i.a from rfl] at ca
        have ez : (xA s i.a == 0) = false := by simp [hz]
        clear HR hx hm hm' hz b0 b1 cc0 cc1 n0 n1 o0 o1 a1
        obtain ⟨op, a, bb, c, n⟩ := i
        simp only at h4 hx' ca a0 ez
        obtain ⟨k, rfl⟩ : ∃ k : Nat, a = k := ⟨a.toNat, by omega⟩
        rw [Int.toNat_natCast] at ca
        generalize xA s (k : Int) = z at *
        subst h4
        go_enter Tryd.func38, Tryd.ntmps38
        go_wp2_with (fail)
        go_quiet (fail)
        go_wp2
        go_ret
        exact ⟨rfl, HW.out.trans ((belowDrewN _ _).mono HW.out.size)⟩
    · have e4 : (i.op == 4) = false := by simp [h4]
      rw [← HR.out ((s.pc : Int) + 1) (by rw [if_neg (by rintro (h | ⟨h, _⟩); exact h3 h; exact h4 h)])]
      clear HR hx hm hm' h3 h4 hi
      obtain ⟨op, a, bb, c, n⟩ := i
      simp only at e3 e4
      go_enter Tryd.func38, Tryd.ntmps38
      go_wp2_with (fail)
      go_quiet (fail)
      go_wp2
      go_ret
      exact ⟨rfl, HW.out.trans ((belowDrewN _ _).mono HW.out.size)⟩
end Go.Proofs.YtmnoohpkjgjphaaDoor
