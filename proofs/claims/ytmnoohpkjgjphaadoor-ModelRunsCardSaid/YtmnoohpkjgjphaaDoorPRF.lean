/-
  The program's hasField, followsNothing, nextPlace, oneIf, mayBeRun: their contracts.
  The program's followsNothing: its contract.
-/
import Derived.Test.YtmnoohpkjgjphaaDoorPA
import Derived.Test.YtmnoohpkjgjphaaDoorHChk
import Derived.StillTailTactics
import Derived.Deep.RegionHeld3

/- The program's hasField, followsNothing, nextPlace, oneIf, mayBeRun: their contracts. -/
namespace Go.Proofs.YtmnoohpkjgjphaaDoor
set_option linter.unusedSimpArgs false
set_option linter.unusedVariables false
open Go.RowKit

theorem oneIf_n (r : Bool) (w : World) : Calls Tryd.prog 41 #[.bool r] w fun e w' => e = .returned (.int .i64 (if r = true then 1 else 0)) ∧ w' = w := by
  rcases r with _ | _
  all_goals
    go_enter Tryd.func41, Tryd.ntmps41
    go_wp2
    go_ret
    exact ⟨rfl, rfl⟩
theorem may_n (v : Value) (p : PProg) (r : Bool) (w : World) (h : ProgAt w v p) (hs : OkP p) (ho : HasO w) (hr : decide ((checkL p).2 = 0) = r) : Calls Tryd.prog 22 #[v] w (AggPost w (.bool r)) := by
  obtain ⟨vt, vc, rfl, ht, hc⟩ := id h
  have hwb : Below w.heap.size w (w.alloc (.cells (progC vt p vc) 25)) := (Below.refl _ _).alloc (Nat.le_refl _) _
  have HW := Lib.hid hwb
  have HC := Lib.hid (check_n _ p (checkL p).1 (checkL p).2 _ (h.below hwb) hs (ho.below hwb) rfl rfl)
  have KP := Lib.hid (keep_new h)
  obtain ⟨x, c, rfl, -, -, -⟩ := id ht.elems
  obtain ⟨x', c', rfl, -, -, -⟩ := id hc
  have HR := Lib.hid hr
  clear hr ht hc h ho hs hwb
  generalize (checkL p).1 = z at *
  generalize (checkL p).2 = ee at *
  by_cases he : ee = 0
  · subst he
    go_enter Tryd.func22, Tryd.ntmps22
    go_wp2_with (first
      | (refine wpList_loadB rfl 25 _ rfl w.heap.size (progC (.slice x p.types.length c) p (.slice x' p.code.length c')) rfl 25 KP.out.blk _ Tryd.underlying25 rfl prog_info ?_)
      | (go_at_call 36; refine HC.out.mono ?_; rintro e1 w1 ⟨rfl, hb⟩))
    go_ret
    exact ⟨ret_bool (by rw [← HR.out]; rfl), HW.out.trans (hb.mono HW.out.size)⟩
  · have e1 : ((ee : Int) == 0) = false := by simp [he]
    have HE := Lib.hid he
    clear he
    go_enter Tryd.func22, Tryd.ntmps22
    go_wp2_with (first
      | (refine wpList_loadB rfl 25 _ rfl w.heap.size (progC (.slice x p.types.length c) p (.slice x' p.code.length c')) rfl 25 KP.out.blk _ Tryd.underlying25 rfl prog_info ?_)
      | (go_at_call 36; refine HC.out.mono ?_; rintro e1 w1 ⟨rfl, hb⟩))
    go_ret
    exact ⟨ret_bool (by rw [← HR.out, decide_eq_false HE.out]), HW.out.trans (hb.mono HW.out.size)⟩
theorem has_n (vs : Value) (a n m : Int) (ao : Option Addr) (c : Nat) (w : World) (HOB : Hid (Calls Tryd.prog 40 #[vs, .int .u8 a] w fun e w' => e = .returned (.slice ao m.toNat c) ∧ w' = w)) (h0 : 0 ≤ m) (h1 : m ≤ 9223372036854775807) (r : Bool) (hr : decide (n < m) = r) :
    Calls Tryd.prog 37 #[vs, .int .u8 a, .int .i64 n] w fun e w' => e = .returned (.bool r) ∧ w' = w := by
  obtain ⟨k, rfl⟩ : ∃ k : Nat, m = k := ⟨m.toNat, by omega⟩
  rw [Int.toNat_natCast] at HOB
  have HR := Lib.hid hr
  clear hr
  by_cases hn : n < (k : Int)
  · have HN := Lib.hid hn
    go_enter Tryd.func37, Tryd.ntmps37
    go_wp2_with (go_at_call 40; refine HOB.out.mono ?_; rintro e1 w1 ⟨rfl, rfl⟩)
    go_ret
    exact ⟨ret_bool (by rw [← HR.out, decide_eq_true HN.out]), rfl⟩
  · have HN := Lib.hid hn
    go_enter Tryd.func37, Tryd.ntmps37
    go_wp2_with (go_at_call 40; refine HOB.out.mono ?_; rintro e1 w1 ⟨rfl, rfl⟩)
    go_ret
    exact ⟨ret_bool (by rw [← HR.out, decide_eq_false (by have := HN.out; omega)]), rfl⟩
def folB (s : PSt) (i : PIns) : Bool := if i.op = 8 ∨ i.op = 10 then decide (pA s i.b = 0) else if i.op = 9 ∨ i.op = 11 then decide (pA s i.a = 0) else false
theorem next_n (w : World) (B b : Nat) (s : PSt) (vo vt : Value) (i : PIns) (hm : Mem w B b s vo vt) (hi : OkI i) (hx : i.op = 4 → i.a < 8) (hpc : s.pc ≤ 1000000) :
    Calls Tryd.prog 38 #[ptr b, insV i] w (AggPost w (.int .i64 (if i.op = 3 ∨ (i.op = 4 ∧ xA s i.a = 0) then i.n else (s.pc : Int) + 1))) := by
  have hwb : Below w.heap.size w (w.alloc (.cells (insC i) 55)) := (Below.refl _ _).alloc (Nat.le_refl _) _
  have HW := Lib.hid hwb
  have hm' := hm.below hwb
  obtain ⟨-, -, c22, -⟩ := hm'.rest
  have HR : Hid (∀ z, (if i.op = 3 ∨ (i.op = 4 ∧ xA s i.a = 0) then i.n else (s.pc : Int) + 1) = z → AggPost w (.int .i64 z) = AggPost w (.int .i64 (if i.op = 3 ∨ (i.op = 4 ∧ xA s i.a = 0) then i.n else (s.pc : Int) + 1))) := Lib.hid fun z hz => by rw [hz]
  by_cases h3 : i.op = 3
  · rw [← HR.out i.n (by rw [if_pos (.inl h3)])]
    clear HR hx hm hi
    obtain ⟨op, a, bb, c, n⟩ := i
    simp only at h3
    subst h3
    go_enter Tryd.func38, Tryd.ntmps38
    go_wp2_with (fail)
    go_quiet (fail)
    go_wp2
    go_ret
    exact ⟨rfl, HW.out.trans ((belowDrewN _ _).mono HW.out.size)⟩
  · have e3 : (i.op == 3) = false := by simp [h3]
    by_cases h4 : i.op = 4
    · have hx' := hx h4
      obtain ⟨o0, o1, a0, a1, b0, b1, cc0, cc1, n0, n1⟩ := hi
      have ca := hm'.x i.a.toNat (by omega)
      by_cases hz : xA s i.a = 0
      · rw [← HR.out i.n (by rw [if_pos (.inr ⟨h4, hz⟩)])]
        rw [show s.x.getD i.a.toNat 0 = 0 from hz] at ca
        clear HR hx hm hm' hz b0 b1 cc0 cc1 n0 n1 o0 o1 a1
        obtain ⟨op, a, bb, c, n⟩ := i
        simp only at h4 hx' ca a0
        obtain ⟨k, rfl⟩ : ∃ k : Nat, a = k := ⟨a.toNat, by omega⟩
        rw [Int.toNat_natCast] at ca
        subst h4
        go_enter Tryd.func38, Tryd.ntmps38
        go_wp2_with (fail)
        go_quiet (fail)
        go_wp2
        go_ret
        exact ⟨rfl, HW.out.trans ((belowDrewN _ _).mono HW.out.size)⟩
      · rw [← HR.out ((s.pc : Int) + 1) (by rw [if_neg (by rintro (h | ⟨_, h⟩); exact h3 h; exact hz h)])]
        rw [show s.x.getD i.a.toNat 0 = xA s i.a from rfl] at ca
        have ez : (xA s i.a == 0) = false := by simp [hz]
        clear HR hx hm hm' hz b0 b1 cc0 cc1 n0 n1 o0 o1 a1
        obtain ⟨op, a, bb, c, n⟩ := i
        simp only at h4 hx' ca a0 ez
        obtain ⟨k, rfl⟩ : ∃ k : Nat, a = k := ⟨a.toNat, by omega⟩
        rw [Int.toNat_natCast] at ca
        generalize xA s (k : Int) = z at *
        subst h4
        go_enter Tryd.func38, Tryd.ntmps38
        go_wp2_with (fail)
        go_quiet (fail)
        go_wp2
        go_ret
        exact ⟨rfl, HW.out.trans ((belowDrewN _ _).mono HW.out.size)⟩
    · have e4 : (i.op == 4) = false := by simp [h4]
      rw [← HR.out ((s.pc : Int) + 1) (by rw [if_neg (by rintro (h | ⟨h, _⟩); exact h3 h; exact h4 h)])]
      clear HR hx hm hm' h3 h4 hi
      obtain ⟨op, a, bb, c, n⟩ := i
      simp only at e3 e4
      go_enter Tryd.func38, Tryd.ntmps38
      go_wp2_with (fail)
      go_quiet (fail)
      go_wp2
      go_ret
      exact ⟨rfl, HW.out.trans ((belowDrewN _ _).mono HW.out.size)⟩
end Go.Proofs.YtmnoohpkjgjphaaDoor

/- The program's followsNothing: its contract. -/
namespace Go.Proofs.YtmnoohpkjgjphaaDoor
set_option linter.unusedSimpArgs false
set_option linter.unusedVariables false
open Go.RowKit

def hasB (s : PSt) (a n : Int) : Bool := decide (n < if pA s a = 0 then 0 else ((objA s.objs (pA s a)).length : Int))
def PtrIn (s : PSt) (a : Int) : Prop := pA s a = 0 ∨ (1 ≤ pA s a ∧ pA s a ≤ s.objs.length)
theorem has_any (w : World) (B b : Nat) (s : PSt) (vo vt : Value) (a n : Int) (r : Bool) (hm : Mem w B b s vo vt) (h0 : 0 ≤ a) (ha : a < 8) (hp : PtrIn s a) (hr : hasB s a n = r) :
    Calls Tryd.prog 37 #[ptr b, .int .u8 a, .int .i64 n] w fun e w' => e = .returned (.bool r) ∧ w' = w := by
  obtain ⟨k, rfl⟩ : ∃ k : Nat, a = k := ⟨a.toNat, by omega⟩
  unfold hasB at hr
  by_cases hz : pA s (k : Int) = 0
  · rw [if_pos hz] at hr
    exact has_n _ _ n 0 none 0 w (Lib.hid (object_nil w B b s vo vt k hm (by omega) hz)) (by omega) (by omega) r hr
  · rw [if_neg hz] at hr
    obtain ⟨h1, h2⟩ := hp.resolve_left hz
    obtain ⟨rows, gs, g, cap, cur, go, co, hr', hg, hvo, k1, k2, k3, k4, k5, k6, k7, k8⟩ := hm.obj h1 h2
    subst hvo
    exact has_n _ _ n ((objA s.objs (pA s (k : Int))).length : Int) (some ⟨g, 0, none⟩) cap w (Lib.hid (by
      rw [Int.toNat_natCast]
      exact object_row w b s k (pA s (k : Int)) go g s.objs.length _ co cap (by have := hm.p k (by omega); rw [this]; unfold pA; rw [Int.toNat_natCast]) (by omega) h1 h2 hm.rest.1 k1 k2 k3)) (by omega) (by omega) r hr
/-- What a valid program asks of it. -/
theorem fol_has {p : PProg} {s : PSt} {ts : List Nat} {i : PIns} {n : Int} (hv : InvS p s ts) (hh : headB p = true) (ho : OkI i) (he : insE p n i = 0) :
    (i.op = 8 ∨ i.op = 10 → i.b < 8 ∧ PtrIn s i.b ∧ hasB s i.b i.n = !folB s i) ∧ (i.op = 9 ∨ i.op = 11 → i.a < 8 ∧ PtrIn s i.a ∧ hasB s i.a i.n = !folB s i) := by
  obtain ⟨hr, _, _, hk⟩ := ins_parts he
  obtain ⟨o0, o1, a0, a1, b0, b1, c0, c1, n0, n1⟩ := ho
  have h8 : p.locals.length ≤ 8 := (head_parts hh).2.2.1
  have key : ∀ a : Int, 0 ≤ a → 0 ≤ localI p a → (0 ≤ i.n ∧ i.n < sizeP p.types (localI p a)) → a < 8 ∧ PtrIn s a ∧ hasB s a i.n = !decide (pA s a = 0) := by
    intro a h0 hl hn
    have hlt := (local_lt hh h0 hl).1
    have hp := hv.pA hh h0 hl
    have hin : PtrIn s a := by
      rcases hp with hp | ⟨h1, h2, _⟩
      · exact .inl hp
      · exact .inr ⟨h1, by rw [hv.lo]; exact h2⟩
    refine ⟨by omega, hin, ?_⟩
    unfold hasB
    by_cases hz : pA s a = 0
    · rw [if_pos hz, decide_eq_true hz, decide_eq_false (by omega)]; rfl
    · obtain ⟨_, _, _, g4⟩ := hv.obj hp hz
      rw [if_neg hz, decide_eq_false hz, decide_eq_true (by omega)]; rfl
  refine ⟨fun h => ?_, fun h => ?_⟩
  · have hb : 0 ≤ localI p i.b ∧ (0 ≤ i.n ∧ i.n < sizeP p.types (localI p i.b)) := by
      rcases h with e | e
      · have : 0 ≤ localI p i.b ∧ numF p.types (localI p i.b) i.n = true := by unfold kindsB at hk; rw [e] at hk; simpa using hk
        have := num_parts this.2
        omega
      · have : 0 ≤ localI p i.b ∧ sameT (localI p i.a) (toP p.types (localI p i.b) i.n) = true := by unfold kindsB at hk; rw [e] at hk; simpa using hk
        obtain ⟨m1, m2⟩ := same_parts this.2
        have := toP_has (ts := p.types) (t := localI p i.b) (n := i.n) (by omega)
        omega
    obtain ⟨k1, k2, k3⟩ := key i.b b0 hb.1 hb.2
    exact ⟨k1, k2, by rw [k3]; unfold folB; rw [if_pos h]⟩
  · have hb : 0 ≤ localI p i.a ∧ (0 ≤ i.n ∧ i.n < sizeP p.types (localI p i.a)) := by
      rcases h with e | e
      · have : 0 ≤ localI p i.a ∧ numF p.types (localI p i.a) i.n = true := by unfold kindsB at hk; rw [e] at hk; simpa using hk
        have := num_parts this.2
        omega
      · have : 0 ≤ localI p i.a ∧ sameT (localI p i.b) (toP p.types (localI p i.a) i.n) = true := by unfold kindsB at hk; rw [e] at hk; simpa using hk
        obtain ⟨m1, m2⟩ := same_parts this.2
        have := toP_has (ts := p.types) (t := localI p i.a) (n := i.n) (by omega)
        omega
    obtain ⟨k1, k2, k3⟩ := key i.a a0 hb.1 hb.2
    exact ⟨k1, k2, by rw [k3]; unfold folB; rw [if_neg (by omega), if_pos h]⟩
theorem fol_iff {p : PProg} {s : PSt} {i : PIns} (hop : i.op = 1 ∨ i.op = 2 ∨ i.op = 3 ∨ i.op = 4 ∨ i.op = 5 ∨ i.op = 6 ∨ i.op = 7 ∨ i.op = 8 ∨ i.op = 9 ∨ i.op = 10 ∨ i.op = 11 ∨ i.op = 12 ∨ i.op = 13 ∨ i.op = 14 ∨ i.op = 15) : doI p (onI s) i = none ↔ folB s i = true := by
  have eb : pA (onI s) i.b = pA s i.b := rfl
  have ea : pA (onI s) i.a = pA s i.a := rfl
  unfold folB
  rcases hop with e | e | e | e | e | e | e | e | e | e | e | e | e | e | e
  · rw [doI_1 e, e]; simp
  · rw [doI_2 e, e]; simp
  · rw [doI_3 e, e]; simp
  · rw [doI_4 e, e]; simp
  · rw [doI_5 e, e]; simp
  · rw [doI_6 e, e]; simp
  · rw [doI_7 e, e]; simp
  · rw [doI_8 e, e, eb]; simp
  · rw [doI_9 e, e, ea]; simp
  · rw [doI_10 e, e, eb]; simp
  · rw [doI_11 e, e, ea]; simp
  · rw [doI_12 e, e]; simp
  · rw [doI_13 e, e]; simp
  · rw [doI_14 e, e]; simp
  · rw [doI_15 e, e]; simp

set_option maxRecDepth 100000 in
set_option maxHeartbeats 2000000 in
theorem follows_at (w W0 : World) (p : PProg) (b : Nat) (vt' : Value) (pc bb o k' : Nat) (op a ib c n : Int) (r hb : Bool)
    (hW0 : W0 = w.alloc (.cells (progC vt' p (.slice (some ⟨bb, o, none⟩) p.code.length k')) 25)) (HS : Hid (Below w.heap.size w W0)) (p3 : W0.cell? ⟨w.heap.size, 3, none⟩ = some (.slice (some ⟨bb, o, none⟩) p.code.length k'))
    (c22 : W0.cell? ⟨b, 22, none⟩ = some (.int .i64 pc)) (hpc : pc < p.code.length) (g1 : p.code.length ≤ k') (g2 : k' ≤ 9223372036854775807) (hr : Hid (W0.rangeAt bb (o + pc * 5) (insC ⟨op, a, ib, c, n⟩).toList)) (hlt : bb < W0.heap.size)
    (HB : Hid (op = 8 ∨ op = 10 → hb = !r ∧ ∀ w1, Below W0.heap.size W0 w1 → Calls Tryd.prog 37 #[ptr b, .int .u8 ib, .int .i64 n] w1 fun e w' => e = .returned (.bool hb) ∧ w' = w1))
    (HA : Hid (op = 9 ∨ op = 11 → hb = !r ∧ ∀ w1, Below W0.heap.size W0 w1 → Calls Tryd.prog 37 #[ptr b, .int .u8 a, .int .i64 n] w1 fun e w' => e = .returned (.bool hb) ∧ w' = w1))
    (HN : Hid (op ≠ 8 → op ≠ 9 → op ≠ 10 → op ≠ 11 → r = false)) :
    Calls Tryd.prog 24 #[.agg (progC vt' p (.slice (some ⟨bb, o, none⟩) p.code.length k')), ptr b] w (AggPost w (.bool r)) := by
  go_enter Tryd.func24, Tryd.ntmps24
  go_wp2_with (fail)
  rw [← hW0]
  clear hW0
  obtain ⟨d0, d1, d2, d3, d4⟩ : (W0.cell? ⟨bb, o + pc * 5, none⟩ = some (.int .u8 op)) ∧ W0.cell? ⟨bb, o + pc * 5 + 1, none⟩ = some (.int .u8 a) ∧ W0.cell? ⟨bb, o + pc * 5 + 2, none⟩ = some (.int .u8 ib) ∧ W0.cell? ⟨bb, o + pc * 5 + 3, none⟩ = some (.int .u8 c) ∧ W0.cell? ⟨bb, o + pc * 5 + 4, none⟩ = some (.int .i64 n) := ⟨hr.out 0 _ rfl, hr.out 1 _ rfl, hr.out 2 _ rfl, hr.out 3 _ rfl, hr.out 4 _ rfl⟩
  go_region_held3 (fun w' => w'.cell? ⟨w.heap.size, 3, none⟩ = some (.slice (some ⟨bb, o, none⟩) p.code.length k') ∧ w'.cell? ⟨b, 22, none⟩ = some (.int .i64 pc) ∧ w'.cell? ⟨bb, o + pc * 5, none⟩ = some (.int .u8 op) ∧ w'.cell? ⟨bb, o + pc * 5 + 1, none⟩ = some (.int .u8 a) ∧ w'.cell? ⟨bb, o + pc * 5 + 2, none⟩ = some (.int .u8 ib) ∧ w'.cell? ⟨bb, o + pc * 5 + 3, none⟩ = some (.int .u8 c) ∧ w'.cell? ⟨bb, o + pc * 5 + 4, none⟩ = some (.int .i64 n)) (go_keep) (first | fail)
  all_goals
    clear p3 c22 d0 d1 d2 d3 d4 hr
    by_cases e8 : op = 8
    · subst e8
      have HQ := Lib.hid (HB.out (.inl rfl)).1
      go_wp2_with (go_at_call 37; refine ((HB.out (.inl rfl)).2 _ ?_).mono ?_; (first | exact (Below.refl _ _).drew.alloc (Nat.le_refl _) _ | exact ((Below.refl _ _).alloc (Nat.le_refl _) _).drew); rintro e1 w1 ⟨rfl, rfl⟩)
      go_ret
      exact ⟨ret_bool (by rw [HQ.out]; simp), HS.out.trans (((Below.refl W0.heap.size W0).drew.alloc (Nat.le_refl _) _).mono HS.out.size)⟩
    by_cases e10 : op = 10
    · subst e10
      have HQ := Lib.hid (HB.out (.inr rfl)).1
      go_wp2_with (go_at_call 37; refine ((HB.out (.inr rfl)).2 _ ?_).mono ?_; (first | exact (Below.refl _ _).drew.alloc (Nat.le_refl _) _ | exact ((Below.refl _ _).alloc (Nat.le_refl _) _).drew); rintro e1 w1 ⟨rfl, rfl⟩)
      go_ret
      exact ⟨ret_bool (by rw [HQ.out]; simp), HS.out.trans (((Below.refl W0.heap.size W0).drew.alloc (Nat.le_refl _) _).mono HS.out.size)⟩
    by_cases e9 : op = 9
    · subst e9
      have HQ := Lib.hid (HA.out (.inl rfl)).1
      go_wp2_with (go_at_call 37; refine ((HA.out (.inl rfl)).2 _ ?_).mono ?_; (first | exact (Below.refl _ _).drew.alloc (Nat.le_refl _) _ | exact ((Below.refl _ _).alloc (Nat.le_refl _) _).drew); rintro e1 w1 ⟨rfl, rfl⟩)
      go_ret
      exact ⟨ret_bool (by rw [HQ.out]; simp), HS.out.trans (((Below.refl W0.heap.size W0).drew.alloc (Nat.le_refl _) _).mono HS.out.size)⟩
    by_cases e11 : op = 11
    · subst e11
      have HQ := Lib.hid (HA.out (.inr rfl)).1
      go_wp2_with (go_at_call 37; refine ((HA.out (.inr rfl)).2 _ ?_).mono ?_; (first | exact (Below.refl _ _).drew.alloc (Nat.le_refl _) _ | exact ((Below.refl _ _).alloc (Nat.le_refl _) _).drew); rintro e1 w1 ⟨rfl, rfl⟩)
      go_ret
      exact ⟨ret_bool (by rw [HQ.out]; simp), HS.out.trans (((Below.refl W0.heap.size W0).drew.alloc (Nat.le_refl _) _).mono HS.out.size)⟩
    have HQ := Lib.hid (HN.out e8 e9 e10 e11)
    have t8 : (op == 8) = false := by simp [e8]
    have t9 : (op == 9) = false := by simp [e9]
    have t10 : (op == 10) = false := by simp [e10]
    have t11 : (op == 11) = false := by simp [e11]
    clear e8 e9 e10 e11
    go_wp2
    go_ret
    exact ⟨ret_bool HQ.out.symm, HS.out.trans (((Below.refl W0.heap.size W0).drew.alloc (Nat.le_refl _) _).mono HS.out.size)⟩
theorem follows_n (v : Value) (p : PProg) (w : World) (B b : Nat) (s : PSt) (vo vt : Value) (ts : List Nat) (i : PIns) (r : Bool) (h : ProgAt w v p) (hm : Mem w B b s vo vt) (hv : InvS p s ts) (hh : headB p = true) (ho : OkI i) (hi : p.code[s.pc]? = some i) (he : insE p p.code.length i = 0) (hr : folB s i = r) :
    Calls Tryd.prog 24 #[v, ptr b] w (AggPost w (.bool r)) := by
  obtain ⟨vt', vc, rfl, ht, hc⟩ := h
  obtain ⟨x, k', rfl, g1, g2, g3⟩ := id hc
  obtain ⟨bb, o, rfl, hlt, hrng⟩ := g3 s.pc i hi
  have hwb : Below w.heap.size w (w.alloc (.cells (progC vt' p (.slice (some ⟨bb, o, none⟩) p.code.length k')) 25)) := (Below.refl _ _).alloc (Nat.le_refl _) _
  have hm' := hm.below hwb
  obtain ⟨f1, f2⟩ := fol_has hv hh ho he
  have hsz := hwb.size
  unfold maxLen at g2
  obtain ⟨op, a, ib, c, n⟩ := i
  refine follows_at w _ p b vt' s.pc bb o k' op a ib c n r (!r) rfl (Lib.hid hwb) (blk_cell (blk_new w _ _) 3 _ rfl) hm'.rest.2.2.1 (List.getElem?_eq_some_iff.1 hi).1 g1 g2 (Lib.hid (rangeAt_below hrng hlt hwb)) (by omega) (Lib.hid fun hop => ⟨rfl, fun w1 hb1 => ?_⟩) (Lib.hid fun hop => ⟨rfl, fun w1 hb1 => ?_⟩) (Lib.hid fun h1 h2 h3 h4 => ?_)
  · obtain ⟨k1, k2, k3⟩ := f1 hop
    exact has_any w1 B b s vo vt ib n (!r) (hm'.below hb1) ho.b0 k1 k2 (by rw [← hr]; exact k3)
  · obtain ⟨k1, k2, k3⟩ := f2 hop
    exact has_any w1 B b s vo vt a n (!r) (hm'.below hb1) ho.a0 k1 k2 (by rw [← hr]; exact k3)
  · rw [← hr]; unfold folB; rw [if_neg (by simp only; omega), if_neg (by simp only; omega)]
end Go.Proofs.YtmnoohpkjgjphaaDoor
