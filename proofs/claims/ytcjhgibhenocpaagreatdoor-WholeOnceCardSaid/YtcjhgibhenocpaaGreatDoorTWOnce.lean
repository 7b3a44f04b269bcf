/-
  WholeOnce: a plan that many ask for is made once, and is what each of them is told.
-/
import Derived.Test.YtcjhgibhenocpaaGreatDoorTWText
import Derived.Test.YtcjhgibhenocpaaGreatDoorLzFill
import Derived.Test.YtcjhgibhenocpaaGreatDoorUAN
namespace Go.Proofs.YtcjhgibhenocpaaGreatDoor
set_option linter.unusedSimpArgs false
set_option linter.unusedVariables false
open Go.RowKit

theorem tagB {w : World} {b g : Nat} {cs cs' : Array Value} {t t' : TypeId} (h : blk w b cs t) (h' : blk w g cs' t') (hne : t ≠ t') : b ≠ g := by
  rintro rfl
  unfold blk at h h'
  rw [h] at h'
  injection h' with h'
  injection h' with _ h'
  exact hne h'
/-- The blocks of the call: the program, the count, the value, the plan that is wanted. -/
structure OncT (w wr : World) (CB VB g : Nat) (C : Array Value) (c : Int) (V : Array Value) (p : PProg) : Prop where
  below : Below w.heap.size w wr
  prog : blk wr w.heap.size C 25
  cnt : blk wr CB #[.int .i64 c] 46
  val : blk wr VB V 82
  want : blk wr g (factsA (bestL p)) 39
  hC : w.heap.size < CB
  hV : w.heap.size < VB
section
variable {w wr w' : World} {CB VB g : Nat} {C V : Array Value} {c : Int} {p : PProg}
theorem OncT.next (h : OncT w wr CB VB g C c V p) (hb : Below wr.heap.size wr w') : OncT w w' CB VB g C c V p :=
  ⟨h.below.trans (hb.mono h.below.size), blk_below h.prog hb, blk_below h.cnt hb, blk_below h.val hb, blk_below h.want hb, h.hC, h.hV⟩
theorem OncT.count (h : OncT w wr CB VB g C c V p) (d : Int) : OncT w (wr.setCell ⟨CB, 0, none⟩ (.int .i64 d)) CB VB g C d V p := by
  have hC := h.hC
  have n1 := tagB h.val h.cnt (by decide)
  have n2 := tagB h.want h.cnt (by decide)
  rw [setCell_putB h.cnt]
  exact ⟨h.below.trans (putB_below _ (by omega) _ _), by unfold blk; rw [putB_ne _ (by omega)]; exact h.prog, putB_at h.cnt _ _, by unfold blk; rw [putB_ne _ n1]; exact h.val, by unfold blk; rw [putB_ne _ n2]; exact h.want, h.hC, h.hV⟩
theorem OncT.value (h : OncT w wr CB VB g C c V p) (j : Nat) (u : Value) : OncT w (wr.setCell ⟨VB, j, none⟩ u) CB VB g C c (V.setIfInBounds j u) p := by
  have hV := h.hV
  have n1 := tagB h.cnt h.val (by decide)
  have n2 := tagB h.want h.val (by decide)
  rw [setCell_putB h.val]
  exact ⟨h.below.trans (putB_below _ (by omega) _ _), by unfold blk; rw [putB_ne _ (by omega)]; exact h.prog, by unfold blk; rw [putB_ne _ n1]; exact h.cnt, putB_at h.val _ _, by unfold blk; rw [putB_ne _ n2]; exact h.want, h.hC, h.hV⟩
/-- Behind a change of the value's block alone. -/
theorem OncT.only {V' : Array Value} (h : OncT w wr CB VB g C c V p) (ho : Lz.Only VB wr w') (hv : blk w' VB V' 82) : OncT w w' CB VB g C c V' p := by
  have hV := h.hV
  have n1 := tagB h.cnt h.val (by decide)
  have n2 := tagB h.want h.val (by decide)
  exact ⟨h.below.trans (ho.below (by omega)), by unfold blk; rw [ho.block _ (by omega)]; exact h.prog, by unfold blk; rw [ho.block _ n1]; exact h.cnt, hv, by unfold blk; rw [ho.block _ n2]; exact h.want, h.hC, h.hV⟩
end
abbrev onceFv (CB N : Nat) : Value := .func (.func 12) #[] #[.pointer (some ⟨CB, 0, none⟩), .pointer (some ⟨N, 0, none⟩)]
abbrev planV (g n : Nat) : Value := .slice (some ⟨g, 0, none⟩) n n
/-- Behind the first who asked. -/
def OncM (w wr : World) (CB VB g : Nat) (C : Array Value) (p : PProg) (gm : Nat) : Prop := OncT w wr CB VB g C 1 (Lz.made (planV gm p.code.length)) p ∧ blk wr gm (factsA (bestL p)) 39
def OncS (w wr : World) (CB VB g : Nat) (C : Array Value) (p : PProg) (j : Nat) : Prop := (j = 0 ∧ OncT w wr CB VB g C 0 (Lz.fresh (onceFv CB w.heap.size) (.slice none 0 0)) p) ∨ (1 ≤ j ∧ ∃ gm, OncM w wr CB VB g C p gm)
set_option maxRecDepth 100000 in
set_option maxHeartbeats 4000000 in
theorem lzonceF (w wr : World) (CB VB g : Nat) (vt vc : Value) (V : Array Value) (p : PProg) (HT : Hid (OncT w wr CB VB g (progC vt p vc) 0 V p))
    (HBE : Hid (∀ w1, Below w.heap.size w w1 → Calls Tryz.prog 10 #[.agg (progC vt p vc)] w1 (OwnBest w1 p))) :
    Calls Tryz.prog 12 #[.pointer (some ⟨CB, 0, none⟩), .pointer (some ⟨w.heap.size, 0, none⟩)] wr fun e w' => ∃ gm, e = .returned (planV gm p.code.length) ∧ OncT w w' CB VB g (progC vt p vc) 1 V p ∧ blk w' gm (factsA (bestL p)) 39 := by
  have c0 : wr.cell? ⟨CB, 0, none⟩ = some (.int .i64 0) := blk_cell HT.out.cnt 0 _ rfl
  have f0 : wr.frozen? ⟨CB, 0, none⟩ = false := blk_frozen HT.out.cnt 0
  have HA := Lz.cadd ⟨CB, 0, none⟩ 0 1 wr c0 f0
  rw [show wrap64 (0 + 1) = 1 by simp [wrap64]] at HA
  have HA := Lib.hid HA
  have HT1 : Hid (OncT w (wr.setCell ⟨CB, 0, none⟩ (.int .i64 1)) CB VB g (progC vt p vc) 1 V p) := Lib.hid (HT.out.count 1)
  clear c0 f0 HT
  go_enter Tryz.func12, Tryz.ntmps12
  go_upto_region 2 with (go_at_call 13; refine HA.out.mono ?_; rintro e w1 ⟨rfl, rfl⟩)
  obtain ⟨W1, hW1⟩ : ∃ W1, W1 = wr.setCell ⟨CB, 0, none⟩ (.int .i64 1) := ⟨_, rfl⟩
  rw [← hW1] at HT1 ⊢
  clear hW1 HA
  go_wp2_with (first
    | (refine wpList_loadB rfl 25 _ rfl w.heap.size (progC vt p vc) rfl 25 HT1.out.prog _ Tryz.underlying25 rfl prog_info ?_)
    | (go_at_call 10; refine (HBE.out _ HT1.out.below).mono ?_; rintro e w2 ⟨gm, rfl, hg, hr, hb⟩; have HT2 := Lib.hid (HT1.out.next hb); have HR := Lib.hid hr; clear hr hb hg))
  go_ret
  exact ⟨gm, rfl, HT2.out, HR.out⟩
theorem lzget (w wr : World) (CB VB g j : Nat) (vt vc : Value) (p : PProg) (hS : OncS w wr CB VB g (progC vt p vc) p j)
    (HBE : Hid (∀ w1, Below w.heap.size w w1 → Calls Tryz.prog 10 #[.agg (progC vt p vc)] w1 (OwnBest w1 p))) :
    Calls Tryz.prog 14 #[.pointer (some ⟨VB, 0, none⟩)] wr fun e w' => ∃ gm, e = .returned (.tuple #[planV gm p.code.length, .bool true]) ∧ OncM w w' CB VB g (progC vt p vc) p gm := by
  rcases hS with ⟨-, hT⟩ | ⟨-, gm, hT, hr⟩
  · have hT1 := hT.value 2 (.int .i32 1)
    refine (Lz.getExactF VB 12 _ (fun v w2 => ∃ gm, v = (some ⟨gm, 0, none⟩, p.code.length, p.code.length) ∧ OncT w w2 CB VB g (progC vt p vc) 1 (Lz.midway (onceFv CB w.heap.size) (.slice none 0 0)) p ∧ blk w2 gm (factsA (bestL p)) 39) wr (.slice none 0 0)
      (Lz.enters Tryz.func12 (by kernel_rfl) (by kernel_rfl) _) hT.val
      ((lzonceF w _ CB VB g vt vc _ p (Lib.hid hT1) HBE).mono fun e w2 ⟨gm, he, h1, h2⟩ => ⟨(some ⟨gm, 0, none⟩, p.code.length, p.code.length), he, gm, rfl, h1, h2⟩) ?_).mono ?_
    · rintro v w2 ⟨gm, rfl, h1, h2⟩
      exact h1.val
    · rintro e w' ⟨v, w2, rfl, ⟨gm, rfl, h1, h2⟩, ho, hm⟩
      refine ⟨gm, rfl, h1.only ho hm, ?_⟩
      have n1 := tagB h2 h1.val (by decide)
      unfold blk; rw [ho.block _ n1]; exact h2
  · refine (Lz.getMadeF VB (some ⟨gm, 0, none⟩, p.code.length, p.code.length) wr hT.val).mono ?_
    rintro e w' ⟨rfl, rfl⟩
    exact ⟨gm, rfl, hT, hr⟩
set_option maxRecDepth 100000 in
set_option maxHeartbeats 4000000 in
theorem wonce_no (w W0 : World) (p : PProg) (b : Int) (vt vc : Value)
    (hW0 : W0 = w.alloc (.cells (progC vt p vc) 25)) (KP : Hid (blk W0 w.heap.size (progC vt p vc) 25)) (HS : Hid (Below w.heap.size w W0))
    (HSO : Hid (∀ w1, Below w.heap.size w w1 → Calls Tryz.prog 5 #[.agg (progC vt p vc)] w1 (AggPost w1 (.bool false))))
    (HWO : Hid (∀ w1, Below w.heap.size w w1 → Calls Tryz.prog 6 #[] w1 (AggPost w1 (.bool true)))) :
    Calls Tryz.prog 4 #[.agg (progC vt p vc), .int .u8 b] w (AggPost w (.bool true)) := by
  go_enter Tryz.func4, Tryz.ntmps4
  go_upto_region 1 with (fail)
  rw [← hW0]
  clear hW0
  go_wp2_with (first
    | (refine wpList_loadB rfl 25 _ rfl w.heap.size (progC vt p vc) rfl 25 KP.out _ Tryz.underlying25 rfl prog_info ?_)
    | (go_at_call 5; refine (HSO.out _ HS.out).mono ?_; rintro e w1 ⟨rfl, hb⟩; have HS := Lib.hid (HS.out.trans (hb.mono HS.out.size)); clear hb)
    | (go_at_call 6; refine (HWO.out _ HS.out).mono ?_; rintro e w2 ⟨rfl, hb⟩; have HS := Lib.hid (HS.out.trans (hb.mono HS.out.size)); clear hb))
  go_ret
  exact ⟨rfl, HS.out⟩
set_option maxRecDepth 100000 in
set_option maxHeartbeats 8000000 in
theorem wonce_yes (w W0 : World) (p : PProg) (b : Int) (vt vc : Value) (hb0 : 0 ≤ b) (hb1 : b ≤ 255)
    (hW0 : W0 = w.alloc (.cells (progC vt p vc) 25)) (KP : Hid (blk W0 w.heap.size (progC vt p vc) 25)) (HS : Hid (Below w.heap.size w W0)) (hlen : p.code.length ≤ 200)
    (HSO : Hid (∀ w1, Below w.heap.size w w1 → Calls Tryz.prog 5 #[.agg (progC vt p vc)] w1 (AggPost w1 (.bool true))))
    (HWO : Hid (∀ w1, Below w.heap.size w w1 → Calls Tryz.prog 6 #[] w1 (AggPost w1 (.bool true))))
    (HBE : Hid (∀ w1, Below w.heap.size w w1 → Calls Tryz.prog 10 #[.agg (progC vt p vc)] w1 (OwnBest w1 p))) :
    Calls Tryz.prog 4 #[.agg (progC vt p vc), .int .u8 b] w (AggPost w (.bool true)) := by
  have hmf : ∀ (fn : Fn) (first cap : Array Value) (w : World), (Instr.makeFunc fn first cap).run Tryz.prog w = .ok (.func fn first cap) w := fun _ _ _ _ => rfl
  have hnot : ∀ (x : Bool) (w : World), (Op.unary .not (.bool x)).run Tryz.prog w = .ok (.bool (!x)) w := fun _ _ => rfl
  have hnn : ((p.code.length : Int) != (p.code.length : Int)) = false := by simp
  go_enter Tryz.func4, Tryz.ntmps4
  go_upto_region 1 with (fail)
  rw [← hW0]
  clear hW0
  go_upto_region 3 with (first
    | (refine wpList_loadB rfl 25 _ rfl w.heap.size (progC vt p vc) rfl 25 KP.out _ Tryz.underlying25 rfl prog_info ?_)
    | (go_at_call 5; refine (HSO.out _ HS.out).mono ?_; rintro e w1 ⟨rfl, hb⟩; have KP := Lib.hid (blk_below KP.out hb); have HS := Lib.hid (HS.out.trans (hb.mono HS.out.size)); clear hb)
    | (go_at_call 6; refine (HWO.out _ HS.out).mono ?_; rintro e w2 ⟨rfl, hb⟩; have KP2 := Lib.hid (blk_below KP.out hb); have HS2 := Lib.hid (HS.out.trans (hb.mono HS.out.size)); clear hb))
  clear KP HS HSO HWO
  go_upto_region 5 with (go_at_call 11; with_reducible refine (Lz.newF _ _ _).mono ?_; rintro e w' ⟨rfl, rfl⟩)
  have hlt : w.heap.size < w2.heap.size := blk_lt KP2.out
  have hC : blk ((w2.alloc (.cells #[.int .i64 0] 46)).alloc (.cells (Lz.fresh (onceFv w2.heap.size w.heap.size) (.slice none 0 0)) 82)) w2.heap.size #[.int .i64 0] 46 := blk_alloc (blk_new _ _ _) _
  have hV : blk ((w2.alloc (.cells #[.int .i64 0] 46)).alloc (.cells (Lz.fresh (onceFv w2.heap.size w.heap.size) (.slice none 0 0)) 82)) (w2.heap.size + 1) (Lz.fresh (onceFv w2.heap.size w.heap.size) (.slice none 0 0)) 82 := by
    rw [← World.size_alloc w2 (.cells #[.int .i64 0] 46)]
    exact blk_new _ _ _
  have hP : blk ((w2.alloc (.cells #[.int .i64 0] 46)).alloc (.cells (Lz.fresh (onceFv w2.heap.size w.heap.size) (.slice none 0 0)) 82)) w.heap.size (progC vt p vc) 25 := blk_alloc (blk_alloc KP2.out _) _
  have hB : Below w.heap.size w ((w2.alloc (.cells #[.int .i64 0] 46)).alloc (.cells (Lz.fresh (onceFv w2.heap.size w.heap.size) (.slice none 0 0)) 82)) := HS2.out.trans (((Below.refl w2.heap.size w2).alloc (Nat.le_refl _) _).alloc (by rw [World.size_alloc]; omega) _ |>.mono HS2.out.size)
  obtain ⟨W4, hW4⟩ : ∃ W4, W4 = ((w2.alloc (.cells #[.int .i64 0] 46)).alloc (.cells (Lz.fresh (onceFv w2.heap.size w.heap.size) (.slice none 0 0)) 82)) := ⟨_, rfl⟩
  rw [← hW4] at hC hV hP hB
  rw [← hW4]
  clear hW4 KP2 HS2
  obtain ⟨CB, hCB⟩ : ∃ CB, CB = w2.heap.size := ⟨_, rfl⟩
  obtain ⟨VB, hVB⟩ : ∃ VB, VB = w2.heap.size + 1 := ⟨_, rfl⟩
  rw [← hVB, ← hCB] at hV
  rw [← hCB] at hC hlt
  rw [← hVB, ← hCB]
  have hVl : w.heap.size < VB := by omega
  clear hCB hVB
  have HC := Lib.hid hC
  have HV := Lib.hid hV
  have HP := Lib.hid hP
  have HB4 := Lib.hid hB
  have HL := Lib.hid hlt
  have HVL := Lib.hid hVl
  clear hC hV hP hB hlt hVl
  go_upto_region 6 with (first
    | (refine wpList_loadB rfl 25 _ rfl w.heap.size (progC vt p vc) rfl 25 HP.out _ Tryz.underlying25 rfl prog_info ?_)
    | (go_at_call 10; refine (HBE.out _ HB4.out).mono ?_; rintro e w5 ⟨g, rfl, hg, hr, hb⟩; have HT : Hid (OncS w w5 CB VB g (progC vt p vc) p 0) := Lib.hid (.inl ⟨rfl, HB4.out.trans (hb.mono HB4.out.size), blk_below HP.out hb, blk_below HC.out hb, blk_below HV.out hb, hr, HL.out, HVL.out⟩); clear hb hr hg))
  clear HC HV HP HB4 HL HVL
  have hb8 : b % 8 < 8 := by omega
  have hb80 : 0 ≤ b % 8 := by omega
  go_wp2_with (fail)
  generalize b % 8 = r at hb8 hb80 ⊢
  go_loopw [38] (fun v38 wr => ∃ j : Nat, (j : Int) ≤ r ∧ v38 = .int .i64 j ∧ Hid (OncS w wr CB VB g (progC vt p vc) p j)) (fun v38 _ => (r - intOf v38).toNat)
  case atStart => exact ⟨0, by omega, rfl, HT⟩
  case round =>
    obtain ⟨j, hj, rfl, HS⟩ := hrel
    clear HT
    by_cases hjl : (j : Int) < r
    · have HG := Lib.hid (lzget w wr CB VB g j vt vc p HS.out HBE)
      go_wp2_with (go_at_call 14; refine HG.out.mono ?_; rintro e w6 ⟨gm, rfl, hm⟩; have HM := Lib.hid hm; clear hm)
      clear HG HS
      go_loopw [56] (fun v56 wr => ∃ k : Nat, k ≤ p.code.length ∧ v56 = .int .i64 k ∧ Hid (OncM w wr CB VB g (progC vt p vc) p gm)) (fun v56 _ => p.code.length - (intOf v56).toNat)
      case atStart => exact ⟨0, Nat.zero_le _, rfl, HM⟩
      case round =>
        obtain ⟨k, hk, rfl, HM⟩ := hrel
        by_cases hkl : k < p.code.length
        · have hki : (k : Int) < (p.code.length : Int) := by omega
          have hk0 : (0 : Int) ≤ (k : Int) := by omega
          obtain ⟨x, hx⟩ : ∃ x, (bestL p)[k]? = some x := ⟨_, List.getElem?_eq_getElem (by rw [best_len]; exact hkl)⟩
          obtain ⟨b1, o1, e1, q0, q1, q2⟩ := facts_cell (best_facts HM.out.2 hlen) hx
          obtain ⟨b2, o2, e2, r0, r1, r2⟩ := facts_cell (best_facts HM.out.1.want hlen) hx
          cases e1
          cases e2
          rw [Nat.zero_add] at q0 q1 q2 r0 r1 r2
          obtain ⟨x0, x1, x2⟩ := x
          dsimp only at q0 q1 q2 r0 r1 r2
          have HN : Hid (∀ n, OncM w (wr.drewN n) CB VB g (progC vt p vc) p gm) := Lib.hid fun n => ⟨HM.out.1.next (drewB _ n), blk_below HM.out.2 (drewB _ n)⟩
          clear hx HM
          rcases x0 with _ | _ <;> rcases x1 with _ | _ <;> rcases x2 with _ | _ <;>
            (go_wp2
             go_quiet (fail)
             go_wp2
             go_roundw
             case rel => exact ⟨k + 1, by omega, by go_num, Lib.hid (HN.out _)⟩
             case measure => simp [intOf]; omega)
        · have hkn : ¬ ((k : Int) < (p.code.length : Int)) := by omega
          have HS2 : Hid (OncS w wr CB VB g (progC vt p vc) p (j + 1)) := Lib.hid (.inr ⟨by omega, gm, HM.out⟩)
          clear HM
          go_wp2
          go_roundw
          case rel => exact ⟨j + 1, by omega, by go_num, HS2⟩
          case measure => simp [intOf]; omega
    · rcases HS.out with ⟨h0, hT⟩ | ⟨h1, gm, hT, -⟩
      · subst h0
        obtain rfl : r = 0 := by omega
        have c0 : wr.cell? ⟨CB, 0, none⟩ = some (.int .i64 0) := blk_cell hT.cnt 0 _ rfl
        have HV := Lib.hid hT.val
        have HB := Lib.hid hT.below
        clear HS hT
        go_upto_region 21 with (fail)
        clear hj hjl hb8 hb80 hnn hb0 hb1 hlen hmf hnot
        go_wp2_with (first
          | (refine wpList_minZ rfl _ _ _ rfl .i64 0 1 0 rfl rfl (by simp; try omega) ?_)
          | (go_at_call 15; refine (Lz.cget ⟨CB, 0, none⟩ 0 _ c0).mono ?_; rintro e w' ⟨rfl, rfl⟩)
          | (go_at_call 16; refine (Lz.isMadeF VB 0 _ _ HV.out rfl).mono ?_; rintro e w' ⟨rfl, rfl⟩))
        go_ret
        exact ⟨rfl, HB.out⟩
      · have c0 : wr.cell? ⟨CB, 0, none⟩ = some (.int .i64 1) := blk_cell hT.cnt 0 _ rfl
        have HV := Lib.hid hT.val
        have HB := Lib.hid hT.below
        clear HS hT
        by_cases hz1 : r ≤ 1
        · obtain rfl : r = 1 := by omega
          go_wp2_with (first
            | (refine wpList_minZ rfl _ _ _ rfl .i64 1 1 1 rfl rfl (by simp; try omega) ?_)
            | (go_at_call 15; refine (Lz.cget ⟨CB, 0, none⟩ 1 _ c0).mono ?_; rintro e w' ⟨rfl, rfl⟩)
            | (go_at_call 16; refine (Lz.isMadeF VB 1 _ _ HV.out rfl).mono ?_; rintro e w' ⟨rfl, rfl⟩))
          go_ret
          exact ⟨rfl, HB.out⟩
        · have hz : 1 < r := by omega
          have hz0 : 0 < r := by omega
          go_upto_region 21 with (fail)
          clear hj hjl hb8 hb80 hnn hb0 hb1 hlen hmf hnot
          go_wp2_with (first
            | (refine wpList_minZ rfl _ _ _ rfl .i64 r 1 1 rfl rfl (by simp; try omega) ?_)
            | (go_at_call 15; refine (Lz.cget ⟨CB, 0, none⟩ 1 _ c0).mono ?_; rintro e w' ⟨rfl, rfl⟩)
            | (go_at_call 16; refine (Lz.isMadeF VB 1 _ _ HV.out rfl).mono ?_; rintro e w' ⟨rfl, rfl⟩))
          go_ret
          exact ⟨rfl, HB.out⟩
theorem wonce_walk (v : Value) (p : PProg) (b : Int) (w : World) (h : ProgAt w v p) (hs : OkP p) (hA : HasAll w) (lo : 0 ≤ b) (hi : b ≤ 255) : Calls Tryz.prog 4 #[v, .int .u8 b] w fun e w' => e = .returned (.bool true) ∧ Below w.heap.size w w' := by
  obtain ⟨vt, vc, rfl, ht, hc⟩ := id h
  have HS : Hid (Below w.heap.size w (w.alloc (.cells (progC vt p vc) 25))) := Lib.hid ((Below.refl _ _).alloc (Nat.le_refl _) _)
  have KP : Hid (blk (w.alloc (.cells (progC vt p vc) 25)) w.heap.size (progC vt p vc) 25) := Lib.hid (blk_new _ _ _)
  have hso := fun w1 (hb : Below w.heap.size w w1) (r : Bool) (hr : soundB p = r) => sound_n _ p w1 r (h.below hb) hs (hA.t.below hb) hr
  rcases hsd : soundB p with _ | _
  · exact wonce_no w _ p b vt vc rfl KP HS (Lib.hid fun w1 hb => hso w1 hb _ hsd) (Lib.hid fun w1 hb => wworks_n w1 (hA.below hb))
  · obtain ⟨hf, hlen, hck, hin, h1⟩ := sound_parts hsd
    exact wonce_yes w _ p b vt vc lo hi rfl KP HS (by omega) (Lib.hid fun w1 hb => hso w1 hb _ hsd) (Lib.hid fun w1 hb => wworks_n w1 (hA.below hb)) (Lib.hid fun w1 hb => plbest_o _ p w1 (h.below hb) hs (hA.o.below hb) hck)
end Go.Proofs.YtcjhgibhenocpaaGreatDoor
