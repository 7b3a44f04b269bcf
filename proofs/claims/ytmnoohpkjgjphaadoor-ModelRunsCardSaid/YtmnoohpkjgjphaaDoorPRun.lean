/-
  The program's Run: its contract.
-/
import Derived.Test.YtmnoohpkjgjphaaDoorPStep
import Derived.Deep.LoopGhost
namespace Go.Proofs.YtmnoohpkjgjphaaDoor
set_option linter.unusedSimpArgs false
set_option linter.unusedVariables false
open Go.RowKit

theorem go_end {q : PProg} {s : PSt} (n : Nat) (h : stepL q s = (s, true, 0)) : goL q n s = (s, 0) := by
  rcases n with _ | n
  · unfold goL; rw [h]; simp
  · unfold goL; rw [h]; simp
theorem go_zero {q : PProg} {s : PSt} (n : Nat) (h : stepL q s = (s, false, 9)) : goL q n s = (s, 9) := by
  rcases n with _ | n
  · unfold goL; rw [h]; simp
  · unfold goL; rw [h]; simp
theorem go_fuel {q : PProg} {s t : PSt} (h : stepL q s = (t, false, 0)) : goL q 0 s = (s, 10) := by unfold goL; rw [h]; simp
theorem go_step' {q : PProg} {s t : PSt} (n : Nat) (h : stepL q s = (t, false, 0)) : goL q (n + 1) s = goL q n t := by
  rw [goL, h]; simp
theorem zeroS_one : zeroS.all (·.oneCell') = true := stC_one st0 rfl rfl
def RunPost (w : World) (l : List Int) (z : Nat) (e : Ending) (w' : World) : Prop := ∃ vt, e = .returned (.tuple #[vt, .int .i64 z]) ∧ RowN w' vt (i64s l) ∧ Below w.heap.size w w'
/-- The world in a run. -/
structure RnW (w wr : World) (b : Nat) (vt' vc : Value) (p : PProg) (s : PSt) (vo vt : Value) : Prop where
  below : Below w.heap.size w wr
  prog : blk wr w.heap.size (progC vt' p vc) 25
  mem : Mem wr w.heap.size b s vo vt
theorem RnW.next {w wr w' : World} {b : Nat} {vt' vc : Value} {p : PProg} {s : PSt} {vo vt : Value} (h : RnW w wr b vt' vc p s vo vt) (hb : Below wr.heap.size wr w') : RnW w w' b vt' vc p s vo vt :=
  ⟨h.below.trans (hb.mono h.below.size), blk_below h.prog hb, h.mem.below hb⟩
theorem RnW.done {w wr w' : World} {b : Nat} {vt' vc : Value} {p : PProg} {s t : PSt} {vo vt vo' vu : Value} (h : RnW w wr b vt' vc p s vo vt) (hm : Mem w' w.heap.size b t vo' vu) (hb : Below w.heap.size wr w') (hf : FarB wr w' b) (hne : b ≠ w.heap.size) : RnW w w' b vt' vc p t vo' vu :=
  ⟨h.below.trans hb, hf _ _ _ h.prog (fun e => hne e.symm) (by decide) (by decide), hm⟩
theorem mem_zero {w : World} {B : Nat} (h : B ≤ w.heap.size) : Mem (w.alloc (.cells zeroS 34)) B w.heap.size st0 (.slice none 0 0) (.slice none 0 0) :=
  ⟨blk_new _ _ _, h, ⟨len_st0, ⟨[], [], World.ownsRow_nil _ _ _ _, fun _ => rfl, rfl, List.nodup_nil, by simp [st0], fun j r xs g hr => by simp at hr⟩, World.ownsRow_nil _ _ _ _, fun _ => rfl⟩⟩
set_option maxRecDepth 100000 in
set_option maxHeartbeats 4000000 in
theorem mrun_bad (w W0 : World) (p : PProg) (vt' : Value) (xc : Option Addr) (kc : Nat) (m : Bool) (fuel : Int)
    (hW0 : W0 = w.alloc (.cells (progC vt' p (.slice xc p.code.length kc)) 25)) (HS : Hid (Below w.heap.size w W0)) (KP : Hid (blk W0 w.heap.size (progC vt' p (.slice xc p.code.length kc)) 25))
    (HMA : Hid (∀ w1, Below w.heap.size w w1 → Calls Tryd.prog 22 #[.agg (progC vt' p (.slice xc p.code.length kc))] w1 (AggPost w1 (.bool m)))) (hm : m = false ∨ fuel < 0) :
    Calls Tryd.prog 15 #[.agg (progC vt' p (.slice xc p.code.length kc)), .int .i64 fuel] w (RunPost w [] 2) := by
  rcases m with _ | _
  · go_enter Tryd.func15, Tryd.ntmps15
    go_upto_region 1 with (fail)
    rw [← hW0]
    clear hW0 hm
    go_wp2_with (first
      | (refine wpList_loadB rfl 25 _ rfl w.heap.size (progC vt' p (.slice xc p.code.length kc)) rfl 25 KP.out _ Tryd.underlying25 rfl prog_info ?_)
      | (go_at_call 22; refine (HMA.out _ HS.out).mono ?_; rintro e w3 ⟨rfl, hb⟩; have HB := Lib.hid (HS.out.trans (hb.mono HS.out.size)); clear hb))
    go_ret2
    exact ⟨_, rfl, rowN_nil _, HB.out⟩
  · have hf : fuel < 0 := hm.resolve_left (by decide)
    clear hm
    go_enter Tryd.func15, Tryd.ntmps15
    go_upto_region 1 with (fail)
    rw [← hW0]
    clear hW0
    go_wp2_with (first
      | (refine wpList_loadB rfl 25 _ rfl w.heap.size (progC vt' p (.slice xc p.code.length kc)) rfl 25 KP.out _ Tryd.underlying25 rfl prog_info ?_)
      | (go_at_call 22; refine (HMA.out _ HS.out).mono ?_; rintro e w3 ⟨rfl, hb⟩; have HB := Lib.hid (HS.out.trans (hb.mono HS.out.size)); clear hb))
    go_ret2
    exact ⟨_, rfl, rowN_nil _, HB.out⟩
set_option maxRecDepth 100000 in
set_option maxHeartbeats 4000000 in
theorem mrun_at (w W0 : World) (p : PProg) (vt' : Value) (xc : Option Addr) (kc : Nat) (fuel : Nat) (l : List Int) (z : Nat)
    (hW0 : W0 = w.alloc (.cells (progC vt' p (.slice xc p.code.length kc)) 25)) (HS : Hid (Below w.heap.size w W0)) (KP : Hid (blk W0 w.heap.size (progC vt' p (.slice xc p.code.length kc)) 25))
    (HMA : Hid (∀ w1, Below w.heap.size w w1 → Calls Tryd.prog 22 #[.agg (progC vt' p (.slice xc p.code.length kc))] w1 (AggPost w1 (.bool true))))
    (HDN : Hid (∀ b w1 s vo1 vt1 d, Below w.heap.size w w1 → Mem w1 w.heap.size b s vo1 vt1 → s.pc ≤ 1000000 → decide (s.pc = p.code.length) = d → Calls Tryd.prog 23 #[.agg (progC vt' p (.slice xc p.code.length kc)), ptr b] w1 (AggPost w1 (.bool d))))
    (HFO : Hid (∀ b w1 s vo1 vt1 ts k i f, Below w.heap.size w w1 → Mem w1 w.heap.size b s vo1 vt1 → RunOk p s ts k → p.code[s.pc]? = some i → folB s i = f → Calls Tryd.prog 24 #[.agg (progC vt' p (.slice xc p.code.length kc)), ptr b] w1 (AggPost w1 (.bool f))))
    (HDO : Hid (∀ b w1 s t vo1 vt1 ts k i, Below w.heap.size w w1 → Mem w1 w.heap.size b s vo1 vt1 → RunOk p s ts k → k ≤ 1000000 → p.code[s.pc]? = some i → doI p (onI s) i = some t → Calls Tryd.prog 25 #[.agg (progC vt' p (.slice xc p.code.length kc)), ptr b] w1 (DoPost w1 w.heap.size b t)))
    (HC : Hid ((checkL p).2 = 0)) (HOK : Hid (OkP p)) (hfu : fuel ≤ 1000000) (hlen : p.code.length ≤ 200) (HG : Hid ((goL p fuel st0).1.out = l ∧ (goL p fuel st0).2 = z)) :
    Calls Tryd.prog 15 #[.agg (progC vt' p (.slice xc p.code.length kc)), .int .i64 fuel] w (RunPost w l z) := by
  go_enter Tryd.func15, Tryd.ntmps15
  go_upto_region 1 with (fail)
  rw [← hW0]
  clear hW0
  go_upto_region 3 with (first
    | (refine wpList_loadB rfl 25 _ rfl w.heap.size (progC vt' p (.slice xc p.code.length kc)) rfl 25 KP.out _ Tryd.underlying25 rfl prog_info ?_)
    | (go_at_call 22; refine (HMA.out _ HS.out).mono ?_; rintro e w1 ⟨rfl, hb⟩; have HB := Lib.hid (HS.out.trans (hb.mono HS.out.size)); have KP1 := Lib.hid (blk_below KP.out hb); clear hb))
  refine wp_region_lit ?_
  refine wpList_plain rfl (fun K hK => ?_)
  go_simp
  refine hK _ _ ?_
  clear hK K
  refine wpList_plain rfl (fun K hK => ?_)
  go_simp
  refine hK _ _ ?_
  clear hK K
  refine wpList_putB rfl 34 _ _ rfl w1.heap.size zeroS rfl rfl 34 _ (blk_new w1 zeroS 34) state_info rfl zeroS_one ?_
  simp only [Act.put, List.setIfInBounds_toArray, List.set_cons_zero, List.set_cons_succ]
  go_wp2
  have HM0 := Lib.hid (mem_zero HB.out.size)
  have HW0 : Hid (RnW w (putB (w1.alloc (.cells zeroS 34)) w1.heap.size zeroS 34) w1.heap.size vt' (.slice xc p.code.length kc) p st0 (.slice none 0 0) (.slice none 0 0)) := Lib.hid
    ⟨(HB.out.alloc HB.out.size _).trans (putB_below _ HB.out.size _ _), by have := blk_lt KP1.out; unfold blk; rw [putB_ne _ (by omega)]; exact blk_alloc KP1.out _, ⟨putB_at HM0.out.blk _ _, HB.out.size, HM0.out.parts.putS HM0.out.blk _ _ len_st0 rfl rfl⟩⟩
  have hbne : w1.heap.size ≠ w.heap.size := by have := blk_lt KP1.out; omega
  obtain ⟨wb, hwb⟩ : ∃ wb, wb = putB (w1.alloc (.cells zeroS 34)) w1.heap.size zeroS 34 := ⟨_, rfl⟩
  obtain ⟨b, hb'⟩ : ∃ b, b = w1.heap.size := ⟨_, rfl⟩
  rw [← hwb] at HW0 ⊢
  rw [← hb'] at HW0 hbne ⊢
  clear hwb hb' HM0 KP1 HB KP HS HMA
  go_loopg [4] fuel (fun g v4 wr => v4 = .slice none 0 0 ∧ ∃ (k : Nat) (s : PSt) (ts : List Nat) (vo vt : Value), k ≤ fuel ∧ g = fuel - k ∧ Hid (RunOk p s ts k) ∧ Hid (RnW w wr b vt' (.slice xc p.code.length kc) p s vo vt) ∧ Hid (goL p (fuel - k) s = goL p fuel st0))
  case atStart => exact ⟨rfl, 0, st0, [], _, _, Nat.zero_le _, rfl, Lib.hid (run_0 p), HW0, Lib.hid rfl⟩
  case round =>
    obtain ⟨rfl, k, s, ts, vo, vt, hk, rfl, HRK, HW, HGL⟩ := hrel
    clear HW0
    have hpc : s.pc ≤ 1000000 := by have := HRK.out.pc; omega
    have hst := HRK.out.st
    rcases step_one HC.out HRK.out with ⟨hp, he⟩ | ⟨i, hi, hz, ⟨hd, he⟩ | ⟨t, hd, he⟩⟩
    · have HDD : Hid (decide (s.pc = p.code.length) = true) := Lib.hid (decide_eq_true hp)
      have HGE : Hid (goL p fuel st0 = (s, 0)) := Lib.hid (by rw [← HGL.out]; exact go_end _ he)
      obtain ⟨va, vc, hvt, -, -⟩ := own_form HW.out.mem.parts.out
      subst hvt
      clear hp he HGL
      go_wp2_with (first
        | (refine wpList_loadB rfl 25 _ rfl w.heap.size (progC vt' p (.slice xc p.code.length kc)) rfl 25 HW.out.prog _ Tryd.underlying25 rfl prog_info ?_)
        | (go_at_call 23; refine (HDN.out _ _ _ _ _ true HW.out.below HW.out.mem hpc HDD.out).mono ?_; rintro e w4 ⟨rfl, hb⟩; have HW := Lib.hid (HW.out.next hb); clear hb; obtain ⟨-, c21, -, c23⟩ := HW.out.mem.rest))
      go_ret2
      exact ⟨.slice va s.out.length vc, by rw [← HG.out.2, HGE.out]; rfl, by rw [← HG.out.1]; rw [HGE.out]; exact HW.out.mem.parts.stN.out, HW.out.below⟩
    · have hlt := (List.getElem?_eq_some_iff.1 hi).1
      have HDD : Hid (decide (s.pc = p.code.length) = false) := Lib.hid (decide_eq_false (by omega))
      have HFF : Hid (folB s i = true) := Lib.hid ((fol_iff (right_op' (ins_parts hz).1)).1 hd)
      have HI := Lib.hid hi
      have HGE : Hid (goL p fuel st0 = (s, 9)) := Lib.hid (by rw [← HGL.out]; exact go_zero _ he)
      obtain ⟨va, vc, hvt, -, -⟩ := own_form HW.out.mem.parts.out
      subst hvt
      clear hi hd he HGL hz
      go_wp2_with (first
      | (refine wpList_loadB rfl 25 _ rfl w.heap.size (progC vt' p (.slice xc p.code.length kc)) rfl 25 HW.out.prog _ Tryd.underlying25 rfl prog_info ?_)
      | (go_at_call 23; refine (HDN.out _ _ _ _ _ false HW.out.below HW.out.mem hpc HDD.out).mono ?_; rintro e w4 ⟨rfl, hb⟩; have HW := Lib.hid (HW.out.next hb); clear hb)
      | (go_at_call 24; refine (HFO.out _ _ _ _ _ _ _ _ true HW.out.below HW.out.mem HRK.out HI.out HFF.out).mono ?_; rintro e w5 ⟨rfl, hb⟩; have HW := Lib.hid (HW.out.next hb); clear hb; obtain ⟨-, c21, -, c23⟩ := HW.out.mem.rest))
      go_ret2
      exact ⟨.slice va s.out.length vc, by rw [← HG.out.2, HGE.out]; rfl, by rw [← HG.out.1]; rw [HGE.out]; exact HW.out.mem.parts.stN.out, HW.out.below⟩
    · have hlt := (List.getElem?_eq_some_iff.1 hi).1
      have HDD : Hid (decide (s.pc = p.code.length) = false) := Lib.hid (decide_eq_false (by omega))
      have HFF : Hid (folB s i = false) := Lib.hid (by rcases hf : folB s i with _ | _; rfl; rw [(fol_iff (right_op' (ins_parts hz).1)).2 hf] at hd; cases hd)
      have HI := Lib.hid hi
      have HDI := Lib.hid hd
      by_cases hkf : k = fuel
      · have HGE : Hid (goL p fuel st0 = (s, 10)) := Lib.hid (by rw [← HGL.out, hkf, Nat.sub_self]; exact go_fuel he)
        obtain ⟨va, vc, hvt, -, -⟩ := own_form HW.out.mem.parts.out
        subst hvt
        have e25 : ((s.steps : Int) == (fuel : Int)) = true := by simp; omega
        clear hi hd he HGL hz
        go_wp2_with (first
      | (refine wpList_loadB rfl 25 _ rfl w.heap.size (progC vt' p (.slice xc p.code.length kc)) rfl 25 HW.out.prog _ Tryd.underlying25 rfl prog_info ?_)
      | (go_at_call 23; refine (HDN.out _ _ _ _ _ false HW.out.below HW.out.mem hpc HDD.out).mono ?_; rintro e w4 ⟨rfl, hb⟩; have HW := Lib.hid (HW.out.next hb); clear hb)
      | (go_at_call 24; refine (HFO.out _ _ _ _ _ _ _ _ false HW.out.below HW.out.mem HRK.out HI.out HFF.out).mono ?_; rintro e w5 ⟨rfl, hb⟩; have HW := Lib.hid (HW.out.next hb); clear hb; obtain ⟨-, c21, -, c23⟩ := HW.out.mem.rest))
        go_ret2
        exact ⟨.slice va s.out.length vc, by rw [← HG.out.2, HGE.out]; rfl, by rw [← HG.out.1]; rw [HGE.out]; exact HW.out.mem.parts.stN.out, HW.out.below⟩
      · have e25 : ((s.steps : Int) == (fuel : Int)) = false := by simp; omega
        obtain ⟨ts', hrn, -⟩ := run_next HC.out HOK.out.ins (by omega) HRK.out hi hd
        have HRN := Lib.hid hrn
        have HGN : Hid (goL p (fuel - (k + 1)) t = goL p fuel st0) := Lib.hid (by rw [← HGL.out, show fuel - k = (fuel - (k + 1)) + 1 by omega, go_step' _ he])
        clear hi hd he HGL hz hrn
        go_wp2_with (first
      | (refine wpList_loadB rfl 25 _ rfl w.heap.size (progC vt' p (.slice xc p.code.length kc)) rfl 25 HW.out.prog _ Tryd.underlying25 rfl prog_info ?_)
      | (go_at_call 23; refine (HDN.out _ _ _ _ _ false HW.out.below HW.out.mem hpc HDD.out).mono ?_; rintro e w4 ⟨rfl, hb⟩; have HW := Lib.hid (HW.out.next hb); clear hb)
      | (go_at_call 24; refine (HFO.out _ _ _ _ _ _ _ _ false HW.out.below HW.out.mem HRK.out HI.out HFF.out).mono ?_; rintro e w5 ⟨rfl, hb⟩; have HW := Lib.hid (HW.out.next hb); clear hb; obtain ⟨-, c21, -, c23⟩ := HW.out.mem.rest)
      | (go_at_call 25; refine (HDO.out _ _ _ _ _ _ _ _ _ HW.out.below HW.out.mem HRK.out (by omega) HI.out HDI.out).mono ?_; rintro e w6 ⟨rfl, ⟨vo2, vt2, hm6⟩, hb6, hf6⟩; have HW := Lib.hid (HW.out.done hm6 hb6 hf6 hbne); clear hm6 hb6 hf6))
        go_roundg (fuel - (k + 1))
        case measure => omega
        case rel => exact ⟨rfl, k + 1, t, ts', vo2, vt2, by omega, rfl, HRN, HW, HGN⟩
theorem mrun_n (v : Value) (p : PProg) (w : World) (fuel : Int) (h : ProgAt w v p) (hs : OkP p) (ho : HasO w) (hf : fuel ≤ 1000000) : Calls Tryd.prog 15 #[v, .int .i64 fuel] w (RunPost w (runL p fuel).1 (runL p fuel).2) := by
  obtain ⟨vt', vc, rfl, ht, hc⟩ := id h
  obtain ⟨xc, kc, rfl, g1, g2, g3⟩ := id hc
  have hwb : Below w.heap.size w (w.alloc (.cells (progC vt' p (.slice xc p.code.length kc)) 25)) := (Below.refl _ _).alloc (Nat.le_refl _) _
  by_cases hc0 : (checkL p).2 ≠ 0 ∨ fuel < 0
  · unfold runL
    rw [if_pos hc0]
    refine mrun_bad w _ p vt' xc kc (decide ((checkL p).2 = 0)) fuel rfl (Lib.hid hwb) (Lib.hid (blk_new _ _ _)) (Lib.hid fun w1 hb1 => may_n _ p _ w1 (h.below hb1) hs (ho.below hb1) rfl) (hc0.imp (fun e => decide_eq_false e) id)
  · have hc1 : (checkL p).2 = 0 := by omega
    obtain ⟨n, rfl⟩ : ∃ n : Nat, fuel = n := ⟨fuel.toNat, by omega⟩
    unfold runL
    rw [if_neg hc0, Int.toNat_natCast]
    obtain ⟨hh, _, hl, hall, _⟩ := check_ok hc1
    exact mrun_at w _ p vt' xc kc n _ _ rfl (Lib.hid hwb) (Lib.hid (blk_new _ _ _)) (Lib.hid fun w1 hb1 => may_n _ p _ w1 (h.below hb1) hs (ho.below hb1) (decide_eq_true hc1))
      (Lib.hid fun b w1 s vo1 vt1 d hb1 hm1 hp hd => done_n _ p w1 _ b s vo1 vt1 d (h.below hb1) hm1 hp hd)
      (Lib.hid fun b w1 s vo1 vt1 ts k i f hb1 hm1 hr hi hf => follows_n _ p w1 _ b s vo1 vt1 ts i f (h.below hb1) hm1 hr.inv hh (hs.ins i (List.mem_of_getElem? hi)) hi (hall i (List.mem_of_getElem? hi)) hf)
      (Lib.hid fun b w1 s t vo1 vt1 ts k i hb1 hm1 hr hk hi hd => do_n _ p w w1 _ b s t vo1 vt1 ts k i rfl h hs hb1 hm1 hr hc1 hk hi hd)
      (Lib.hid hc1) (Lib.hid hs) (by omega) hl (Lib.hid ⟨rfl, rfl⟩)
end Go.Proofs.YtmnoohpkjgjphaaDoor
