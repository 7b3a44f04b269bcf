/-
  The program's Step: its contract.
-/
import Derived.Test.YtmnoohpkjgjphaaDoorPDoN
import Derived.Test.YtmnoohpkjgjphaaDoorPApt
namespace Go.Proofs.YtmnoohpkjgjphaaDoor
set_option linter.unusedSimpArgs false
set_option linter.unusedVariables false
open Go.RowKit

theorem Parts.mono {w : World} {B B' : Nat} {s : PSt} {vo vt : Value} (h : Parts w B s vo vt) (hb : B' ≤ B) : Parts w B' s vo vt := by
  obtain ⟨rows, gs, hr⟩ := h.objs
  exact ⟨h.len, ⟨rows, gs, ⟨ownsRow_le hr.outer hb, hr.nil, hr.lg, hr.nd, hr.ne, fun j r xs g a b c => ⟨ownsRow_le (hr.row j r xs g a b c).1 hb, (hr.row j r xs g a b c).2⟩⟩⟩, ownsRow_le h.out hb, h.onil⟩
/-- What a step answers. -/
def StepPost (w : World) (r : PSt × Bool × Nat) (e : Ending) (w' : World) : Prop :=
  ∃ vo vt, e = .returned (.tuple #[.agg (stC r.1 vo vt), .bool r.2.1, .int .i64 r.2.2]) ∧ StN w' vo vt r.1 ∧ Below w.heap.size w w'
/-- The sizes that a call asks for. -/
structure SizeOk (s : PSt) : Prop where
  objs : s.objs.length ≤ 1000000
  out : s.out.length ≤ 1000000
  rows : ∀ xs ∈ s.objs, xs.length ≤ 1000000
  pc : s.pc ≤ 1000000
/-- A state that a program was begun with, and what its block is: the world in a step behind apart. -/
structure StW (w wr : World) (vt' vc : Value) (p : PProg) (s : PSt) (vo vt : Value) : Prop where
  below : Below w.heap.size w wr
  prog : blk wr w.heap.size (progC vt' p vc) 25
  mem : Mem wr w.heap.size (w.heap.size + 1) s vo vt
  res : blk wr (w.heap.size + 2) zeroS 34
theorem StW.next {w wr w' : World} {vt' vc : Value} {p : PProg} {s : PSt} {vo vt : Value} (h : StW w wr vt' vc p s vo vt) (hb : Below wr.heap.size wr w') : StW w w' vt' vc p s vo vt :=
  ⟨h.below.trans (hb.mono h.below.size), blk_below h.prog hb, h.mem.below hb, blk_below h.res hb⟩
theorem StW.done {w wr w' : World} {vt' vc : Value} {p : PProg} {s t : PSt} {vo vt vo' vu : Value} (h : StW w wr vt' vc p s vo vt) (hm : Mem w' w.heap.size (w.heap.size + 1) t vo' vu) (hb : Below w.heap.size wr w') (hf : FarB wr w' (w.heap.size + 1)) : StW w w' vt' vc p t vo' vu :=
  ⟨h.below.trans hb, hf _ _ _ h.prog (by omega) (by decide) (by decide), hm, hf _ _ _ h.res (by omega) (by decide) (by decide)⟩
set_option maxRecDepth 100000 in
set_option maxHeartbeats 4000000 in
theorem mstep_at (w W0 : World) (p : PProg) (s : PSt) (vo vt vt' : Value) (xc : Option Addr) (kc : Nat) (r : PSt × Bool × Nat) (m d f : Bool)
    (hW0 : W0 = ((w.alloc (.cells (progC vt' p (.slice xc p.code.length kc)) 25)).alloc (.cells (stC s vo vt) 34)).alloc (.cells zeroS 34))
    (HS : Hid (Below w.heap.size w W0)) (KP : Hid (blk W0 w.heap.size (progC vt' p (.slice xc p.code.length kc)) 25)) (KS : Hid (blk W0 (w.heap.size + 1) (stC s vo vt) 34)) (KZ : Hid (blk W0 (w.heap.size + 2) zeroS 34))
    (HL : Hid (LenS s)) (HAP : Hid (Calls Tryd.prog 21 #[.agg (stC s vo vt)] W0 (AptPost W0 s)))
    (HMA : Hid (∀ w1, Below w.heap.size w w1 → Calls Tryd.prog 22 #[.agg (progC vt' p (.slice xc p.code.length kc))] w1 (AggPost w1 (.bool m))))
    (HDN0 : Hid (m = true → s.pc ≤ p.code.length → ∀ w1 vo1 vt1, Below w.heap.size w w1 → Mem w1 w.heap.size (w.heap.size + 1) s vo1 vt1 → Calls Tryd.prog 23 #[.agg (progC vt' p (.slice xc p.code.length kc)), ptr (w.heap.size + 1)] w1 (AggPost w1 (.bool d))))
    (HFO0 : Hid (m = true → d = false → ∀ w1 vo1 vt1, Below w.heap.size w w1 → Mem w1 w.heap.size (w.heap.size + 1) s vo1 vt1 → Calls Tryd.prog 24 #[.agg (progC vt' p (.slice xc p.code.length kc)), ptr (w.heap.size + 1)] w1 (AggPost w1 (.bool f))))
    (HDO0 : Hid (m = true → d = false → f = false → ∀ w1 vo1 vt1, Below w.heap.size w w1 → Mem w1 w.heap.size (w.heap.size + 1) s vo1 vt1 → Calls Tryd.prog 25 #[.agg (progC vt' p (.slice xc p.code.length kc)), ptr (w.heap.size + 1)] w1 (DoPost w1 w.heap.size (w.heap.size + 1) r.1)))
    (hkc : kc ≤ 9223372036854775807) (hkl : p.code.length ≤ kc) (hpc : s.pc ≤ p.code.length ∨ m = false) (hpb : s.pc ≤ 1000000)
    (hr : if m = false then r = (s, false, 2) else if d = true then r = (s, true, 0) else if f = true then r = (s, false, 9) else r.2 = (false, 0)) :
    Calls Tryd.prog 12 #[.agg (progC vt' p (.slice xc p.code.length kc)), .agg (stC s vo vt)] w (StepPost w r) := by
  go_enter Tryd.func12, Tryd.ntmps12
  go_upto_region 1 with (fail)
  rw [← hW0]
  clear hW0
  go_upto_region 2 with (first
    | (refine wpList_loadB rfl 34 _ rfl (w.heap.size + 1) (stC s vo vt) rfl 34 KS.out _ Tryd.underlying34 rfl (by rw [stC_size HL.out]; exact state_info) ?_)
    | (go_at_call 21; refine HAP.out.mono ?_; rintro e w1 ⟨vo1, vt1, rfl, hp1, hb1⟩
       have HP1 := Lib.hid hp1
       have KS1 := Lib.hid (blk_below KS.out hb1)
       have KP1 := Lib.hid (blk_below KP.out hb1)
       have KZ1 := Lib.hid (blk_below KZ.out hb1)
       have HB1 := Lib.hid (HS.out.trans (hb1.mono HS.out.size))
       have hsz := HS.out.size
       clear hp1 hb1)
    | (refine wpList_putB rfl 34 _ _ rfl (w.heap.size + 1) (stC s vo1 vt1) rfl rfl 34 _ KS1.out (by rw [stC_size HL.out]; exact state_info) (by rw [stC_size HL.out, stC_size HL.out]) (stC_one s (own_oneCell (HP1.out.objs).choose_spec.choose_spec.outer) (own_oneCell HP1.out.out)) ?_))
  have HW2 : Hid (StW w (putB w1 (w.heap.size + 1) (stC s vo1 vt1) 34) vt' (.slice xc p.code.length kc) p s vo1 vt1) := Lib.hid
    ⟨HB1.out.trans (putB_below _ (by omega) _ _), by unfold blk; rw [putB_ne _ (by omega)]; exact KP1.out, ⟨putB_at KS1.out _ _, by omega, (HP1.out.mono hsz).putS KS1.out _ _ HL.out rfl rfl⟩, by unfold blk; rw [putB_ne _ (by omega)]; exact KZ1.out⟩
  clear HP1 KS1 KP1 KZ1 HB1 HAP KP KS KZ HS
  obtain ⟨w2, hw2⟩ : ∃ w2, w2 = putB w1 (w.heap.size + 1) (stC s vo1 vt1) 34 := ⟨_, rfl⟩
  rw [← hw2] at HW2 ⊢
  clear hw2
  have HW := HW2
  clear HW2
  rcases m with _ | _
  · rw [if_pos rfl] at hr
    subst hr
    go_wp2_with (first
      | (refine wpList_loadB rfl 25 _ rfl w.heap.size (progC vt' p (.slice xc p.code.length kc)) rfl 25 HW.out.prog _ Tryd.underlying25 rfl prog_info ?_)
      | (refine wpList_loadB rfl 34 _ rfl (w.heap.size + 1) (stC s vo1 vt1) rfl 34 HW.out.mem.blk _ Tryd.underlying34 rfl (by rw [stC_size HW.out.mem.parts.len]; exact state_info) ?_)
      | (refine wpList_putB rfl 34 _ _ rfl (w.heap.size + 2) (stC s vo1 vt1) rfl rfl 34 _ HW.out.res (by rw [stC_size HW.out.mem.parts.len]; exact state_info) (by rw [stC_size HW.out.mem.parts.len]; rfl) (stC_one s (own_oneCell (HW.out.mem.parts.objs).choose_spec.choose_spec.outer) (own_oneCell HW.out.mem.parts.out)) ?_)
      | (go_at_call 22; refine (HMA.out _ HW.out.below).mono ?_; rintro e w3 ⟨rfl, hb⟩; clear HMA; have HW := Lib.hid (HW.out.next hb); clear hb; obtain ⟨-, -, c22, -⟩ := HW.out.mem.rest; have c3 : w3.cell? ⟨w.heap.size, 3, none⟩ = some (.slice xc p.code.length kc) := blk_cell HW.out.prog 3 _ rfl))
    refine bodyPost_ret (v := .tuple #[.agg (stC s vo1 vt1), .bool false, .int .i64 2]) ?_ rfl ⟨vo1, vt1, rfl, (HW.out.mem.parts.putS (t := s) HW.out.res _ _ HW.out.mem.parts.len rfl rfl).stN, HW.out.below.trans (putB_below _ (by omega) _ _)⟩
    rw [res_cell2 (p := 4) (u := 5) (v := 6) rfl _ _ (w.heap.size + 2) (stC s vo1 vt1) 34 _ rfl (putB_at HW.out.res _ _) Tryd.underlying34 rfl (by rw [stC_size HW.out.mem.parts.len]; exact state_info)]; rfl
  have hpc := hpc.resolve_right (by decide)
  rw [if_neg (by decide)] at hr
  have HDN := Lib.hid (HDN0.out rfl hpc)
  have HFO1 := Lib.hid (HFO0.out rfl)
  have HDO1 := Lib.hid (HDO0.out rfl)
  clear HDN0 HFO0 HDO0
  have e23 : ¬ ((p.code.length : Int) < (s.pc : Int)) := by omega
  rcases d with _ | _
  rotate_left
  · rw [if_pos rfl] at hr
    subst hr
    go_wp2_with (first
      | (refine wpList_loadB rfl 25 _ rfl w.heap.size (progC vt' p (.slice xc p.code.length kc)) rfl 25 HW.out.prog _ Tryd.underlying25 rfl prog_info ?_)
      | (refine wpList_loadB rfl 34 _ rfl (w.heap.size + 1) (stC s vo1 vt1) rfl 34 HW.out.mem.blk _ Tryd.underlying34 rfl (by rw [stC_size HW.out.mem.parts.len]; exact state_info) ?_)
      | (refine wpList_putB rfl 34 _ _ rfl (w.heap.size + 2) (stC s vo1 vt1) rfl rfl 34 _ HW.out.res (by rw [stC_size HW.out.mem.parts.len]; exact state_info) (by rw [stC_size HW.out.mem.parts.len]; rfl) (stC_one s (own_oneCell (HW.out.mem.parts.objs).choose_spec.choose_spec.outer) (own_oneCell HW.out.mem.parts.out)) ?_)
      | (go_at_call 22; refine (HMA.out _ HW.out.below).mono ?_; rintro e w3 ⟨rfl, hb⟩; clear HMA; have HW := Lib.hid (HW.out.next hb); clear hb; obtain ⟨-, -, c22, -⟩ := HW.out.mem.rest; have c3 : w3.cell? ⟨w.heap.size, 3, none⟩ = some (.slice xc p.code.length kc) := blk_cell HW.out.prog 3 _ rfl)
      | (go_at_call 23; refine (HDN.out _ _ _ HW.out.below HW.out.mem).mono ?_; rintro e w4 ⟨rfl, hb⟩; clear HDN c22 c3; have HW := Lib.hid (HW.out.next hb); clear hb))
    refine bodyPost_ret (v := .tuple #[.agg (stC s vo1 vt1), .bool true, .int .i64 0]) ?_ rfl ⟨vo1, vt1, rfl, (HW.out.mem.parts.putS (t := s) HW.out.res _ _ HW.out.mem.parts.len rfl rfl).stN, HW.out.below.trans (putB_below _ (by omega) _ _)⟩
    rw [res_cell2 (p := 4) (u := 5) (v := 6) rfl _ _ (w.heap.size + 2) (stC s vo1 vt1) 34 _ rfl (putB_at HW.out.res _ _) Tryd.underlying34 rfl (by rw [stC_size HW.out.mem.parts.len]; exact state_info)]; rfl
  rw [if_neg (by decide)] at hr
  have HFO := Lib.hid (HFO1.out rfl)
  have HDO2 := Lib.hid (HDO1.out rfl)
  clear HFO1 HDO1
  rcases f with _ | _
  rotate_left
  · rw [if_pos rfl] at hr
    subst hr
    go_wp2_with (first
      | (refine wpList_loadB rfl 25 _ rfl w.heap.size (progC vt' p (.slice xc p.code.length kc)) rfl 25 HW.out.prog _ Tryd.underlying25 rfl prog_info ?_)
      | (refine wpList_loadB rfl 34 _ rfl (w.heap.size + 1) (stC s vo1 vt1) rfl 34 HW.out.mem.blk _ Tryd.underlying34 rfl (by rw [stC_size HW.out.mem.parts.len]; exact state_info) ?_)
      | (refine wpList_putB rfl 34 _ _ rfl (w.heap.size + 2) (stC s vo1 vt1) rfl rfl 34 _ HW.out.res (by rw [stC_size HW.out.mem.parts.len]; exact state_info) (by rw [stC_size HW.out.mem.parts.len]; rfl) (stC_one s (own_oneCell (HW.out.mem.parts.objs).choose_spec.choose_spec.outer) (own_oneCell HW.out.mem.parts.out)) ?_)
      | (go_at_call 22; refine (HMA.out _ HW.out.below).mono ?_; rintro e w3 ⟨rfl, hb⟩; clear HMA; have HW := Lib.hid (HW.out.next hb); clear hb; obtain ⟨-, -, c22, -⟩ := HW.out.mem.rest; have c3 : w3.cell? ⟨w.heap.size, 3, none⟩ = some (.slice xc p.code.length kc) := blk_cell HW.out.prog 3 _ rfl)
      | (go_at_call 23; refine (HDN.out _ _ _ HW.out.below HW.out.mem).mono ?_; rintro e w4 ⟨rfl, hb⟩; clear HDN c22 c3; have HW := Lib.hid (HW.out.next hb); clear hb)
      | (go_at_call 24; refine (HFO.out _ _ _ HW.out.below HW.out.mem).mono ?_; rintro e w5 ⟨rfl, hb⟩; clear HFO; have HW := Lib.hid (HW.out.next hb); clear hb))
    refine bodyPost_ret (v := .tuple #[.agg (stC s vo1 vt1), .bool false, .int .i64 9]) ?_ rfl ⟨vo1, vt1, rfl, (HW.out.mem.parts.putS (t := s) HW.out.res _ _ HW.out.mem.parts.len rfl rfl).stN, HW.out.below.trans (putB_below _ (by omega) _ _)⟩
    rw [res_cell2 (p := 4) (u := 5) (v := 6) rfl _ _ (w.heap.size + 2) (stC s vo1 vt1) 34 _ rfl (putB_at HW.out.res _ _) Tryd.underlying34 rfl (by rw [stC_size HW.out.mem.parts.len]; exact state_info)]; rfl
  rw [if_neg (by decide)] at hr
  have HDO := Lib.hid (HDO2.out rfl)
  clear HDO2
  obtain ⟨t, r2⟩ := r
  simp only at hr
  subst hr
  go_wp2_with (first
      | (refine wpList_loadB rfl 25 _ rfl w.heap.size (progC vt' p (.slice xc p.code.length kc)) rfl 25 HW.out.prog _ Tryd.underlying25 rfl prog_info ?_)
      | (refine wpList_loadB rfl 34 _ rfl (w.heap.size + 1) (stC s vo1 vt1) rfl 34 HW.out.mem.blk _ Tryd.underlying34 rfl (by rw [stC_size HW.out.mem.parts.len]; exact state_info) ?_)
      | (refine wpList_loadB rfl 34 _ rfl (w.heap.size + 1) (stC t vo2 vt2) rfl 34 HW.out.mem.blk _ Tryd.underlying34 rfl (by rw [stC_size HW.out.mem.parts.len]; exact state_info) ?_)
      | (refine wpList_putB rfl 34 _ _ rfl (w.heap.size + 2) (stC t vo2 vt2) rfl rfl 34 _ HW.out.res (by rw [stC_size HW.out.mem.parts.len]; exact state_info) (by rw [stC_size HW.out.mem.parts.len]; rfl) (stC_one t (own_oneCell (HW.out.mem.parts.objs).choose_spec.choose_spec.outer) (own_oneCell HW.out.mem.parts.out)) ?_)
      | (go_at_call 22; refine (HMA.out _ HW.out.below).mono ?_; rintro e w3 ⟨rfl, hb⟩; clear HMA; have HW := Lib.hid (HW.out.next hb); clear hb; obtain ⟨-, -, c22, -⟩ := HW.out.mem.rest; have c3 : w3.cell? ⟨w.heap.size, 3, none⟩ = some (.slice xc p.code.length kc) := blk_cell HW.out.prog 3 _ rfl)
      | (go_at_call 23; refine (HDN.out _ _ _ HW.out.below HW.out.mem).mono ?_; rintro e w4 ⟨rfl, hb⟩; clear HDN c22 c3; have HW := Lib.hid (HW.out.next hb); clear hb)
      | (go_at_call 24; refine (HFO.out _ _ _ HW.out.below HW.out.mem).mono ?_; rintro e w5 ⟨rfl, hb⟩; clear HFO; have HW := Lib.hid (HW.out.next hb); clear hb)
      | (go_at_call 25; refine (HDO.out _ _ _ HW.out.below HW.out.mem).mono ?_; rintro e w6 ⟨rfl, ⟨vo2, vt2, hm6⟩, hb6, hf6⟩; clear HDO; have HW := Lib.hid (HW.out.done hm6 hb6 hf6); clear hm6 hb6 hf6))
  refine bodyPost_ret (v := .tuple #[.agg (stC t vo2 vt2), .bool false, .int .i64 0]) ?_ rfl ⟨vo2, vt2, rfl, (HW.out.mem.parts.putS (t := t) HW.out.res _ _ HW.out.mem.parts.len rfl rfl).stN, HW.out.below.trans (putB_below _ (by omega) _ _)⟩
  rw [res_cell2 (p := 4) (u := 5) (v := 6) rfl _ _ (w.heap.size + 2) (stC t vo2 vt2) 34 _ rfl (putB_at HW.out.res _ _) Tryd.underlying34 rfl (by rw [stC_size HW.out.mem.parts.len]; exact state_info)]; rfl
theorem mstep_n (v : Value) (p : PProg) (w : World) (s : PSt) (vo vt : Value) (ts : List Nat) (k : Nat) (h : ProgAt w v p) (hs : OkP p) (ho : HasO w) (hst : StN w vo vt s) (hz : SizeOk s) (hk : k ≤ 1000000) (hrun : (checkL p).2 = 0 → RunOk p s ts k) :
    Calls Tryd.prog 12 #[v, .agg (stC s vo vt)] w (StepPost w (stepL p s)) := by
  obtain ⟨vt', vc, rfl, ht, hc⟩ := id h
  obtain ⟨xc, kc, rfl, g1, g2, g3⟩ := id hc
  have hwb : Below w.heap.size w (((w.alloc (.cells (progC vt' p (.slice xc p.code.length kc)) 25)).alloc (.cells (stC s vo vt) 34)).alloc (.cells zeroS 34)) := (((Below.refl _ _).alloc (Nat.le_refl _) _).alloc (by simp) _).alloc (by simp; omega) _
  have s1 : (w.alloc (.cells (progC vt' p (.slice xc p.code.length kc)) 25)).heap.size = w.heap.size + 1 := World.size_alloc _ _
  have s2 : ((w.alloc (.cells (progC vt' p (.slice xc p.code.length kc)) 25)).alloc (.cells (stC s vo vt) 34)).heap.size = w.heap.size + 2 := by rw [World.size_alloc, s1]
  have k1 := blk_new w (progC vt' p (.slice xc p.code.length kc)) 25
  have k2 := blk_new (w.alloc (.cells (progC vt' p (.slice xc p.code.length kc)) 25)) (stC s vo vt) 34
  have k3 := blk_new ((w.alloc (.cells (progC vt' p (.slice xc p.code.length kc)) 25)).alloc (.cells (stC s vo vt) 34)) zeroS 34
  rw [s1] at k2
  rw [s2] at k3
  unfold maxLen at g2
  have hin : ∀ i, p.code[s.pc]? = some i → (checkL p).2 = 0 → insE p p.code.length i = 0 := fun i hi hc0 => (check_ok hc0).2.2.2.1 i (List.mem_of_getElem? hi)
  have hfol : ∀ i, p.code[s.pc]? = some i → (checkL p).2 = 0 → (doI p (onI s) i = none ↔ folB s i = true) := fun i hi hc0 => fol_iff (right_op' (ins_parts (hin i hi hc0)).1)
  refine mstep_at w _ p s vo vt vt' xc kc (stepL p s) (decide ((checkL p).2 = 0)) (decide (s.pc = p.code.length)) (match p.code[s.pc]? with | some i => folB s i | none => false) rfl (Lib.hid hwb) (Lib.hid (blk_alloc (blk_alloc k1 _) _)) (Lib.hid (blk_alloc k2 _)) (Lib.hid k3) (Lib.hid hst.len)
    (Lib.hid (apart_n _ s vo vt (hst.below hwb) hz.objs hz.out hz.rows)) (Lib.hid fun w1 hb1 => may_n _ p _ w1 (h.below hb1) hs (ho.below hb1) rfl) (Lib.hid fun _ _ w1 vo1 vt1 hb1 hm1 => done_n _ p w1 _ _ s vo1 vt1 _ (h.below hb1) hm1 hz.pc rfl)
    (Lib.hid fun hm hd w1 vo1 vt1 hb1 hm1 => ?_) (Lib.hid fun hm hd hf w1 vo1 vt1 hb1 hm1 => ?_) (by omega) g1 ?_ hz.pc ?_
  · have hc0 : (checkL p).2 = 0 := by simpa using hm
    have hr := hrun hc0
    have hne : s.pc ≠ p.code.length := by simpa using hd
    have hlt : s.pc < p.code.length := by have := hr.pc; omega
    have hi : p.code[s.pc]? = some (p.code[s.pc]'hlt) := List.getElem?_eq_getElem hlt
    rw [hi]
    exact follows_n _ p w1 _ _ s vo1 vt1 ts _ _ (h.below hb1) hm1 hr.inv (check_ok hc0).1 (hs.ins _ (List.mem_of_getElem? hi)) hi (hin _ hi hc0) rfl
  · have hc0 : (checkL p).2 = 0 := by simpa using hm
    have hr := hrun hc0
    have hne : s.pc ≠ p.code.length := by simpa using hd
    have hlt : s.pc < p.code.length := by have := hr.pc; omega
    have hi : p.code[s.pc]? = some (p.code[s.pc]'hlt) := List.getElem?_eq_getElem hlt
    rw [hi] at hf
    rcases hdo : doI p (onI s) (p.code[s.pc]'hlt) with _ | t
    · have := (hfol _ hi hc0).1 hdo
      simp only at hf
      rw [hf] at this; cases this
    · have e : stepL p s = (t, false, 0) := by rw [step_at hc0 hi, hdo]
      rw [e]
      exact do_n _ p w w1 _ _ s t vo1 vt1 ts k _ rfl h hs hb1 hm1 hr hc0 hk hi hdo
  · by_cases hc0 : (checkL p).2 = 0
    · exact .inl (hrun hc0).pc
    · exact .inr (decide_eq_false hc0)
  · by_cases hc0 : (checkL p).2 = 0
    · have hr := hrun hc0
      rw [if_neg (by rw [decide_eq_true hc0]; simp)]
      by_cases hp : s.pc = p.code.length
      · rw [if_pos (decide_eq_true hp)]; exact step_end hc0 hp
      · rw [if_neg (by rw [decide_eq_false hp]; simp)]
        have hlt : s.pc < p.code.length := by have := hr.pc; omega
        have hi : p.code[s.pc]? = some (p.code[s.pc]'hlt) := List.getElem?_eq_getElem hlt
        rw [hi]
        simp only
        rcases hdo : doI p (onI s) (p.code[s.pc]'hlt) with _ | t
        · rw [if_pos ((hfol _ hi hc0).1 hdo), step_at hc0 hi, hdo]
        · rw [if_neg (fun e => by rw [(hfol _ hi hc0).2 e] at hdo; cases hdo), step_at hc0 hi, hdo]
    · rw [if_pos (decide_eq_false hc0)]; exact step_bad hc0
end Go.Proofs.YtmnoohpkjgjphaaDoor
