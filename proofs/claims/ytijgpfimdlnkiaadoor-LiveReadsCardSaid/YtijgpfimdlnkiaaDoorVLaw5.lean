/-
  LiveReads: the walk.
-/
import Derived.Test.YtijgpfimdlnkiaaDoorVPA
import Derived.Deep.LoopGhost
import Derived.Test.YtijgpfimdlnkiaaDoorVRun
import Derived.Test.YtijgpfimdlnkiaaDoorVPure5
import Derived.Deep.RegionHeld3
import Derived.Deep.CutRange
import Derived.Deep.QuietTactic
namespace Go.Proofs.YtijgpfimdlnkiaaDoor
set_option linter.unusedSimpArgs false
set_option linter.unusedVariables false
open Go.RowKit

/-- The world between two steps: the program's block, the junk's, the state's. -/
structure LrW (w wr : World) (bs : Nat) (l8 : List Nat) (C : Array Value) (s : PSt) (vo vt : Value) : Prop where
  below : Below w.heap.size w wr
  prog : blk wr w.heap.size C 25
  junk : blk wr (w.heap.size + 1) (u8Arr l8) 47
  ks : blk wr bs (stC s vo vt) 42
  a1 : StN wr vo vt s
  h0 : w.heap.size + 1 < bs
section
variable {w wr w' : World} {bs g : Nat} {l8 : List Nat} {C D : Array Value} {s u : PSt} {vo vt vo3 vt3 : Value} {t : TypeId}
theorem LrW.next (h : LrW w wr bs l8 C s vo vt) (hb : Below wr.heap.size wr w') : LrW w w' bs l8 C s vo vt :=
  ⟨h.below.trans (hb.mono h.below.size), blk_below h.prog hb, blk_below h.junk hb, blk_below h.ks hb, h.a1.below hb, h.h0⟩
theorem LrW.putS (h : LrW w wr bs l8 C s vo vt) (hu : StN wr vo3 vt3 u) : LrW w (putB wr bs (stC u vo3 vt3) 42) bs l8 C u vo3 vt3 := by
  have h0 := h.h0
  exact ⟨h.below.trans (putB_below _ (by omega) _ _), by unfold blk; rw [putB_ne _ (by omega)]; exact h.prog, by unfold blk; rw [putB_ne _ (by omega)]; exact h.junk, putB_at h.ks _ _, hu.putT h.ks (by decide), h0⟩
/-- A block behind the state's is put anew. -/
theorem LrW.put (h : LrW w wr bs l8 C s vo vt) (hg : bs < g) {E : Array Value} {t' : TypeId} (hk : blk wr g E t') (ht : t' ≠ 2 ∧ t' ≠ 40) : LrW w (putB wr g D t) bs l8 C s vo vt := by
  have h0 := h.h0
  exact ⟨h.below.trans (putB_below _ (by omega) _ _), by unfold blk; rw [putB_ne _ (by omega)]; exact h.prog, by unfold blk; rw [putB_ne _ (by omega)]; exact h.junk, by unfold blk; rw [putB_ne _ (by omega)]; exact h.ks, h.a1.putT hk ht, h0⟩
end
set_option maxRecDepth 100000 in
set_option maxHeartbeats 8000000 in
theorem lreads_at (w W0 : World) (p : PProg) (a : Nat) (l8 : List Nat) (x x' : Option Addr) (kx kx' : Nat)
    (hW0 : W0 = (w.alloc (.cells (progC (.slice x p.types.length kx) p (.slice x' p.code.length kx')) 25)).alloc (.cells (u8Arr l8) 47)) (KJ : Hid (blk W0 (w.heap.size + 1) (u8Arr l8) 47)) (hl8 : l8.length = 8) (hlb : ∀ k, l8.getD k 0 < 256) (KP : Hid (Keep W0 w.heap.size (.slice x p.types.length kx) (.slice x' p.code.length kx') p)) (HB : Hid (Below w.heap.size w W0))
    (HAL : Hid (∀ w1, Calls Tryd.prog 9 #[] w1 (AggPost w1 (.bool true))))
    (HSO : Hid (∀ w1, ProgAt w1 (.agg (progC (.slice x p.types.length kx) p (.slice x' p.code.length kx'))) p → Below w.heap.size w w1 → Calls Tryd.prog 14 #[.agg (progC (.slice x p.types.length kx) p (.slice x' p.code.length kx'))] w1 (AggPost w1 (.bool (soundB p)))))
    (g2 : kx' ≤ 9223372036854775807) (g1 : p.code.length ≤ kx')
    (ha : a ≤ 255) (HOK : Hid (OkP p)) (HCO : Hid (∀ m i, p.code[m]? = some i → ∃ bb o, x' = some ⟨bb, o, none⟩ ∧ bb < w.heap.size ∧ w.rangeAt bb (o + m * 5) (insC i).toList))
    (HUP : Hid (∀ i, OkI i → ∀ w1, Calls Tryd.prog 10 #[.agg (insC i)] w1 (AggPost w1 (.int .u8 ((usesN i : Nat) : Int))))) (HSP : Hid (∀ i, OkI i → ∀ w1, Calls Tryd.prog 12 #[.agg (insC i)] w1 (AggPost w1 (.int .u8 ((setsN i : Nat) : Int)))))
    (HST : Hid (soundB p = true → ∀ w1 s vo vt, Below w.heap.size w w1 → StN w1 vo vt s → SizeOk s → UseOk p s → Calls Tryd.prog 18 #[.agg (progC (.slice x p.types.length kx) p (.slice x' p.code.length kx')), .agg (stC s vo vt)] w1 (StepPost w1 (stepL p s))))
    (HNU : Hid (∀ w1 va vb l, RowAt w1 va (i64s l) → RowAt w1 vb (i64s l) → Calls Tryd.prog 19 #[va, vb] w1 (AggPost w1 (.bool true)))) :
    Calls Tryd.prog 6 #[.agg (progC (.slice x p.types.length kx) p (.slice x' p.code.length kx')), .int .u8 a, .agg (u8Arr l8)] w (AggPost w (.bool true)) := by
  go_enter Tryd.func6, Tryd.ntmps6
  go_upto_region 1 with (fail)
  rw [← hW0]
  clear hW0
  rcases hsd : soundB p with _ | _
  · rw [hsd] at HSO
    go_wp2_with (first
      | (refine wpList_loadB rfl 25 _ rfl w.heap.size (progC (.slice x p.types.length kx) p (.slice x' p.code.length kx')) rfl 25 KP.out.blk _ Tryd.underlying25 rfl prog_info ?_)
      | (go_at_call 9; ((with_reducible refine (HAL.out _).mono ?_); rintro e w1 ⟨rfl, hb⟩; have KP := Lib.hid (KP.out.below hb); have HB := Lib.hid (HB.out.trans (hb.mono HB.out.size)); clear hb))
      | (go_at_call 14; ((with_reducible refine (HSO.out _ KP.out.at' HB.out).mono ?_); rintro e w2 ⟨rfl, hb⟩; have KP := Lib.hid (KP.out.below hb); have HB := Lib.hid (HB.out.trans (hb.mono HB.out.size)); clear hb)))
    go_ret
    exact ⟨rfl, HB.out⟩
  have HST := Lib.hid (HST.out hsd)
  obtain ⟨hfw, hl60, hck, hin0, hl1⟩ := sound_parts hsd
  have HIN := Lib.hid hin0
  have HCK := Lib.hid hck
  rw [hsd] at HSO
  clear hin0 hck hsd
  go_upto_region 3 with (first
    | (refine wpList_loadB rfl 25 _ rfl w.heap.size (progC (.slice x p.types.length kx) p (.slice x' p.code.length kx')) rfl 25 KP.out.blk _ Tryd.underlying25 rfl prog_info ?_)
    | (go_at_call 9; ((with_reducible refine (HAL.out _).mono ?_); rintro e w1 ⟨rfl, hb⟩; have KJ := Lib.hid (blk_below KJ.out hb); have KP := Lib.hid (KP.out.below hb); have HB := Lib.hid (HB.out.trans (hb.mono HB.out.size)); clear hb))
    | (go_at_call 14; ((with_reducible refine (HSO.out _ KP.out.at' HB.out).mono ?_); rintro e w2 ⟨rfl, hb⟩; have KJ := Lib.hid (blk_below KJ.out hb); have KP := Lib.hid (KP.out.below hb); have HB := Lib.hid (HB.out.trans (hb.mono HB.out.size)); clear hb)))
  clear HSO HAL
  go_upto_region 4 with (fail)
  have hb1 : Below w1.heap.size w1 (w1.alloc (.cells zeroS 42)) := (Below.refl _ _).alloc (Nat.le_refl _) _
  have HW0 : Hid (LrW w (w1.alloc (.cells zeroS 42)) w1.heap.size l8 (progC (.slice x p.types.length kx) p (.slice x' p.code.length kx')) st0 (.slice none 0 0) (.slice none 0 0)) := Lib.hid ⟨HB.out.trans (hb1.mono HB.out.size), blk_below KP.out.blk hb1, blk_below KJ.out hb1, blk_new w1 zeroS 42, st0_n _, blk_lt KJ.out⟩
  generalize w1.alloc (.cells zeroS 42) = wb at HW0 ⊢
  generalize w1.heap.size = bs at HW0 ⊢
  have HR0 := Lib.hid (run_0 p)
  clear hb1 KP KJ HB
  go_wp2_with (fail)
  go_loopw [30] (fun v30 wr => ∃ (n : Nat) (s : PSt) (ts : List Nat) (vo vt : Value), n ≤ a ∧ v30 = .int .i64 n ∧ Hid (LrW w wr bs l8 (progC (.slice x p.types.length kx) p (.slice x' p.code.length kx')) s vo vt) ∧ Hid (RunOk p s ts n)) (fun v30 _ => a - (intOf v30).toNat)
  case atStart => exact ⟨0, st0, [], _, _, Nat.zero_le _, rfl, HW0, HR0⟩
  case round =>
    clear HW0 HR0
    obtain ⟨n, s, ts, vo, vt, hn, rfl, HW, HR⟩ := hrel
    by_cases hna : n < a
    · have hni : (n : Int) < (a : Int) := by omega
      have p3 : wr.cell? ⟨w.heap.size, 3, none⟩ = some (.slice x' p.code.length kx') := blk_cell HW.out.prog 3 _ rfl
      have c22 : wr.cell? ⟨bs, 22, none⟩ = some (.int .i64 (s.pc : Int)) := blk_cell HW.out.ks _ _ (stC_rest (vo := vo) (vt := vt) HW.out.a1.len).2.2.1
      by_cases hpl : p.code.length ≤ s.pc
      · have hpi : (p.code.length : Int) ≤ (s.pc : Int) := by omega
        go_wp2
        go_ret
        exact ⟨rfl, HW.out.below⟩
      have hpi : ¬ ((p.code.length : Int) ≤ (s.pc : Int)) := by omega
      have hpj : (s.pc : Int) < (p.code.length : Int) := by omega
      have hp0 : (0 : Int) ≤ (s.pc : Int) := by omega
      obtain ⟨i, hi⟩ : ∃ i, p.code[s.pc]? = some i := ⟨_, List.getElem?_eq_getElem (by omega)⟩
      obtain ⟨bb, o, rfl, hbb, hrg⟩ := HCO.out s.pc i hi
      have hoki := HOK.out.ins i (List.mem_of_getElem? hi)
      have hrg := rangeAt_below hrg hbb HW.out.below
      have HII := Lib.hid hi
      have HUS := Lib.hid (HUP.out i hoki)
      have HSE := Lib.hid (HSP.out i hoki)
      obtain ⟨op, ia, ib, ic, iN⟩ := i
      obtain ⟨d0, d1, d2, d3, d4⟩ : (wr.cell? ⟨bb, o + s.pc * 5, none⟩ = some (.int .u8 op)) ∧ wr.cell? ⟨bb, o + s.pc * 5 + 1, none⟩ = some (.int .u8 ia) ∧ wr.cell? ⟨bb, o + s.pc * 5 + 2, none⟩ = some (.int .u8 ib) ∧ wr.cell? ⟨bb, o + s.pc * 5 + 3, none⟩ = some (.int .u8 ic) ∧ wr.cell? ⟨bb, o + s.pc * 5 + 4, none⟩ = some (.int .i64 iN) := ⟨hrg 0 _ rfl, hrg 1 _ rfl, hrg 2 _ rfl, hrg 3 _ rfl, hrg 4 _ rfl⟩
      clear hrg hoki hi
      go_upto_region 9 with (fail)
      have hbI : bs < wr.heap.size := blk_lt HW.out.ks
      have hab : Below wr.heap.size wr (wr.alloc (.cells (insC ⟨op, ia, ib, ic, iN⟩) 27)) := (Below.refl _ _).alloc (Nat.le_refl _) _
      have HW := Lib.hid (HW.out.next hab)
      have KI : Hid (blk (wr.alloc (.cells (insC ⟨op, ia, ib, ic, iN⟩) 27)) wr.heap.size (insC ⟨op, ia, ib, ic, iN⟩) 27) := Lib.hid (blk_new _ _ _)
      obtain ⟨I, hI⟩ : ∃ I, I = wr.heap.size := ⟨_, rfl⟩
      obtain ⟨wi, hwi⟩ : ∃ wi, wi = (wr.alloc (.cells (insC ⟨op, ia, ib, ic, iN⟩) 27)) := ⟨_, rfl⟩
      rw [← hwi] at HW KI ⊢
      rw [← hI] at KI hbI ⊢
      clear hab hwi hI p3 c22 d0 d1 d2 d3 d4
      have hTb : Below wi.heap.size wi (putB (wi.alloc (.cells zeroS 42)) wi.heap.size (stC s vo vt) 42) := ((Below.refl _ _).alloc (Nat.le_refl _) _).trans (putB_below _ (Nat.le_refl _) _ _)
      have HTB := Lib.hid hTb
      obtain ⟨wt, hwt⟩ : ∃ wt, wt = (putB (wi.alloc (.cells zeroS 42)) wi.heap.size (stC s vo vt) 42) := ⟨_, rfl⟩
      have HWT := Lib.hid hwt.symm
      obtain ⟨T, hT⟩ : ∃ T, T = wi.heap.size := ⟨_, rfl⟩
      have HW2 := Lib.hid (HW.out.next hTb)
      have KI2 := Lib.hid (blk_below KI.out hTb)
      have KT2 : Hid (blk (putB (wi.alloc (.cells zeroS 42)) wi.heap.size (stC s vo vt) 42) wi.heap.size (stC s vo vt) 42) := Lib.hid (putB_at (blk_new wi zeroS 42) (stC s vo vt) 42)
      have hIT : I < T := by rw [hT]; exact blk_lt KI.out
      rw [← hwt] at HW2 KI2 KT2
      rw [← hT] at KT2
      have HTT := Lib.hid hT.symm
      clear hTb HTB hwt hT
      go_wp2_with (first
        | (refine wpList_loadB rfl 42 _ rfl bs (stC s vo vt) rfl 42 HW.out.ks _ Tryd.underlying42 rfl (rstate_size HW.out.a1.len) ?_)
        | (refine wpList_putB rfl 42 _ _ rfl wi.heap.size (stC s vo vt) rfl rfl 42 zeroS (blk_new wi zeroS 42) (rstate_size HW.out.a1.len) (by rw [stC_size HW.out.a1.len]; rfl) HW.out.a1.one ?_; rw [HWT.out])
        | (refine wpList_ldP rfl _ rfl rfl HW2.out.ks HW2.out.a1.len ?_)
        | (refine wpList_putB rfl 37 _ _ rfl wt.heap.size (xC s.p) rfl rfl 37 zero8 (blk_new wt zero8 37) (by rw [xC_size, HW2.out.a1.len.p]; exact infoP) (by rw [xC_size, HW2.out.a1.len.p]; rfl) (xC_one s.p) ?_))
      have hQb : Below wt.heap.size wt (putB (wt.alloc (.cells zero8 37)) wt.heap.size (xC s.p) 37) := ((Below.refl _ _).alloc (Nat.le_refl _) _).trans (putB_below _ (Nat.le_refl _) _ _)
      have HW3 := Lib.hid (HW2.out.next hQb)
      have KI3 := Lib.hid (blk_below KI2.out hQb)
      have KT3 := Lib.hid (blk_below KT2.out hQb)
      have KQ3 : Hid (blk (putB (wt.alloc (.cells zero8 37)) wt.heap.size (xC s.p) 37) wt.heap.size (xC s.p) 37) := Lib.hid (putB_at (blk_new wt zero8 37) (xC s.p) 37)
      have hTQ : T < wt.heap.size := blk_lt KT2.out
      generalize (putB (wt.alloc (.cells zero8 37)) wt.heap.size (xC s.p) 37) = wq at HW3 KI3 KT3 KQ3 ⊢
      generalize wt.heap.size = Q at KQ3 hTQ ⊢
      rw [HTT.out]
      clear hQb HW HW2 KI KI2 KT2 HWT HTT
      have hlp := HW3.out.a1.len.p
      obtain ⟨uN, hu⟩ : ∃ uN, uN = usesN ⟨op, ia, ib, ic, iN⟩ := ⟨_, rfl⟩
      have HUE := Lib.hid hu
      rw [← hu] at HUS
      have KQ4 : Hid (blk wq Q (xC (junkTo uN l8 s.objs.length 0 s.p)) 37) := Lib.hid (by rw [junk_0]; exact KQ3.out)
      obtain ⟨ao, co, hvo, -⟩ := HW3.out.a1.objs.form
      subst hvo
      clear hu KQ3
      go_loopw [47] (fun v47 wx => ∃ k : Nat, k ≤ 8 ∧ v47 = .int .i64 k ∧ Hid (LrW w wx bs l8 (progC (.slice x p.types.length kx) p (.slice (some ⟨bb, o, none⟩) p.code.length kx')) s (.slice ao s.objs.length co) vt) ∧ Hid (blk wx I (insC ⟨op, ia, ib, ic, iN⟩) 27) ∧ Hid (blk wx T (stC s (.slice ao s.objs.length co) vt) 42) ∧ Hid (blk wx Q (xC (junkTo uN l8 s.objs.length k s.p)) 37)) (fun v47 _ => 8 - (intOf v47).toNat)
      case atStart => exact ⟨0, Nat.zero_le _, rfl, HW3, KI3, KT3, KQ4⟩
      case round =>
        clear HW3 KI3 KT3 KQ4
        obtain ⟨k, hk, rfl, HW, KI, KT, KQ⟩ := hrel
        by_cases hk8 : k < 8
        · have hki : (k : Int) < 8 := by omega
          have hk0 : (0 : Int) ≤ (k : Int) := by omega
          rcases hb : uN.testBit k with _ | _
          · have e9 : (((uN : Int) / 2 ^ k).tmod 2 == 0) = true := by rw [shr_tmod, hb]; rfl
            have HNX := Lib.hid (junk_next (l := l8) (n := s.objs.length) (ps := s.p) hb)
            clear hb
            go_upto_region 15 with (first
              | (refine wpList_loadB rfl 27 _ rfl I (insC ⟨op, ia, ib, ic, iN⟩) rfl 27 KI.out _ Tryd.underlying27 rfl ins_info ?_)
              | (go_at_call 10; ((with_reducible refine (HUS.out _).mono ?_); rintro e w5 ⟨rfl, hb⟩; have HW := Lib.hid (HW.out.next hb); have KI := Lib.hid (blk_below KI.out hb); have KT := Lib.hid (blk_below KT.out hb); have KQ := Lib.hid (blk_below KQ.out hb); clear hb)))
            have hob := (size_run HCK.out HR.out (by omega)).objs
            have hlk := hlb k
            have hsl := HW.out.a1.len
            have cj : w5.cell? ⟨w.heap.size + 1, k, none⟩ = some (.int .u8 ((l8.getD k 0 : Nat) : Int)) := blk_cell HW.out.junk k _ (u8Arr_get (by omega))
            have c20 : w5.cell? ⟨bs, 20, none⟩ = some (.slice ao s.objs.length co) := blk_cell HW.out.ks _ _ (stC_rest (vo := .slice ao s.objs.length co) (vt := vt) hsl).1
            have ch : w5.cell? ⟨Q, k, none⟩ = some (.int .i64 ((junkTo uN l8 s.objs.length k s.p).getD k 0)) := blk_cell KQ.out k _ (xC_get (by rw [junk_len, hlp]; exact hk8))
            have fh := blk_frozen KQ.out k
            obtain ⟨jk, hjk⟩ : ∃ jk, jk = l8.getD k 0 := ⟨_, rfl⟩
            rw [← hjk] at cj hlk HNX
            clear hjk
            have hnz : ¬ ((s.objs.length : Int) + 1 = 0) := by omega
            have heq : w5.setCell ⟨Q, k, none⟩ (.int .i64 ((jk : Int) % ((s.objs.length : Int) + 1))) = putB w5 Q (xC (junkTo uN l8 s.objs.length (k + 1) s.p)) 37 := by
              rw [setCell_putB KQ.out, show ((jk : Int) % ((s.objs.length : Int) + 1)) = ((jk % (s.objs.length + 1) : Nat) : Int) by simp, xC_set, ← HNX.out]
            have HEQ := Lib.hid heq
            have HWY := Lib.hid ((HW.out.put (g := Q) (D := xC (junkTo uN l8 s.objs.length (k + 1) s.p)) (t := 37) (by omega) KQ.out (by decide)).next (Below.refl _ _).drew)
            have KIY := Lib.hid (blk_below (blk_other KI.out (b := Q) (by omega) (xC (junkTo uN l8 s.objs.length (k + 1) s.p)) 37) (Below.refl _ _).drew)
            have KTY := Lib.hid (blk_below (blk_other KT.out (b := Q) (by omega) (xC (junkTo uN l8 s.objs.length (k + 1) s.p)) 37) (Below.refl _ _).drew)
            have KQY := Lib.hid (blk_below (putB_at KQ.out (xC (junkTo uN l8 s.objs.length (k + 1) s.p)) 37) (Below.refl _ _).drew)
            clear heq
            go_region
            rw [HEQ.out]
            generalize (putB w5 Q (xC (junkTo uN l8 s.objs.length (k + 1) s.p)) 37).drew = wd at HWY KIY KTY KQY ⊢
            go_wp2
            go_roundw
            case rel => exact ⟨k + 1, by omega, by go_num, HWY, KIY, KTY, KQY⟩
            case measure => simp [intOf]; omega
          · have e9 : (((uN : Int) / 2 ^ k).tmod 2 == 0) = false := by rw [shr_tmod, hb]; rfl
            have HNX := Lib.hid (junk_skip (l := l8) (n := s.objs.length) (ps := s.p) hb)
            clear hb
            go_wp2_with (first
              | (refine wpList_loadB rfl 27 _ rfl I (insC ⟨op, ia, ib, ic, iN⟩) rfl 27 KI.out _ Tryd.underlying27 rfl ins_info ?_)
              | (go_at_call 10; ((with_reducible refine (HUS.out _).mono ?_); rintro e w5 ⟨rfl, hb⟩; have HW := Lib.hid (HW.out.next hb); have KI := Lib.hid (blk_below KI.out hb); have KT := Lib.hid (blk_below KT.out hb); have KQ := Lib.hid (blk_below KQ.out hb); clear hb)))
            have KQ' := KQ
            go_roundw
            case rel => exact ⟨k + 1, by omega, by go_num, HW, KI, KT, Lib.hid (by rw [HNX.out]; exact KQ'.out)⟩
            case measure => simp [intOf]; omega
        · have hkn : ¬ ((k : Int) < 8) := by omega
          obtain rfl : k = 8 := by omega
          have hz8 : (junkTo uN l8 s.objs.length 8 s.p).length = 8 := by rw [junk_len]; exact hlp
          have hju : ∀ a, uN.testBit a = true → (junkTo uN l8 s.objs.length 8 s.p).getD a 0 = s.p.getD a 0 := fun a h => junk_use a h
          generalize junkTo uN l8 s.objs.length 8 s.p = tz at KQ hz8 hju
          rw [HUE.out] at hju
          have hbT : bs < T := by omega
          have HWZ := Lib.hid (HW.out.put (g := T) (D := stC (withP s tz) (.slice ao s.objs.length co) vt) (t := 42) hbT KT.out (by decide))
          have HAZ : Hid (StN (putB wr T (stC (withP s tz) (.slice ao s.objs.length co) vt) 42) (.slice ao s.objs.length co) vt (withP s tz)) := Lib.hid ((HW.out.a1.pp hz8).putT KT.out (by decide))
          have KIZ := Lib.hid (blk_other KI.out (b := T) (by omega) (stC (withP s tz) (.slice ao s.objs.length co) vt) 42)
          have KTZ := Lib.hid (putB_at KT.out (stC (withP s tz) (.slice ao s.objs.length co) vt) 42)
          go_upto_region 18 with (first
            | (refine wpList_loadB rfl 37 _ rfl Q (xC tz) rfl 37 KQ.out _ Tryd.underlying37 rfl (by rw [xC_size, hz8]; exact infoP) ?_)
            | (refine wpList_putP rfl _ _ rfl rfl rfl KT.out HW.out.a1.len hz8 ?_))
          clear HW KI KT KQ hk hkn
          obtain ⟨wz, hwz⟩ : ∃ wz, wz = putB wr T (stC (withP s tz) (.slice ao s.objs.length co) vt) 42 := ⟨_, rfl⟩
          have hwz' : putB wr T (stC { s with p := tz } (.slice ao s.objs.length co) vt) 42 = wz := hwz.symm
          rw [hwz']
          rw [← hwz] at HWZ HAZ KIZ KTZ
          clear hwz hwz'
          have HW := HWZ
          have HA := HAZ
          have KI := KIZ
          have KT := KTZ
          clear HWZ HAZ KIZ KTZ
          obtain ⟨zz, x1, yp, hs1, hs2, hx8, hy8, hcase⟩ := step_junk HCK.out HOK.out.ins (by omega) HR.out HII.out hz8 hju
          have hus := use_junk HCK.out HOK.out.ins (by omega) HR.out HII.out hz8 hju
          have hlx : x1.x.length = 8 ∧ x1.g.length = 4 := step_lens HCK.out HOK.out.ins HR.out (by omega) hs1
          have hsz := size_run HCK.out HR.out (by omega)
          have hsz2 : SizeOk (withP s tz) := ⟨hsz.objs, hsz.out, hsz.rows, hsz.pc⟩
          have HSP1 : Hid (∀ w1, Below w.heap.size w w1 → StN w1 (.slice ao s.objs.length co) vt s → Calls Tryd.prog 18 #[.agg (progC (.slice x p.types.length kx) p (.slice (some ⟨bb, o, none⟩) p.code.length kx')), .agg (stC s (.slice ao s.objs.length co) vt)] w1 (StepPost w1 (x1, false, zz))) := Lib.hid fun w1 hb1 h1 => by rw [← hs1]; exact HST.out w1 s _ vt hb1 h1 hsz hus.1
          have HSP2 : Hid (∀ w1, Below w.heap.size w w1 → StN w1 (.slice ao s.objs.length co) vt (withP s tz) → Calls Tryd.prog 18 #[.agg (progC (.slice x p.types.length kx) p (.slice (some ⟨bb, o, none⟩) p.code.length kx')), .agg (stC (withP s tz) (.slice ao s.objs.length co) vt)] w1 (StepPost w1 (withP x1 yp, false, zz))) := Lib.hid fun w1 hb1 h1 => by rw [← hs2]; exact HST.out w1 (withP s tz) _ vt hb1 h1 hsz2 hus.2
          clear hs1 hs2 hus hsz hsz2
          rcases hcase with hz0 | ⟨rfl, ⟨ts', hrn⟩, hlv⟩
          · have ez : ((zz : Int) != 0) = true := by simp; omega
            go_wp2_with (first
              | (refine wpList_loadB rfl 25 _ rfl w.heap.size (progC (.slice x p.types.length kx) p (.slice (some ⟨bb, o, none⟩) p.code.length kx')) rfl 25 HW.out.prog _ Tryd.underlying25 rfl prog_info ?_)
              | (refine wpList_loadB rfl 42 _ rfl bs (stC s (.slice ao s.objs.length co) vt) rfl 42 HW.out.ks _ Tryd.underlying42 rfl (rstate_size HW.out.a1.len) ?_)
              | (refine wpList_loadB rfl 42 _ rfl T (stC (withP s tz) (.slice ao s.objs.length co) vt) rfl 42 KT.out _ Tryd.underlying42 rfl (rstate_size HA.out.len) ?_)
              | (go_at_call 18; ((with_reducible refine (HSP1.out _ HW.out.below HW.out.a1).mono ?_); rintro e1 w4 ⟨vo3, vt3, rfl, hst2, hb⟩; have HT1 := Lib.hid hst2; have HW := Lib.hid (HW.out.next hb); have KI := Lib.hid (blk_below KI.out hb); have KT := Lib.hid (blk_below KT.out hb); have HA := Lib.hid (HA.out.below hb); clear hb hst2))
              | ((have HBT : Hid (Below w4.heap.size w4 (putB (w4.alloc (.cells zeroS 42)) w4.heap.size (stC x1 vo3 vt3) 42)) := Lib.hid (((Below.refl _ _).alloc (Nat.le_refl _) _).trans (putB_below _ (Nat.le_refl _) _ _))); refine wpList_putB rfl 42 _ _ rfl w4.heap.size (stC x1 vo3 vt3) rfl rfl 42 zeroS (blk_new w4 zeroS 42) (rstate_size HT1.out.len) (by rw [stC_size HT1.out.len]; rfl) HT1.out.one ?_; have HW := Lib.hid (HW.out.next HBT.out); have KI := Lib.hid (blk_below KI.out HBT.out); have KT := Lib.hid (blk_below KT.out HBT.out); have HA := Lib.hid (HA.out.below HBT.out); (have HT1 := Lib.hid (HT1.out.below HBT.out)); (have KT1 := Lib.hid (putB_at (blk_new w4 zeroS 42) (stC x1 vo3 vt3) 42)); clear HBT)
              | (go_at_call 18; ((with_reducible refine (HSP2.out _ HW.out.below HA.out).mono ?_); rintro e1 w6 ⟨vo4, vt4, rfl, hst2, hb⟩; have HT2 := Lib.hid hst2; have HX6 := Lib.hid (blk_lt KT1.out); have H66 := Lib.hid hb.size; have HW := Lib.hid (HW.out.next hb); have KI := Lib.hid (blk_below KI.out hb); have KT := Lib.hid (blk_below KT.out hb); have HA := Lib.hid (HA.out.below hb); have HT1 := Lib.hid (HT1.out.below hb); have KT1 := Lib.hid (blk_below KT1.out hb); clear hb hst2))
              | ((have HBT : Hid (Below w6.heap.size w6 (putB (w6.alloc (.cells zeroS 42)) w6.heap.size (stC (withP x1 yp) vo4 vt4) 42)) := Lib.hid (((Below.refl _ _).alloc (Nat.le_refl _) _).trans (putB_below _ (Nat.le_refl _) _ _))); refine wpList_putB rfl 42 _ _ rfl w6.heap.size (stC (withP x1 yp) vo4 vt4) rfl rfl 42 zeroS (blk_new w6 zeroS 42) (rstate_size HT2.out.len) (by rw [stC_size HT2.out.len]; rfl) HT2.out.one ?_; have HW := Lib.hid (HW.out.next HBT.out); have KI := Lib.hid (blk_below KI.out HBT.out); have KT := Lib.hid (blk_below KT.out HBT.out); have HA := Lib.hid (HA.out.below HBT.out); (have HT2 := Lib.hid (HT2.out.below HBT.out)); (have KT2 := Lib.hid (putB_at (blk_new w6 zeroS 42) (stC (withP x1 yp) vo4 vt4) 42)); (have HT1 := Lib.hid (HT1.out.below HBT.out)); (have KT1 := Lib.hid (blk_below KT1.out HBT.out)); clear HBT))
            go_ret
            exact ⟨rfl, HW.out.below⟩
          · have HRN := Lib.hid hrn
            have HLV := Lib.hid hlv
            clear hrn hlv
            go_wp2_with (first
              | (refine wpList_loadB rfl 25 _ rfl w.heap.size (progC (.slice x p.types.length kx) p (.slice (some ⟨bb, o, none⟩) p.code.length kx')) rfl 25 HW.out.prog _ Tryd.underlying25 rfl prog_info ?_)
              | (refine wpList_loadB rfl 42 _ rfl bs (stC s (.slice ao s.objs.length co) vt) rfl 42 HW.out.ks _ Tryd.underlying42 rfl (rstate_size HW.out.a1.len) ?_)
              | (refine wpList_loadB rfl 42 _ rfl T (stC (withP s tz) (.slice ao s.objs.length co) vt) rfl 42 KT.out _ Tryd.underlying42 rfl (rstate_size HA.out.len) ?_)
              | (go_at_call 18; ((with_reducible refine (HSP1.out _ HW.out.below HW.out.a1).mono ?_); rintro e1 w4 ⟨vo3, vt3, rfl, hst2, hb⟩; have HT1 := Lib.hid hst2; have HW := Lib.hid (HW.out.next hb); have KI := Lib.hid (blk_below KI.out hb); have KT := Lib.hid (blk_below KT.out hb); have HA := Lib.hid (HA.out.below hb); clear hb hst2))
              | ((have HBT : Hid (Below w4.heap.size w4 (putB (w4.alloc (.cells zeroS 42)) w4.heap.size (stC x1 vo3 vt3) 42)) := Lib.hid (((Below.refl _ _).alloc (Nat.le_refl _) _).trans (putB_below _ (Nat.le_refl _) _ _))); refine wpList_putB rfl 42 _ _ rfl w4.heap.size (stC x1 vo3 vt3) rfl rfl 42 zeroS (blk_new w4 zeroS 42) (rstate_size HT1.out.len) (by rw [stC_size HT1.out.len]; rfl) HT1.out.one ?_; have HW := Lib.hid (HW.out.next HBT.out); have KI := Lib.hid (blk_below KI.out HBT.out); have KT := Lib.hid (blk_below KT.out HBT.out); have HA := Lib.hid (HA.out.below HBT.out); (have HT1 := Lib.hid (HT1.out.below HBT.out)); (have KT1 := Lib.hid (putB_at (blk_new w4 zeroS 42) (stC x1 vo3 vt3) 42)); clear HBT)
              | (go_at_call 18; ((with_reducible refine (HSP2.out _ HW.out.below HA.out).mono ?_); rintro e1 w6 ⟨vo4, vt4, rfl, hst2, hb⟩; have HT2 := Lib.hid hst2; have HX6 := Lib.hid (blk_lt KT1.out); have H66 := Lib.hid hb.size; have HW := Lib.hid (HW.out.next hb); have KI := Lib.hid (blk_below KI.out hb); have KT := Lib.hid (blk_below KT.out hb); have HA := Lib.hid (HA.out.below hb); have HT1 := Lib.hid (HT1.out.below hb); have KT1 := Lib.hid (blk_below KT1.out hb); clear hb hst2))
              | ((have HBT : Hid (Below w6.heap.size w6 (putB (w6.alloc (.cells zeroS 42)) w6.heap.size (stC (withP x1 yp) vo4 vt4) 42)) := Lib.hid (((Below.refl _ _).alloc (Nat.le_refl _) _).trans (putB_below _ (Nat.le_refl _) _ _))); refine wpList_putB rfl 42 _ _ rfl w6.heap.size (stC (withP x1 yp) vo4 vt4) rfl rfl 42 zeroS (blk_new w6 zeroS 42) (rstate_size HT2.out.len) (by rw [stC_size HT2.out.len]; rfl) HT2.out.one ?_; have HW := Lib.hid (HW.out.next HBT.out); have KI := Lib.hid (blk_below KI.out HBT.out); have KT := Lib.hid (blk_below KT.out HBT.out); have HA := Lib.hid (HA.out.below HBT.out); (have HT2 := Lib.hid (HT2.out.below HBT.out)); (have KT2 := Lib.hid (putB_at (blk_new w6 zeroS 42) (stC (withP x1 yp) vo4 vt4) 42)); (have HT1 := Lib.hid (HT1.out.below HBT.out)); (have KT1 := Lib.hid (blk_below KT1.out HBT.out)); clear HBT))
            obtain ⟨sN, hsN⟩ : ∃ sN, sN = setsN ⟨op, ia, ib, ic, iN⟩ := ⟨_, rfl⟩
            rw [← hsN] at HSE HLV
            clear hsN
            go_loopw [89] (fun v89 wx => ∃ k : Nat, k ≤ 8 ∧ v89 = .int .i64 k ∧ Hid (LrW w wx bs l8 (progC (.slice x p.types.length kx) p (.slice (some ⟨bb, o, none⟩) p.code.length kx')) s (.slice ao s.objs.length co) vt) ∧ Hid (blk wx I (insC ⟨op, ia, ib, ic, iN⟩) 27) ∧ Hid (blk wx T (stC (withP s tz) (.slice ao s.objs.length co) vt) 42) ∧ Hid (StN wx vo3 vt3 x1) ∧ Hid (blk wx w4.heap.size (stC x1 vo3 vt3) 42) ∧ Hid (StN wx vo4 vt4 (withP x1 yp)) ∧ Hid (blk wx w6.heap.size (stC (withP x1 yp) vo4 vt4) 42)) (fun v89 _ => 8 - (intOf v89).toNat)
            case atStart => exact ⟨0, Nat.zero_le _, rfl, HW, KI, KT, HT1, KT1, HT2, KT2⟩
            case round =>
              clear HW KI KT HA HT1 KT1 HT2 KT2
              obtain ⟨k, hk, rfl, HW, KI, KT, HT1, KT1, HT2, KT2⟩ := hrel
              by_cases hk8 : k < 8
              · have hki : (k : Int) < 8 := by omega
                have hk0 : (0 : Int) ≤ (k : Int) := by omega
                have hlt : LenS (withP s tz) := ⟨HW.out.a1.len.x, hz8, HW.out.a1.len.g⟩
                have hv := HLV.out k
                rcases hb : sN.testBit k with _ | _
                · have e9 : (((sN : Int) / 2 ^ k).tmod 2 == 1) = false := by rw [shr_tmod, hb]; rfl
                  obtain ⟨v1, v2⟩ := hv.2 hb
                  clear hv hb
                  go_upto_region 28 with (first
                    | (refine wpList_loadB rfl 27 _ rfl I (insC ⟨op, ia, ib, ic, iN⟩) rfl 27 KI.out _ Tryd.underlying27 rfl ins_info ?_)
                    | (go_at_call 12; ((with_reducible refine (HSE.out _).mono ?_); rintro e w8 ⟨rfl, hb⟩; have HW := Lib.hid (HW.out.next hb); have KI := Lib.hid (blk_below KI.out hb); have KT := Lib.hid (blk_below KT.out hb); have HT1 := Lib.hid (HT1.out.below hb); have KT1 := Lib.hid (blk_below KT1.out hb); have HT2 := Lib.hid (HT2.out.below hb); have KT2 := Lib.hid (blk_below KT2.out hb); clear hb)))
                  have c1 : w8.cell? ⟨w4.heap.size, 8 + k, none⟩ = some (.int .i64 (s.p.getD k 0)) := by rw [← v1]; exact blk_cell KT1.out (8 + k) _ (stC_p HT1.out.len k hk8)
                  have c2 : w8.cell? ⟨bs, 8 + k, none⟩ = some (.int .i64 (s.p.getD k 0)) := blk_cell HW.out.ks (8 + k) _ (stC_p HW.out.a1.len k hk8)
                  have c3 : w8.cell? ⟨w6.heap.size, 8 + k, none⟩ = some (.int .i64 (tz.getD k 0)) := by rw [← v2]; exact blk_cell KT2.out (8 + k) _ (stC_p HT2.out.len k hk8)
                  have c4 : w8.cell? ⟨T, 8 + k, none⟩ = some (.int .i64 (tz.getD k 0)) := blk_cell KT.out (8 + k) _ (stC_p hlt k hk8)
                  generalize s.p.getD k 0 = va at c1 c2
                  generalize tz.getD k 0 = vb at c3 c4
                  clear v1 v2 hlt
                  go_quiet (fail)
                  go_wp2
                  go_roundw
                  case rel => exact ⟨k + 1, by omega, by go_num, Lib.hid (HW.out.next (below8_draws (Below.refl _ _) _)), Lib.hid (blk_below KI.out (below8_draws (Below.refl _ _) _)), Lib.hid (blk_below KT.out (below8_draws (Below.refl _ _) _)), Lib.hid (HT1.out.below (below8_draws (Below.refl _ _) _)), Lib.hid (blk_below KT1.out (below8_draws (Below.refl _ _) _)), Lib.hid (HT2.out.below (below8_draws (Below.refl _ _) _)), Lib.hid (blk_below KT2.out (below8_draws (Below.refl _ _) _))⟩
                  case measure => simp [intOf]; omega
                · have e9 : (((sN : Int) / 2 ^ k).tmod 2 == 1) = true := by rw [shr_tmod, hb]; rfl
                  have v1 := hv.1 hb
                  clear hv hb hlt
                  go_upto_region 28 with (first
                    | (refine wpList_loadB rfl 27 _ rfl I (insC ⟨op, ia, ib, ic, iN⟩) rfl 27 KI.out _ Tryd.underlying27 rfl ins_info ?_)
                    | (go_at_call 12; ((with_reducible refine (HSE.out _).mono ?_); rintro e w8 ⟨rfl, hb⟩; have HW := Lib.hid (HW.out.next hb); have KI := Lib.hid (blk_below KI.out hb); have KT := Lib.hid (blk_below KT.out hb); have HT1 := Lib.hid (HT1.out.below hb); have KT1 := Lib.hid (blk_below KT1.out hb); have HT2 := Lib.hid (HT2.out.below hb); have KT2 := Lib.hid (blk_below KT2.out hb); clear hb)))
                  have c1 : w8.cell? ⟨w4.heap.size, 8 + k, none⟩ = some (.int .i64 (x1.p.getD k 0)) := blk_cell KT1.out (8 + k) _ (stC_p HT1.out.len k hk8)
                  have c3 : w8.cell? ⟨w6.heap.size, 8 + k, none⟩ = some (.int .i64 (x1.p.getD k 0)) := by rw [← v1]; exact blk_cell KT2.out (8 + k) _ (stC_p HT2.out.len k hk8)
                  generalize x1.p.getD k 0 = va at c1 c3
                  clear v1
                  go_quiet (fail)
                  go_wp2
                  go_roundw
                  case rel => exact ⟨k + 1, by omega, by go_num, Lib.hid (HW.out.next (below8_draws (Below.refl _ _) _)), Lib.hid (blk_below KI.out (below8_draws (Below.refl _ _) _)), Lib.hid (blk_below KT.out (below8_draws (Below.refl _ _) _)), Lib.hid (HT1.out.below (below8_draws (Below.refl _ _) _)), Lib.hid (blk_below KT1.out (below8_draws (Below.refl _ _) _)), Lib.hid (HT2.out.below (below8_draws (Below.refl _ _) _)), Lib.hid (blk_below KT2.out (below8_draws (Below.refl _ _) _))⟩
                  case measure => simp [intOf]; omega
              · have hkn : ¬ ((k : Int) < 8) := by omega
                have IX : (Tryd.prog.info? 36).map (·.size) = some (i64s x1.x).length := by rw [i64s_len, hlx.1]; exact infoX
                have IG : (Tryd.prog.info? 38).map (·.size) = some (i64s x1.g).length := by rw [i64s_len, hlx.2]; exact infoG
                have HIX := Lib.hid IX
                have HIG := Lib.hid IG
                have qX := fun w => same_X w x1.x hlx.1
                have qG := fun w => same_G w x1.g hlx.2
                have x22 := blk_cell KT1.out _ _ (stC_rest (vo := vo3) (vt := vt3) HT1.out.len).2.2.1
                have x21 := blk_cell KT1.out _ _ (stC_rest (vo := vo3) (vt := vt3) HT1.out.len).2.1
                have y22 := blk_cell KT2.out _ _ (stC_rest (vo := vo4) (vt := vt4) HT2.out.len).2.2.1
                have y21 := blk_cell KT2.out _ _ (stC_rest (vo := vo4) (vt := vt4) HT2.out.len).2.1
                have y22 : _ = some (Value.int .i64 (x1.pc : Int)) := y22
                clear IX IG
                go_wp2_with (first
                  | (refine wpList_load_wantV (by rfl) 36 _ rfl w4.heap.size 0 rfl (i64s x1.x) _ (range_x KT1.out HT1.out.len).1 Tryd.underlying36 rfl HIX.out ?_)
                  | (refine wpList_load_wantV (by rfl) 36 _ rfl w6.heap.size 0 rfl (i64s x1.x) _ (range_x KT2.out HT2.out.len).1 Tryd.underlying36 rfl HIX.out ?_)
                  | (refine wpList_load_wantV (by rfl) 38 _ rfl w4.heap.size 16 rfl (i64s x1.g) _ (range_x KT1.out HT1.out.len).2.2 Tryd.underlying38 rfl HIG.out ?_)
                  | (refine wpList_load_wantV (by rfl) 38 _ rfl w6.heap.size 16 rfl (i64s x1.g) _ (range_x KT2.out HT2.out.len).2.2 Tryd.underlying38 rfl HIG.out ?_)
                  | (go_at_call 19; refine (HNU.out _ vt3 vt4 x1.out HT1.out.out.1 HT2.out.out.1).mono ?_; rintro e w7 ⟨rfl, hb⟩; have HW := Lib.hid (HW.out.next hb); have HT1 := Lib.hid (HT1.out.below hb); have KT1 := Lib.hid (blk_below KT1.out hb); clear hb x21 x22 y21 y22)
                  | (refine wpList_loadB rfl 42 _ rfl w4.heap.size (stC x1 vo3 vt3) rfl 42 KT1.out _ Tryd.underlying42 rfl (rstate_size HT1.out.len) ?_)
                  | (refine wpList_putB rfl 42 _ _ rfl bs (stC x1 vo3 vt3) rfl rfl 42 _ HW.out.ks (rstate_size HT1.out.len) (by rw [stC_size HW.out.a1.len, stC_size HT1.out.len]) HT1.out.one ?_; (have HW := Lib.hid (HW.out.putS HT1.out))))
                go_roundw
                case rel => exact ⟨n + 1, x1, ts', vo3, vt3, by omega, by go_num, HW, HRN⟩
                case measure => simp [intOf]; omega
    · have hnn : ¬ ((n : Int) < (a : Int)) := by omega
      go_wp2
      go_ret
      exact ⟨rfl, HW.out.below⟩
theorem lreads_walk (v : Value) (p : PProg) (a : Int) (l8 : List Nat) (w : World) (h : ProgAt w v p) (hs : OkP p) (ha0 : 0 ≤ a) (ha : a ≤ 255) (hl8 : l8.length = 8) (hlb : ∀ k, l8.getD k 0 < 256) (ht' : HasT w) : Calls Tryd.prog 6 #[v, .int .u8 a, .agg (u8Arr l8)] w fun e w' => e = .returned (.bool true) ∧ Below w.heap.size w w' := by
  obtain ⟨vt, vc, rfl, ht, hc⟩ := id h
  have hwb : Below w.heap.size w (w.alloc (.cells (progC vt p vc) 25)) := (Below.refl _ _).alloc (Nat.le_refl _) _
  have HK := keep_new h
  obtain ⟨x, c, rfl, -, -, -⟩ := id ht.elems
  obtain ⟨x', c', rfl, q1, q2, hrow⟩ := id hc
  unfold maxLen at q2
  obtain ⟨ka, rfl⟩ : ∃ ka : Nat, a = ka := ⟨a.toNat, by omega⟩
  have hwb2 : Below (w.alloc (.cells (progC (.slice x p.types.length c) p (.slice x' p.code.length c')) 25)).heap.size (w.alloc (.cells (progC (.slice x p.types.length c) p (.slice x' p.code.length c')) 25)) ((w.alloc (.cells (progC (.slice x p.types.length c) p (.slice x' p.code.length c')) 25)).alloc (.cells (u8Arr l8) 47)) := (Below.refl _ _).alloc (Nat.le_refl _) _
  have hI : (w.alloc (.cells (progC (.slice x p.types.length c) p (.slice x' p.code.length c')) 25)).heap.size = w.heap.size + 1 := World.size_alloc _ _
  exact lreads_at w _ p ka l8 x x' c c' rfl (Lib.hid (by rw [← hI]; exact blk_new _ _ _)) hl8 hlb (Lib.hid (HK.below hwb2)) (Lib.hid (hwb.trans (hwb2.mono hwb.size))) (Lib.hid fun w1 => valive_n w1) (Lib.hid fun w1 h1 hb1 => sound_n _ p w1 _ h1 hs (ht'.below hb1) rfl) (by omega) q1
    (by omega) (Lib.hid hs) (Lib.hid hrow) (Lib.hid fun i hi w1 => luses_n i w1 hi) (Lib.hid fun i hi w1 => lsets_n i w1 hi) (Lib.hid fun hsd w1 s vo vt hb1 hst hz hu => rstepU_n _ p w1 s vo vt (h.below hb1) hs (ht'.below hb1) hst hz (fun _ => hu)) (Lib.hid fun w1 va vb l h1 h2 => nums_n va vb l l true w1 h1 h2 (by simp))
end Go.Proofs.YtijgpfimdlnkiaaDoor
