/-
  FreshSafe: the walk.
-/
import Derived.Test.YtfnoldopjnegfaaDoorVPU
import Derived.Deep.LoopGhost
import Derived.Deep.RegionHeld3
import Derived.Deep.CutRange
import Derived.Deep.CutBlock
import Derived.Deep.QuietTactic
namespace Go.Proofs.YtfnoldopjnegfaaDoor
set_option linter.unusedSimpArgs false
set_option linter.unusedVariables false
open Go.RowKit

set_option maxRecDepth 100000 in
set_option maxHeartbeats 8000000 in
theorem fsafe_at (w W0 : World) (p : PProg) (a0 : Nat) (x x' : Option Addr) (kx kx' : Nat)
    (hW0 : W0 = w.alloc (.cells (progC (.slice x p.types.length kx) p (.slice x' p.code.length kx')) 25)) (KP : Hid (Keep W0 w.heap.size (.slice x p.types.length kx) (.slice x' p.code.length kx') p)) (HB : Hid (Below w.heap.size w W0))
    (HAL : Hid (∀ w1, Calls Tryd.prog 10 #[] w1 (AggPost w1 (.bool true))))
    (HSO : Hid (∀ w1, ProgAt w1 (.agg (progC (.slice x p.types.length kx) p (.slice x' p.code.length kx'))) p → Below w.heap.size w w1 → Calls Tryd.prog 11 #[.agg (progC (.slice x p.types.length kx) p (.slice x' p.code.length kx'))] w1 (AggPost w1 (.bool (soundB p)))))
    (g2 : kx' ≤ 9223372036854775807) (g1 : p.code.length ≤ kx')
    (HLI : Hid (soundB p = true → ∀ w1, ProgAt w1 (.agg (progC (.slice x p.types.length kx) p (.slice x' p.code.length kx'))) p → Calls Tryd.prog 12 #[.agg #[.slice x p.types.length kx, str p.locals, str p.globs, .slice x' p.code.length kx']] w1 (U8sPost w1 (freshL p)))) (hok : Hid (∀ i ∈ p.code, OkI i)) (ha0 : a0 ≤ 255)
    (HOU : Hid (∀ (w1 : World) (k : Int) (m : Nat), ProgAt w1 (.agg (progC (.slice x p.types.length kx) p (.slice x' p.code.length kx'))) p → m < 256 → Calls Tryd.prog 14 #[.agg #[.slice x p.types.length kx, str p.locals, str p.globs, .slice x' p.code.length kx'], .int .i64 k, .int .u8 (m : Int)] w1 (AggPost w1 (.int .u8 ((outV p k m : Nat) : Int)))))
    (HSA : Hid (∀ (w1 : World) (k : Int), ProgAt w1 (.agg (progC (.slice x p.types.length kx) p (.slice x' p.code.length kx'))) p → Calls Tryd.prog 16 #[.agg #[.slice x p.types.length kx, str p.locals, str p.globs, .slice x' p.code.length kx'], .int .i64 k] w1 (AggPost w1 (.bool (safeV p k)))))
    (HNX : Hid (soundB p = true → ∀ (w1 : World) (k : Nat), ProgAt w1 (.agg (progC (.slice x p.types.length kx) p (.slice x' p.code.length kx'))) p → Calls Tryd.prog 19 #[.agg (progC (.slice x p.types.length kx) p (.slice x' p.code.length kx')), .int .i64 k] w1 (RowPost w1 (nextV p k)))) :
    Calls Tryd.prog 7 #[.agg (progC (.slice x p.types.length kx) p (.slice x' p.code.length kx')), .int .u8 a0] w (AggPost w (.bool true)) := by
  go_enter Tryd.func7, Tryd.ntmps7
  go_upto_region 1 with (fail)
  rw [← hW0]
  clear hW0
  rcases hsd : soundB p with _ | _
  · rw [hsd] at HSO
    go_wp2_with (first
      | (refine wpList_loadB rfl 25 _ rfl w.heap.size (progC (.slice x p.types.length kx) p (.slice x' p.code.length kx')) rfl 25 KP.out.blk _ Tryd.underlying25 rfl prog_info ?_)
      | (go_at_call 10; ((with_reducible refine (HAL.out _).mono ?_); rintro e w1 ⟨rfl, hb⟩; have KP := Lib.hid (KP.out.below hb); have HB := Lib.hid (HB.out.trans (hb.mono HB.out.size)); clear hb))
      | (go_at_call 11; ((with_reducible refine (HSO.out _ KP.out.at' HB.out).mono ?_); rintro e w2 ⟨rfl, hb⟩; have KP := Lib.hid (KP.out.below hb); have HB := Lib.hid (HB.out.trans (hb.mono HB.out.size)); clear hb)))
    go_ret
    exact ⟨rfl, HB.out⟩
  have HLI : Hid (∀ w1, ProgAt w1 (.agg (progC (.slice x p.types.length kx) p (.slice x' p.code.length kx'))) p → Calls Tryd.prog 12 #[.agg (progC (.slice x p.types.length kx) p (.slice x' p.code.length kx'))] w1 (U8sPost w1 (freshL p))) := Lib.hid (HLI.out hsd)
  have HNX := Lib.hid (HNX.out hsd)
  obtain ⟨hfw, hl60, hck, hin0, hl1⟩ := sound_parts hsd
  have HIN := Lib.hid hin0
  rw [hsd] at HSO
  clear hin0 hck hsd
  go_upto_region 5 with (first
    | (refine wpList_loadB rfl 25 _ rfl w.heap.size (progC (.slice x p.types.length kx) p (.slice x' p.code.length kx')) rfl 25 KP.out.blk _ Tryd.underlying25 rfl prog_info ?_)
    | (go_at_call 10; ((with_reducible refine (HAL.out _).mono ?_); rintro e w1 ⟨rfl, hb⟩; have KP := Lib.hid (KP.out.below hb); have HB := Lib.hid (HB.out.trans (hb.mono HB.out.size)); clear hb))
    | (go_at_call 11; ((with_reducible refine (HSO.out _ KP.out.at' HB.out).mono ?_); rintro e w2 ⟨rfl, hb⟩; have KP := Lib.hid (KP.out.below hb); have HB := Lib.hid (HB.out.trans (hb.mono HB.out.size)); clear hb)))
  clear HSO HAL
  have hz : ((p.code.length : Int) == 0) = false := by simp; intro h; rw [h] at hl1; simp at hl1
  have hz' : ¬ ((p.code.length : Int) = 0) := by omega
  have p3 := KP.out.cells.2.2.2
  go_upto_region 6 with (fail)
  obtain ⟨m, hm, hmm⟩ : ∃ m : Nat, m < p.code.length ∧ (a0 : Int) % (p.code.length : Int) = m := ⟨a0 % p.code.length, Nat.mod_lt a0 (by omega), rfl⟩
  rw [hmm]
  clear hmm hz hz'
  clear p3
  go_upto_region 7 with (first
    | (refine wpList_loadB rfl 25 _ rfl w.heap.size (progC (.slice x p.types.length kx) p (.slice x' p.code.length kx')) rfl 25 KP.out.blk _ Tryd.underlying25 rfl prog_info ?_)
    | (go_at_call 12; ((with_reducible refine (HLI.out _ KP.out.at').mono ?_); rintro e w3 ⟨v3, rfl, hr, hb⟩; obtain ⟨b4, o4, cp4, hv3, hc4, hd4, hbx, hcell⟩ := u8A_cells hr fresh_n1; subst hv3; have KP := Lib.hid (KP.out.below hb); have HB := Lib.hid (HB.out.trans (hb.mono HB.out.size)); clear hb; have HL := Lib.hid (U8At.mk hbx hcell); clear hr hbx hcell)))
  have p3 := KP.out.cells.2.2.2
  have e1 : (((p.code.length + 1 : Nat) : Int) != (p.code.length : Int) + 1) = false := by simp
  obtain ⟨i, hi⟩ : ∃ i, p.code[m]? = some i := ⟨_, List.getElem?_eq_getElem hm⟩
  have hmi : (m : Int) < (p.code.length : Int) := by omega
  have hm0 : (0 : Int) ≤ (m : Int) := by omega
  have hsv : safeV p (m : Int) = safeL p m := by unfold safeV; simp
  have HS1 : Hid (∀ w1, ProgAt w1 (.agg (progC (.slice x p.types.length kx) p (.slice x' p.code.length kx'))) p → Calls Tryd.prog 16 #[.agg #[.slice x p.types.length kx, str p.locals, str p.globs, .slice x' p.code.length kx'], .int .i64 m] w1 (AggPost w1 (.bool (safeL p m)))) := Lib.hid fun w1 h1 => by rw [← hsv]; exact HSA.out w1 m h1
  clear HLI HSA hsv
  go_upto_region 9 with (fail)
  clear p3 e1
  rcases hsf : safeL p m with _ | _
  · rw [hsf] at HS1
    go_wp2_with (first
      | (refine wpList_loadB rfl 25 _ rfl w.heap.size (progC (.slice x p.types.length kx) p (.slice x' p.code.length kx')) rfl 25 KP.out.blk _ Tryd.underlying25 rfl prog_info ?_)
      | (go_at_call 16; ((with_reducible refine (HS1.out _ KP.out.at').mono ?_); rintro e wz ⟨rfl, hb⟩; have HL := Lib.hid (HL.out.next hb); have KP := Lib.hid (KP.out.below hb); have HB := Lib.hid (HB.out.trans (hb.mono HB.out.size)); clear hb)))
    go_ret
    exact ⟨rfl, HB.out⟩
  have hoki := hok.out i (List.mem_of_getElem? hi)
  have HO1 : Hid (∀ w1, ProgAt w1 (.agg (progC (.slice x p.types.length kx) p (.slice x' p.code.length kx'))) p → Calls Tryd.prog 14 #[.agg #[.slice x p.types.length kx, str p.locals, str p.globs, .slice x' p.code.length kx'], .int .i64 m, .int .u8 255] w1 (AggPost w1 (.int .u8 ((wantN i : Nat) : Int)))) := Lib.hid fun w1 h1 => by
    have h9 := HOU.out w1 m 255 h1 (by decide)
    rw [outV_nat hm, outN_want hi hsf] at h9; exact h9
  have HO2 : Hid (∀ w1, ProgAt w1 (.agg (progC (.slice x p.types.length kx) p (.slice x' p.code.length kx'))) p → Calls Tryd.prog 14 #[.agg #[.slice x p.types.length kx, str p.locals, str p.globs, .slice x' p.code.length kx'], .int .i64 m, .int .u8 0] w1 (AggPost w1 (.int .u8 ((wantN i : Nat) : Int)))) := Lib.hid fun w1 h1 => by
    have h9 := HOU.out w1 m 0 h1 (by decide)
    rw [outV_nat hm, outN_want hi hsf] at h9; exact h9
  have HWT : Hid (∀ n, n ∈ nextL p m → butN ((freshL p).getD n 0) (wantN i) = 0) := Lib.hid fun n hn => fresh_want HIN.out hi hsf hn
  have hwl := want_lt i
  rw [hsf] at HS1
  clear hsf HOU
  go_upto_region 12 with (first
    | (refine wpList_loadB rfl 25 _ rfl w.heap.size (progC (.slice x p.types.length kx) p (.slice x' p.code.length kx')) rfl 25 KP.out.blk _ Tryd.underlying25 rfl prog_info ?_)
    | (go_at_call 16; ((with_reducible refine (HS1.out _ KP.out.at').mono ?_); rintro e wz ⟨rfl, hb⟩; have HL := Lib.hid (HL.out.next hb); have KP := Lib.hid (KP.out.below hb); have HB := Lib.hid (HB.out.trans (hb.mono HB.out.size)); clear hb)))
  obtain ⟨bb, o, rfl, hbb, hrg⟩ := prog_ins KP.out.at' hi
  obtain ⟨op, a, b, c, n⟩ := i
  obtain ⟨d0, d1⟩ : (wz.cell? ⟨bb, o + m * 5, none⟩ = some (.int .u8 op)) ∧ wz.cell? ⟨bb, o + m * 5 + 1, none⟩ = some (.int .u8 a) := ⟨hrg 0 _ rfl, hrg 1 _ rfl⟩
  have p3 := KP.out.cells.2.2.2
  clear hrg hi HS1
  go_upto_if 40 with (fail)
  go_cut [7] from 10 (fun v7 wx => v7 = .int .u8 ((wantN ⟨op, a, b, c, n⟩ : Nat) : Int) ∧ wx = wz)
  case first =>
    clear HO1 HO2 HWT HNX
    by_cases h5 : op = 5
    · have hA0 : (0 : Int) ≤ a := by obtain ⟨_, _, h, _⟩ := hoki; exact h
      have HE := Lib.hid (shl_bit hA0)
      have hw : wantN ⟨op, a, b, c, n⟩ = bitN a := by unfold wantN; rw [if_pos h5]
      have q5 : (op == 5) = true := by simpa using h5
      have HW := Lib.hid hw
      clear h5 hw
      go_wp2
      go_meet
      exact ⟨by rw [HW.out]; exact congrArg (fun z => Value.int .u8 z) HE.out, rfl⟩
    · have hw : wantN ⟨op, a, b, c, n⟩ = 0 := by unfold wantN; rw [if_neg h5]
      have q5 : (op == 5) = false := by simpa using h5
      have HW := Lib.hid hw
      clear h5 hw
      go_wp2
      go_meet
      exact ⟨by rw [HW.out]; rfl, rfl⟩
  case rest =>
    obtain ⟨rfl, hwx⟩ := hcut
    subst hwx
    clear d0 d1 p3
    generalize wantN ⟨op, a, b, c, n⟩ = wN at HO1 HO2 HWT hwl ⊢
    have HG := Lib.hid hoki
    clear hoki HG
    go_wp2_with (first
      | (refine wpList_loadB rfl 25 _ rfl w.heap.size (progC (.slice x p.types.length kx) p (.slice (some ⟨bb, o, none⟩) p.code.length kx')) rfl 25 KP.out.blk _ Tryd.underlying25 rfl prog_info ?_)
      | (go_at_call 19; refine (HNX.out _ m KP.out.at').mono ?_; rintro e1 w5 ⟨v8, rfl, ho, hb⟩; obtain ⟨ad, cap, hv8, hcp, hcp2⟩ := own_form ho; subst hv8; have HLF := Lib.hid (rowA_form (RowAt.of_own ho)); have KP := Lib.hid (KP.out.below hb); have HB := Lib.hid (HB.out.trans (hb.mono HB.out.size)); have HL := Lib.hid (HL.out.next hb); clear ho hb))
    have hll2 : (nextV p m).length = (nextL p m).length := by rw [nextL_cast]; simp
    have HLC : Hid (∀ (j n : Nat), (nextL p m)[j]? = some n → ∃ b o, ad = some ⟨b, o, none⟩ ∧ w5.cell? ⟨b, o + j, none⟩ = some (.int .i64 (n : Int))) := Lib.hid (by
      obtain ⟨a0, c0, e1, -, -, h3⟩ := HLF.out
      simp only [Value.slice.injEq] at e1
      obtain ⟨rfl, -, -⟩ := e1
      intro j n hn
      obtain ⟨b, o, e2, -, h4⟩ := h3 j (n : Int) (by rw [nextL_cast]; simp [hn])
      exact ⟨b, o, e2, h4⟩)
    rw [hll2] at hcp ⊢
    clear HLF hll2
    have hl2 := (next_sorted (q := p) m).1
    go_loopw [52] (fun v52 wx => ∃ (j : Nat), j ≤ (nextL p m).length ∧ v52 = .int .i64 j ∧ wx = w5) (fun v52 _ => (nextL p m).length - (intOf v52).toNat)
    case atStart => exact ⟨0, Nat.zero_le _, rfl, rfl⟩
    case round =>
      obtain ⟨j, hj, rfl, hwx⟩ := hrel
      subst hwx
      by_cases hjl : j < (nextL p m).length
      · have hji : (j : Int) < ((nextL p m).length : Int) := by omega
        obtain ⟨n', hn⟩ : ∃ n', (nextL p m)[j]? = some n' := ⟨_, List.getElem?_eq_getElem hjl⟩
        have hnl := (next_le HIN.out (List.mem_of_getElem? hn)).1
        have hni : (n' : Int) < (p.code.length : Int) + 1 := by omega
        have hn0 : (0 : Int) ≤ (n' : Int) := by omega
        obtain ⟨b9, o9, rfl, c9⟩ := HLC.out j n' hn
        have ch := HL.out.c n' hnl
        have hzl := fresh_lt (q := p) n'
        have hw0 := HWT.out n' (List.mem_of_getElem? hn)
        generalize (freshL p).getD n' 0 = z at ch hzl hw0
        have e6 : (bits .andNot .u8 (z : Int) (wN : Int) != 0) = false := by rw [but_u8 hzl hwl, hw0]; rfl
        clear hn hzl hw0
        go_wp2
        go_roundw
        case rel => exact ⟨j + 1, by omega, by go_num, trivial⟩
        case measure => simp [intOf]; omega
      · have hjn : ¬ ((j : Int) < ((nextL p m).length : Int)) := by omega
        clear HLC HWT HNX
        go_wp2_with (first
          | (refine wpList_loadB rfl 25 _ rfl w.heap.size (progC (.slice x p.types.length kx) p (.slice (some ⟨bb, o, none⟩) p.code.length kx')) rfl 25 KP.out.blk _ Tryd.underlying25 rfl prog_info ?_)
          | (refine wpList_loadBw (by rfl) 25 _ rfl w.heap.size (progC (.slice x p.types.length kx) p (.slice (some ⟨bb, o, none⟩) p.code.length kx')) rfl 25 KP.out.blk _ Tryd.underlying25 rfl prog_info ?_)
          | (go_at_call 14; ((with_reducible refine (HO1.out _ KP.out.at').mono ?_); rintro e wq ⟨rfl, hb⟩; have KP := Lib.hid (KP.out.below hb); have HB := Lib.hid (HB.out.trans (hb.mono HB.out.size)); clear hb))
          | (go_at_call 14; ((with_reducible refine (HO2.out _ KP.out.at').mono ?_); rintro e wq ⟨rfl, hb⟩; have KP := Lib.hid (KP.out.below hb); have HB := Lib.hid (HB.out.trans (hb.mono HB.out.size)); clear hb)))
        go_ret
        exact ⟨rfl, HB.out⟩
theorem fsafe_walk (v : Value) (p : PProg) (a : Int) (w : World) (h : ProgAt w v p) (hs : OkP p) (ha0 : 0 ≤ a) (ha : a ≤ 255) (ht' : HasT w) : Calls Tryd.prog 7 #[v, .int .u8 a] w fun e w' => e = .returned (.bool true) ∧ Below w.heap.size w w' := by
  obtain ⟨vt, vc, rfl, ht, hc⟩ := id h
  have hwb : Below w.heap.size w (w.alloc (.cells (progC vt p vc) 25)) := (Below.refl _ _).alloc (Nat.le_refl _) _
  have HK := keep_new h
  obtain ⟨x, c, rfl, -, -, -⟩ := id ht.elems
  obtain ⟨x', c', rfl, q1, q2, -⟩ := id hc
  unfold maxLen at q2
  obtain ⟨ka, rfl⟩ : ∃ ka : Nat, a = ka := ⟨a.toNat, by omega⟩
  exact fsafe_at w _ p ka x x' c c' rfl (Lib.hid HK) (Lib.hid hwb) (Lib.hid fun w1 => yalive_n w1) (Lib.hid fun w1 h1 hb1 => sound_n _ p w1 _ h1 hs (ht'.below hb1) rfl) (by omega) q1 (Lib.hid fun hsd w1 h1 => yin_n _ p w1 h1 hs (sound_parts hsd).2.2.2.1 (by have := (sound_parts hsd).2.1; omega)) (Lib.hid hs.ins) (by omega) (Lib.hid fun w1 k m h1 hm => yout_n _ p w1 k m h1 hs.ins hm) (Lib.hid fun w1 k h1 => rsafe_n _ p w1 k _ h1 rfl) (Lib.hid fun hsd w1 k h1 => rnext_n _ p w1 k h1 hs (sound_parts hsd).2.2.2.1 (by have := (sound_parts hsd).2.1; omega))
end Go.Proofs.YtfnoldopjnegfaaDoor
