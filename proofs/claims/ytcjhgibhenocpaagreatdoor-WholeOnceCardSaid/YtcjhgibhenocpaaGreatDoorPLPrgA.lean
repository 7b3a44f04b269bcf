/-
  The program's plan: what its functions do, over contracts of what they call.
-/
import Derived.Test.YtcjhgibhenocpaaGreatDoorUBE
import Derived.Deep.CutRange
import Derived.Deep.QuietTactic
namespace Go.Proofs.YtcjhgibhenocpaaGreatDoor
set_option linter.unusedSimpArgs false
set_option linter.unusedVariables false
open Go.RowKit

set_option maxRecDepth 100000 in
theorem plonce_in (w : World) (C : Array Value) (k : Int) (b : Bool) (hC : ∃ x y z u, C = #[x, y, z, u]) (HL : Hid (∀ w1, Below w.heap.size w w1 → Calls Tryz.prog 65 #[.agg C, .int .i64 k] w1 (AggPost w1 (.bool b)))) :
    Calls Tryz.prog 29 #[.agg C, .int .i64 k] w (AggPost w (.bool (!b))) := by
  obtain ⟨x, y, z, u, rfl⟩ := hC
  have KP : Hid (blk (w.alloc (.cells #[x, y, z, u] 25)) w.heap.size #[x, y, z, u] 25) := Lib.hid (blk_new _ _ _)
  have HB : Hid (Below w.heap.size w (w.alloc (.cells #[x, y, z, u] 25))) := Lib.hid ((Below.refl _ _).alloc (Nat.le_refl _) _)
  obtain ⟨W0, hW0⟩ : ∃ W0, W0 = w.alloc (.cells #[x, y, z, u] 25) := ⟨_, rfl⟩
  rw [← hW0] at KP HB
  have hnot : ∀ (x : Bool) (w : World), (Op.unary .not (.bool x)).run Tryz.prog w = .ok (.bool (!x)) w := fun _ _ => rfl
  go_enter Tryz.func29, Tryz.ntmps29
  go_upto_region 1 with (fail)
  rw [← hW0]
  clear hW0
  go_wp2_with (first
    | (refine wpList_loadB rfl 25 _ rfl w.heap.size #[x, y, z, u] rfl 25 KP.out _ Tryz.underlying25 rfl prog_info ?_)
    | (go_at_call 65; refine (HL.out _ HB.out).mono ?_; rintro e w1 ⟨rfl, hb⟩; have HB1 := Lib.hid (HB.out.trans (hb.mono HB.out.size)); clear hb))
  go_ret
  exact ⟨rfl, HB1.out⟩
/-! ### None -/
set_option maxRecDepth 100000 in
set_option maxHeartbeats 4000000 in
theorem plnone_at (w W0 : World) (p : PProg) (vt' : Value) (x' : Option Addr) (k' : Nat)
    (hW0 : W0 = w.alloc (.cells (progC vt' p (.slice x' p.code.length k')) 25)) (HS : Hid (Below w.heap.size w W0)) (KP : Hid (blk W0 w.heap.size (progC vt' p (.slice x' p.code.length k')) 25))
    (hlen : p.code.length ≤ 200) (HC : Hid (∀ w1, Below w.heap.size w w1 → Calls Tryz.prog 9 #[.agg (progC vt' p (.slice x' p.code.length k'))] w1 (ChkPost w1 (-1) 0))) :
    Calls Tryz.prog 27 #[.agg (progC vt' p (.slice x' p.code.length k'))] w (NonePost w p) := by
  have hmk : ∀ w, (Instr.makeSlice 35 (.int .i64 (p.code.length : Int)) (.int .i64 (p.code.length : Int))).run Tryz.prog w = .ok (.slice (some ⟨w.heap.size, 0, none⟩) p.code.length p.code.length) (w.alloc (.cells (factsA (noneL p)) 39)) := fun w => by
    obtain ⟨i, hi, hz, hs, hb⟩ := infoF'
    have hr := run_make (P := Tryz.prog) w 35 39 i _ Tryz.underlying35 hi hz .i64 .i64 p.code.length p.code.length (by omega) (Int.le_refl _) (by rw [hb]; omega) (by omega)
    rw [hs, Int.toNat_natCast] at hr
    have e : noneL p = List.replicate p.code.length noFact := rfl
    rw [hr, e, ← made_none]
    rfl
  go_enter Tryz.func27, Tryz.ntmps27
  go_upto_region 1 with (fail)
  rw [← hW0]
  clear hW0
  go_upto_region 4 with (first
    | (refine wpList_loadB rfl 25 _ rfl w.heap.size (progC vt' p (.slice x' p.code.length k')) rfl 25 KP.out _ Tryz.underlying25 rfl prog_info ?_)
    | (go_at_call 9; refine (HC.out _ HS.out).mono ?_; rintro e w1 ⟨rfl, hb⟩; have HS1 := Lib.hid (HS.out.trans (hb.mono HS.out.size)); have p3 : w1.cell? ⟨w.heap.size, 3, none⟩ = some (.slice x' p.code.length k') := blk_cell (blk_below KP.out hb) 3 _ rfl; clear hb))
  clear HS KP HC
  go_wp2
  go_ret2
  exact ⟨_, rfl, HS1.out.size, blk_new _ _ _, HS1.out.trans (((Below.refl _ _).alloc (Nat.le_refl _) _).mono HS1.out.size)⟩
/-! ### Best -/
theorem bit_and {m a : Nat} (hm : m < 256) : (bits .and .u8 ((m : Int) / 2 ^ a) 1 == 1) = m.testBit a := by
  have h1 : m / 2 ^ a < 256 := Nat.lt_of_le_of_lt (Nat.div_le_self _ _) hm
  have h2 : ((m : Int) / 2 ^ a) = ((m / 2 ^ a : Nat) : Int) := by simp
  rw [h2, show (1 : Int) = ((1 : Nat) : Int) from rfl, (bits_nat .u8 8 (Nat.le_refl _) (fun n h0 h1 => wraps_u8 n h0 h1) (m / 2 ^ a) 1 h1 (by decide)).1, Nat.and_one_is_mod, Nat.testBit_eq_decide_div_mod_eq]
  generalize m / 2 ^ a % 2 = z
  by_cases h : z = 1
  · simp [h]
  · have : ¬ ((z : Int) = ((1 : Nat) : Int)) := by omega
    simp only [h, decide_false]
    simpa using this
set_option maxRecDepth 100000 in
set_option maxHeartbeats 8000000 in
theorem plbest_at (w W0 : World) (p : PProg) (vt' : Value) (bb o k' : Nat)
    (hW0 : W0 = w.alloc (.cells (progC vt' p (.slice (some ⟨bb, o, none⟩) p.code.length k')) 25)) (HS : Hid (Below w.heap.size w W0)) (KP : Hid (blk W0 w.heap.size (progC vt' p (.slice (some ⟨bb, o, none⟩) p.code.length k')) 25))
    (hlen : p.code.length ≤ 200) (g1 : p.code.length ≤ k') (g2 : k' ≤ 9223372036854775807) (hbb : bb < w.heap.size)
    (HCO : Hid (∀ m i, p.code[m]? = some i → w.rangeAt bb (o + m * 5) (insC i).toList)) (HA8 : Hid (∀ i ∈ p.code, i.op = 11 → 0 ≤ i.a ∧ i.a < 8)) (HFL : Hid (∀ k, (freshL p).getD k 0 < 256))
    (HNO : Hid (∀ w1, Below w.heap.size w w1 → Calls Tryz.prog 27 #[.agg (progC vt' p (.slice (some ⟨bb, o, none⟩) p.code.length k'))] w1 (NonePost w1 p)))
    (HIN : Hid (∀ w1, Below w.heap.size w w1 → Calls Tryz.prog 28 #[.agg (progC vt' p (.slice (some ⟨bb, o, none⟩) p.code.length k'))] w1 (U8sPost w1 (freshL p))))
    (HON : Hid (∀ w1 (k : Nat), Below w.heap.size w w1 → k < p.code.length → Calls Tryz.prog 29 #[.agg (progC vt' p (.slice (some ⟨bb, o, none⟩) p.code.length k')), .int .i64 k] w1 (AggPost w1 (.bool (!loopL p k)))))
    (HLK : Hid (∀ w1 (k : Nat), Below w.heap.size w w1 → k < p.code.length → Calls Tryz.prog 30 #[.agg (progC vt' p (.slice (some ⟨bb, o, none⟩) p.code.length k')), .int .i64 k] w1 (AggPost w1 (.bool (leakB p k)))))
    (HFU : Hid (∀ w1 (k : Nat), Below w.heap.size w w1 → k < p.code.length → Calls Tryz.prog 31 #[.agg (progC vt' p (.slice (some ⟨bb, o, none⟩) p.code.length k')), .int .i64 k] w1 (AggPost w1 (.bool (decide (0 ≤ lastL p k)))))) :
    Calls Tryz.prog 10 #[.agg (progC vt' p (.slice (some ⟨bb, o, none⟩) p.code.length k'))] w (OwnBest w p) := by
  have hnot : ∀ (x : Bool) (w : World), (Op.unary .not (.bool x)).run Tryz.prog w = .ok (.bool (!x)) w := fun _ _ => rfl
  go_enter Tryz.func10, Tryz.ntmps10
  go_upto_region 1 with (fail)
  rw [← hW0]
  clear hW0
  go_upto_region 4 with (first
    | (refine wpList_loadB rfl 25 _ rfl w.heap.size (progC vt' p (.slice (some ⟨bb, o, none⟩) p.code.length k')) rfl 25 KP.out _ Tryz.underlying25 rfl prog_info ?_)
    | (go_at_call 27; refine (HNO.out _ HS.out).mono ?_; rintro e w1 ⟨g, rfl, hg, hr, hb⟩; have HS1 := Lib.hid (HS.out.trans (hb.mono HS.out.size)); have KP1 := Lib.hid (blk_below KP.out hb); have HR1 := Lib.hid hr; have HG := Lib.hid (Nat.lt_of_lt_of_le (blk_lt KP.out) hg); clear hb hr hg))
  clear HS KP HNO
  go_upto_region 5 with (first
    | (refine wpList_loadB rfl 25 _ rfl w.heap.size (progC vt' p (.slice (some ⟨bb, o, none⟩) p.code.length k')) rfl 25 KP1.out _ Tryz.underlying25 rfl prog_info ?_)
    | (go_at_call 28; refine (HIN.out _ HS1.out).mono ?_; rintro e w2 ⟨vin, rfl, hin, hb⟩; have HW2 : Hid (BsW w w2 g (progC vt' p (.slice (some ⟨bb, o, none⟩) p.code.length k')) vin p (bestP p 0)) := Lib.hid ⟨HS1.out.trans (hb.mono HS1.out.size), blk_below KP1.out hb, by rw [bestP_0]; exact blk_below HR1.out hb, hin, HG.out⟩; clear hb hin))
  clear HS1 KP1 HR1 HG HIN
  have p3 : w2.cell? ⟨w.heap.size, 3, none⟩ = some (.slice (some ⟨bb, o, none⟩) p.code.length k') := blk_cell HW2.out.prog 3 _ rfl
  obtain ⟨bi, oi, ci, rfl, HIC⟩ : ∃ bi oi ci, vin = .slice (some ⟨bi, oi, none⟩) (p.code.length + 1) ci ∧ Hid (p.code.length + 1 ≤ ci ∧ ci ≤ 9223372036854775807 ∧ ∀ wr l (k : Nat), BsW w wr g (progC vt' p (.slice (some ⟨bb, o, none⟩) p.code.length k')) vin p l → k < p.code.length → wr.cell? ⟨bi, oi + k, none⟩ = some (.int .u8 (((freshL p).getD k 0 : Nat) : Int))) := by
    obtain ⟨a, c, e, h1, h2, h3⟩ := HW2.out.inn
    have hl : (u8s (freshL p)).length = p.code.length + 1 := by rw [List.length_map, fresh_len]
    rw [hl] at e h1
    rcases h3 with h3 | ⟨b1, o1, rfl, _, _⟩
    · rw [h3] at hl; simp at hl
    · subst e
      refine ⟨b1, o1, c, rfl, Lib.hid ⟨h1, by unfold maxLen at h2; omega, fun wr l k hq hk => ?_⟩⟩
      obtain ⟨a', c', e', _, _, h3'⟩ := hq.inn
      simp only [Value.slice.injEq] at e'
      obtain ⟨rfl, -, -⟩ := e'
      rcases h3' with h3' | ⟨b2, o2, e2, _, hcell⟩
      · rw [h3'] at hl; simp at hl
      · cases e2
        exact hcell k _ (u8s_get (by rw [fresh_len]; omega))
  go_wp2_with (fail)
  go_loopw [22] (fun v22 wr => ∃ k : Nat, k ≤ p.code.length ∧ v22 = .int .i64 k ∧ Hid (BsW w wr g (progC vt' p (.slice (some ⟨bb, o, none⟩) p.code.length k')) (.slice (some ⟨bi, oi, none⟩) (p.code.length + 1) ci) p (bestP p k))) (fun v22 _ => p.code.length - (intOf v22).toNat)
  case atStart => exact ⟨0, Nat.zero_le _, rfl, HW2⟩
  case round =>
    obtain ⟨k, hk, rfl, HW⟩ := hrel
    clear HW2
    by_cases hkl : k < p.code.length
    · have hki : (k : Int) < (p.code.length : Int) := by omega
      have hk0 : (0 : Int) ≤ (k : Int) := by omega
      obtain ⟨i, hi⟩ : ∃ i, p.code[k]? = some i := ⟨_, List.getElem?_eq_getElem hkl⟩
      have hr := rangeAt_below (HCO.out k i hi) hbb HW.out.below
      have HLE : Hid ((bestP p k).length = p.code.length) := Lib.hid bestP_len
      have HHE : Hid ((bestP p k)[k]? = some noFact) := Lib.hid (bestP_here hkl)
      have HNX : Hid (∀ f, bestK p k = f → (bestP p k).set k f = bestP p (k + 1)) := Lib.hid fun f hf => bestP_set hkl hf
      have HSK : Hid (bestK p k = noFact → bestP p k = bestP p (k + 1)) := Lib.hid fun hf => bestP_skip hkl hf
      have hm := List.mem_of_getElem? hi
      have HA : Hid (i.op = 11 → 0 ≤ i.a ∧ i.a < 8) := Lib.hid (HA8.out i hm)
      have HK0 : Hid (i.op ≠ 5 → i.op ≠ 11 → bestK p k = noFact) := Lib.hid (bestK_no hi)
      have HK5 : Hid (i.op = 5 → bestK p k = putF (putF noFact 0 (!loopL p k && !leakB p k)) 1 (decide (0 ≤ lastL p k))) := Lib.hid (bestK_5 hi)
      have HK11 : Hid (i.op = 11 → bestK p k = putF noFact 2 (((freshL p).getD k 0).testBit i.a.toNat)) := Lib.hid (bestK_11 hi)
      have hz := HFL.out k
      have HZ : Hid (∀ w' l, BsW w w' g (progC vt' p (.slice (some ⟨bb, o, none⟩) p.code.length k')) (.slice (some ⟨bi, oi, none⟩) (p.code.length + 1) ci) p l → w'.cell? ⟨bi, oi + k, none⟩ = some (.int .u8 (((freshL p).getD k 0 : Nat) : Int))) := Lib.hid fun w' l hq => HIC.out.2.2 w' l k hq hkl
      have hci := HIC.out.1
      obtain ⟨z, hzz⟩ : ∃ z, z = (freshL p).getD k 0 := ⟨_, rfl⟩
      rw [← hzz] at hz HZ HK11
      clear hzz
      obtain ⟨op, ia, b, c, nn⟩ := i
      obtain ⟨d0, d1, d2, d3, d4⟩ : (wr.cell? ⟨bb, o + k * 5, none⟩ = some (.int .u8 op)) ∧ wr.cell? ⟨bb, o + k * 5 + 1, none⟩ = some (.int .u8 ia) ∧ wr.cell? ⟨bb, o + k * 5 + 2, none⟩ = some (.int .u8 b) ∧ wr.cell? ⟨bb, o + k * 5 + 3, none⟩ = some (.int .u8 c) ∧ wr.cell? ⟨bb, o + k * 5 + 4, none⟩ = some (.int .i64 nn) := ⟨hr 0 _ rfl, hr 1 _ rfl, hr 2 _ rfl, hr 3 _ rfl, hr 4 _ rfl⟩
      dsimp only at HA HK0 HK5 HK11
      clear hr hi hm
      generalize hLL : bestP p k = L at HW HLE HHE HNX HSK
      clear hLL
      go_upto_region 8 with (fail)
      have HW8 : Hid (BsW w (wr.alloc (.cells #[.int .u8 op, .int .u8 ia, .int .u8 b, .int .u8 c, .int .i64 nn] 60)) g (progC vt' p (.slice (some ⟨bb, o, none⟩) p.code.length k')) (.slice (some ⟨bi, oi, none⟩) (p.code.length + 1) ci) p L) := Lib.hid (HW.out.next ((Below.refl _ _).alloc (Nat.le_refl _) _))
      have HKI : Hid (blk (wr.alloc (.cells #[.int .u8 op, .int .u8 ia, .int .u8 b, .int .u8 c, .int .i64 nn] 60)) wr.heap.size #[.int .u8 op, .int .u8 ia, .int .u8 b, .int .u8 c, .int .i64 nn] 60) := Lib.hid (blk_new _ _ _)
      obtain ⟨N8, hN8⟩ : ∃ N8, N8 = wr.heap.size := ⟨_, rfl⟩
      obtain ⟨W8, hW8⟩ : ∃ W8, W8 = wr.alloc (.cells #[.int .u8 op, .int .u8 ia, .int .u8 b, .int .u8 c, .int .i64 nn] 60) := ⟨_, rfl⟩
      rw [← hW8] at HW8 HKI ⊢
      rw [← hN8] at HKI ⊢
      have i0 : W8.cell? ⟨N8, 0, none⟩ = some (.int .u8 op) := blk_cell HKI.out 0 _ rfl
      have i1 : W8.cell? ⟨N8, 1, none⟩ = some (.int .u8 ia) := blk_cell HKI.out 1 _ rfl
      clear hW8 hN8 d0 d1 d2 d3 d4 HW HKI
      by_cases h5 : op = 5
      · subst h5
        have HKL := Lib.hid (HK5.out rfl)
        have HL1 := Lib.hid fun w1 hb => HLK.out w1 k hb hkl
        have HF1 := Lib.hid fun w1 hb => HFU.out w1 k hb hkl
        have HO1 := Lib.hid fun w1 hb => HON.out w1 k hb hkl
        generalize loopL p k = lo at HKL HO1
        generalize leakB p k = le at HKL HL1
        generalize decide (0 ≤ lastL p k) = fu at HKL HF1
        clear HA HK0 HK5 HK11 HSK HZ hz i1
        rcases lo with _ | _
        · go_upto_region 11 with (first
            | (refine wpList_loadB rfl 25 _ rfl w.heap.size (progC vt' p (.slice (some ⟨bb, o, none⟩) p.code.length k')) rfl 25 HW8.out.prog _ Tryz.underlying25 rfl prog_info ?_)
            | (refine wpList_loadBw (by rfl) 25 _ rfl w.heap.size (progC vt' p (.slice (some ⟨bb, o, none⟩) p.code.length k')) rfl 25 HW9.out.prog _ Tryz.underlying25 rfl prog_info ?_)
            | (go_at_call 29; refine (HO1.out _ HW8.out.below).mono ?_; rintro e w9 ⟨rfl, hb⟩; have HW9 := Lib.hid (HW8.out.next hb); clear hb i0)
            | (go_at_call 30; refine (HL1.out _ HW9.out.below).mono ?_; rintro e w10 ⟨rfl, hb⟩; have HW10 := Lib.hid (HW9.out.next hb); obtain ⟨q0, q1, q2, qf⟩ := HW10.out.cell HHE.out; clear hb))
          clear q0 q1 q2 qf HL1 HO1
          have HX : Hid (BsW w (w10.setCell ⟨g, k * 3, none⟩ (.bool (!le))) g (progC vt' p (.slice (some ⟨bb, o, none⟩) p.code.length k')) (.slice (some ⟨bi, oi, none⟩) (p.code.length + 1) ci) p (L.set k (putF noFact 0 (!le)))) := Lib.hid (HW10.out.put (t := 0) _ HHE.out (by decide))
          have HE1 : Hid ((L.set k (putF noFact 0 (!le)))[k]? = some (putF noFact 0 (!le))) := Lib.hid (by rw [List.getElem?_set, if_pos rfl, if_pos (by rw [HLE.out]; exact hkl)])
          have HN1 : Hid (∀ f, bestK p k = f → (L.set k (putF noFact 0 (!le))).set k f = bestP p (k + 1)) := Lib.hid fun f hf => by rw [List.set_set]; exact HNX.out f hf
          have HK1 : Hid (bestK p k = putF (putF noFact 0 (!le)) 1 fu) := Lib.hid HKL.out
          clear HHE HNX HLE HKL
          obtain ⟨L1, hL1⟩ : ∃ L1, L1 = L.set k (putF noFact 0 (!le)) := ⟨_, rfl⟩
          obtain ⟨f1, hf1⟩ : ∃ f1, f1 = putF noFact 0 (!le) := ⟨_, rfl⟩
          rw [← hL1] at HX HE1 HN1
          rw [← hf1] at HE1 HK1
          obtain ⟨W11, hW11⟩ : ∃ W11, W11 = w10.setCell ⟨g, k * 3, none⟩ (.bool (!le)) := ⟨_, rfl⟩
          rw [← hW11] at HX ⊢
          clear hL1 hf1 hW11
          go_wp2_with (first
            | (refine wpList_loadB rfl 25 _ rfl w.heap.size (progC vt' p (.slice (some ⟨bb, o, none⟩) p.code.length k')) rfl 25 HX.out.prog _ Tryz.underlying25 rfl prog_info ?_)
            | (go_at_call 31; refine (HF1.out _ HX.out.below).mono ?_; rintro e w12 ⟨rfl, hb⟩; have HW12 := Lib.hid (HX.out.next hb); obtain ⟨q0, q1, q2, qf⟩ := HW12.out.cell HE1.out; clear hb))
          have HZZ : Hid (BsW w (w12.setCell ⟨g, k * 3 + 1, none⟩ (.bool fu)) g (progC vt' p (.slice (some ⟨bb, o, none⟩) p.code.length k')) (.slice (some ⟨bi, oi, none⟩) (p.code.length + 1) ci) p (bestP p (k + 1))) := Lib.hid (by
            rw [← HN1.out _ HK1.out]
            exact HW12.out.put (t := 1) _ HE1.out (by decide))
          clear q0 q1 q2 qf HX HE1 HN1 HK1 HW12
          go_roundw
          case rel => exact ⟨k + 1, by omega, by go_num, HZZ⟩
          case measure => simp [intOf]; omega
        · go_upto_region 11 with (first
            | (refine wpList_loadB rfl 25 _ rfl w.heap.size (progC vt' p (.slice (some ⟨bb, o, none⟩) p.code.length k')) rfl 25 HW8.out.prog _ Tryz.underlying25 rfl prog_info ?_)
            | (go_at_call 29; refine (HO1.out _ HW8.out.below).mono ?_; rintro e w10 ⟨rfl, hb⟩; have HW10 := Lib.hid (HW8.out.next hb); obtain ⟨q0, q1, q2, qf⟩ := HW10.out.cell HHE.out; clear hb i0))
          clear q0 q1 q2 qf HL1 HO1
          have HX : Hid (BsW w (w10.setCell ⟨g, k * 3, none⟩ (.bool false)) g (progC vt' p (.slice (some ⟨bb, o, none⟩) p.code.length k')) (.slice (some ⟨bi, oi, none⟩) (p.code.length + 1) ci) p (L.set k (putF noFact 0 false))) := Lib.hid (HW10.out.put (t := 0) _ HHE.out (by decide))
          have HE1 : Hid ((L.set k (putF noFact 0 false))[k]? = some (putF noFact 0 false)) := Lib.hid (by rw [List.getElem?_set, if_pos rfl, if_pos (by rw [HLE.out]; exact hkl)])
          have HN1 : Hid (∀ f, bestK p k = f → (L.set k (putF noFact 0 false)).set k f = bestP p (k + 1)) := Lib.hid fun f hf => by rw [List.set_set]; exact HNX.out f hf
          have HK1 : Hid (bestK p k = putF (putF noFact 0 false) 1 fu) := Lib.hid HKL.out
          clear HHE HNX HLE HKL
          obtain ⟨L1, hL1⟩ : ∃ L1, L1 = L.set k (putF noFact 0 false) := ⟨_, rfl⟩
          obtain ⟨f1, hf1⟩ : ∃ f1, f1 = putF noFact 0 false := ⟨_, rfl⟩
          rw [← hL1] at HX HE1 HN1
          rw [← hf1] at HE1 HK1
          obtain ⟨W11, hW11⟩ : ∃ W11, W11 = w10.setCell ⟨g, k * 3, none⟩ (.bool false) := ⟨_, rfl⟩
          rw [← hW11] at HX ⊢
          clear hL1 hf1 hW11
          go_wp2_with (first
            | (refine wpList_loadB rfl 25 _ rfl w.heap.size (progC vt' p (.slice (some ⟨bb, o, none⟩) p.code.length k')) rfl 25 HX.out.prog _ Tryz.underlying25 rfl prog_info ?_)
            | (go_at_call 31; refine (HF1.out _ HX.out.below).mono ?_; rintro e w12 ⟨rfl, hb⟩; have HW12 := Lib.hid (HX.out.next hb); obtain ⟨q0, q1, q2, qf⟩ := HW12.out.cell HE1.out; clear hb))
          have HZZ : Hid (BsW w (w12.setCell ⟨g, k * 3 + 1, none⟩ (.bool fu)) g (progC vt' p (.slice (some ⟨bb, o, none⟩) p.code.length k')) (.slice (some ⟨bi, oi, none⟩) (p.code.length + 1) ci) p (bestP p (k + 1))) := Lib.hid (by
            rw [← HN1.out _ HK1.out]
            exact HW12.out.put (t := 1) _ HE1.out (by decide))
          clear q0 q1 q2 qf HX HE1 HN1 HK1 HW12
          go_roundw
          case rel => exact ⟨k + 1, by omega, by go_num, HZZ⟩
          case measure => simp [intOf]; omega
      · by_cases h11 : op = 11
        · subst h11
          have HKL := Lib.hid (HK11.out rfl)
          obtain ⟨a0, a8⟩ := HA.out rfl
          obtain ⟨x, hx⟩ : ∃ x : Nat, ia = x := ⟨ia.toNat, by omega⟩
          subst hx
          have hx8 : x < 8 := by omega
          have hx7 : (x : Int) ≤ 7 := by omega
          have hki2 : (k : Int) < (p.code.length : Int) + 1 := by omega
          have cz := HZ.out _ _ HW8.out
          obtain ⟨q0, q1, q2, qf⟩ := HW8.out.cell HHE.out
          clear HA HK0 HK5 HK11 HSK HZ HON HLK HFU
          go_upto_region 13 with (fail)
          refine wp_region_still_tail 13 (by kernel_rfl) (by kernel_rfl) ?_
          simp only [List.take_succ_cons, List.take_zero, List.drop_succ_cons, List.drop_zero]
          change wpStill _ _ W8.drew (fun a' => wpList _ _ _ _ a' W8.drew) _ _
          repeat still_step
          refine wpStill_nil ?_
          have HZ3 : Hid (BsW w (W8.drew.setCell ⟨g, k * 3 + 2, none⟩ (.bool (bits .and .u8 ((z : Int) / 2 ^ x) 1 == 1))) g (progC vt' p (.slice (some ⟨bb, o, none⟩) p.code.length k')) (.slice (some ⟨bi, oi, none⟩) (p.code.length + 1) ci) p (bestP p (k + 1))) := Lib.hid (by
            rw [bit_and hz, ← HNX.out _ HKL.out]
            exact (HW8.out.next (Below.refl _ _).drew).put (t := 2) _ HHE.out (by decide))
          clear HKL HNX HHE HLE HW8
          go_wp2
          go_roundw
          case rel => exact ⟨k + 1, by omega, by go_num, HZ3⟩
          case measure => simp [intOf]; omega
        · have HKL := Lib.hid (HK0.out h5 h11)
          have HSK2 := Lib.hid (HSK.out HKL.out)
          have HW9 : Hid (BsW w W8 g (progC vt' p (.slice (some ⟨bb, o, none⟩) p.code.length k')) (.slice (some ⟨bi, oi, none⟩) (p.code.length + 1) ci) p (bestP p (k + 1))) := Lib.hid (by rw [← HSK2.out]; exact HW8.out)
          clear HA HK0 HK5 HK11 HSK HZ HON HLK HFU HW8 HHE HLE HNX HKL HSK2
          go_wp2
          go_roundw
          case rel => exact ⟨k + 1, by omega, by go_num, HW9⟩
          case measure => simp [intOf]; omega
    · have hke : k = p.code.length := by omega
      have hkn : ¬ ((k : Int) < (p.code.length : Int)) := by omega
      have HE : Hid (blk wr g (factsA (bestL p)) 39) := Lib.hid (by
        have h9 := HW.out.row
        rw [hke, bestP_all] at h9
        exact h9)
      clear hke
      go_wp2
      go_ret2
      exact ⟨_, rfl, HW.out.hg, HE.out, HW.out.below⟩
end Go.Proofs.YtcjhgibhenocpaaGreatDoor
