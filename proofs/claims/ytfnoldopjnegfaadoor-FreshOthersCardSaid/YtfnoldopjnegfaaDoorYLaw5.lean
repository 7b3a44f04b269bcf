/-
  FreshOthers: the walk.
-/
import Derived.Test.YtfnoldopjnegfaaDoorYIns
import Derived.Deep.LoopGhost
import Derived.Deep.RegionHeld3
import Derived.Deep.CutRange
import Derived.Deep.CutBlock
import Derived.Deep.QuietTactic
namespace Go.Proofs.YtfnoldopjnegfaaDoor
set_option linter.unusedSimpArgs false
set_option linter.unusedVariables false
open Go.RowKit

set_option maxRecDepth 100000 in
set_option maxHeartbeats 8000000 in
theorem foth_at (w W0 : World) (p : PProg) (a0 v0 : Nat) (x x' : Option Addr) (kx kx' : Nat)
    (hW0 : W0 = w.alloc (.cells (progC (.slice x p.types.length kx) p (.slice x' p.code.length kx')) 25)) (KP : Hid (Keep W0 w.heap.size (.slice x p.types.length kx) (.slice x' p.code.length kx') p)) (HB : Hid (Below w.heap.size w W0))
    (HAL : Hid (∀ w1, Calls Tryd.prog 10 #[] w1 (AggPost w1 (.bool true))))
    (HSO : Hid (∀ w1, ProgAt w1 (.agg (progC (.slice x p.types.length kx) p (.slice x' p.code.length kx'))) p → Below w.heap.size w w1 → Calls Tryd.prog 11 #[.agg (progC (.slice x p.types.length kx) p (.slice x' p.code.length kx'))] w1 (AggPost w1 (.bool (soundB p)))))
    (g2 : kx' ≤ 9223372036854775807) (g1 : p.code.length ≤ kx') (hok : Hid (∀ i ∈ p.code, OkI i)) (ha0 : a0 ≤ 255) (hv0 : v0 < 256)
    (HOU : Hid (∀ (w1 : World) (k : Int) (m : Nat), ProgAt w1 (.agg (progC (.slice x p.types.length kx) p (.slice x' p.code.length kx'))) p → m < 256 → Calls Tryd.prog 14 #[.agg #[.slice x p.types.length kx, str p.locals, str p.globs, .slice x' p.code.length kx'], .int .i64 k, .int .u8 (m : Int)] w1 (AggPost w1 (.int .u8 ((outV p k m : Nat) : Int)))))
    (HSA : Hid (∀ (w1 : World) (k : Int), ProgAt w1 (.agg (progC (.slice x p.types.length kx) p (.slice x' p.code.length kx'))) p → Calls Tryd.prog 16 #[.agg #[.slice x p.types.length kx, str p.locals, str p.globs, .slice x' p.code.length kx'], .int .i64 k] w1 (AggPost w1 (.bool (safeV p k))))) :
    Calls Tryd.prog 8 #[.agg (progC (.slice x p.types.length kx) p (.slice x' p.code.length kx')), .int .u8 a0, .int .u8 (v0 : Int)] w (AggPost w (.bool true)) := by
  go_enter Tryd.func8, Tryd.ntmps8
  go_upto_region 1 with (fail)
  rw [← hW0]
  clear hW0
  rcases hsd : soundB p with _ | _
  · rw [hsd] at HSO
    go_wp2_with (first
      | (refine wpList_loadB rfl 25 _ rfl w.heap.size (progC (.slice x p.types.length kx) p (.slice x' p.code.length kx')) rfl 25 KP.out.blk _ Tryd.underlying25 rfl prog_info ?_)
      | (go_at_call 10; ((with_reducible refine (HAL.out _).mono ?_); rintro e w1 ⟨rfl, hb⟩; have KP := Lib.hid (KP.out.below hb); have HB := Lib.hid (HB.out.trans (hb.mono HB.out.size)); clear hb))
      | (go_at_call 11; ((with_reducible refine (HSO.out _ KP.out.at' HB.out).mono ?_); rintro e w2 ⟨rfl, hb⟩; have KP := Lib.hid (KP.out.below hb); have HB := Lib.hid (HB.out.trans (hb.mono HB.out.size)); clear hb)))
    go_ret
    exact ⟨rfl, HB.out⟩
  obtain ⟨hfw, hl60, hck, hin0, hl1⟩ := sound_parts hsd
  have HCK := Lib.hid hck
  rw [hsd] at HSO
  clear hin0 hck hsd
  go_upto_region 5 with (first
    | (refine wpList_loadB rfl 25 _ rfl w.heap.size (progC (.slice x p.types.length kx) p (.slice x' p.code.length kx')) rfl 25 KP.out.blk _ Tryd.underlying25 rfl prog_info ?_)
    | (go_at_call 10; ((with_reducible refine (HAL.out _).mono ?_); rintro e w1 ⟨rfl, hb⟩; have KP := Lib.hid (KP.out.below hb); have HB := Lib.hid (HB.out.trans (hb.mono HB.out.size)); clear hb))
    | (go_at_call 11; ((with_reducible refine (HSO.out _ KP.out.at' HB.out).mono ?_); rintro e w2 ⟨rfl, hb⟩; have KP := Lib.hid (KP.out.below hb); have HB := Lib.hid (HB.out.trans (hb.mono HB.out.size)); clear hb)))
  clear HSO HAL
  have hz : ((p.code.length : Int) == 0) = false := by simp; intro h; rw [h] at hl1; simp at hl1
  have hz' : ¬ ((p.code.length : Int) = 0) := by omega
  have p3 := KP.out.cells.2.2.2
  go_upto_region 6 with (fail)
  obtain ⟨m, hm, hmm⟩ : ∃ m : Nat, m < p.code.length ∧ (a0 : Int) % (p.code.length : Int) = m := ⟨a0 % p.code.length, Nat.mod_lt a0 (by omega), rfl⟩
  rw [hmm]
  clear hmm hz hz'
  obtain ⟨i, hi⟩ : ∃ i, p.code[m]? = some i := ⟨_, List.getElem?_eq_getElem hm⟩
  have hmi : (m : Int) < (p.code.length : Int) := by omega
  have hm0 : (0 : Int) ≤ (m : Int) := by omega
  have hsv : safeV p (m : Int) = safeL p m := by unfold safeV; simp
  have hmem := List.mem_of_getElem? hi
  have hoki := hok.out i hmem
  have HSL : Hid (i.op = 5 ∨ i.op = 6 ∨ i.op = 7 ∨ i.op = 10 ∨ i.op = 12 → i.a ≤ 7) := Lib.hid fun h => sets_local HCK.out hok.out hmem h
  have HML : Hid (i.op = 7 → i.b ≤ 7) := Lib.hid fun h => move_local HCK.out hok.out hmem h
  have HII := Lib.hid hi
  have HS1 : Hid (∀ w1, ProgAt w1 (.agg (progC (.slice x p.types.length kx) p (.slice x' p.code.length kx'))) p → Calls Tryd.prog 16 #[.agg #[.slice x p.types.length kx, str p.locals, str p.globs, .slice x' p.code.length kx'], .int .i64 m] w1 (AggPost w1 (.bool (safeL p m)))) := Lib.hid fun w1 h1 => by rw [← hsv]; exact HSA.out w1 m h1
  have HO1 : Hid (∀ w1, ProgAt w1 (.agg (progC (.slice x p.types.length kx) p (.slice x' p.code.length kx'))) p → Calls Tryd.prog 14 #[.agg #[.slice x p.types.length kx, str p.locals, str p.globs, .slice x' p.code.length kx'], .int .i64 m, .int .u8 (v0 : Int)] w1 (AggPost w1 (.int .u8 ((outN p m v0 : Nat) : Int)))) := Lib.hid fun w1 h1 => by rw [← outV_nat hm]; exact HOU.out w1 m v0 h1 hv0
  have hrl := outN_lt (q := p) (k := m) hv0
  obtain ⟨bb, o, rfl, hbb, hrg⟩ := prog_ins KP.out.at' hi
  obtain ⟨op, a, b, c, n⟩ := i
  obtain ⟨d0, d1, d2, d3, d4⟩ : (w2.cell? ⟨bb, o + m * 5, none⟩ = some (.int .u8 op)) ∧ w2.cell? ⟨bb, o + m * 5 + 1, none⟩ = some (.int .u8 a) ∧ w2.cell? ⟨bb, o + m * 5 + 2, none⟩ = some (.int .u8 b) ∧ w2.cell? ⟨bb, o + m * 5 + 3, none⟩ = some (.int .u8 c) ∧ w2.cell? ⟨bb, o + m * 5 + 4, none⟩ = some (.int .i64 n) := ⟨hrg 0 _ rfl, hrg 1 _ rfl, hrg 2 _ rfl, hrg 3 _ rfl, hrg 4 _ rfl⟩
  clear hrg hsv HSA HOU hi hmem
  obtain ⟨o0, o1, a0', a1', b0', b1', -, -, -, -⟩ := hoki
  simp only at a0' a1' b0' b1' HSL HML
  obtain ⟨aN, rfl⟩ : ∃ aN : Nat, a = aN := ⟨a.toNat, by omega⟩
  obtain ⟨bN, rfl⟩ : ∃ bN : Nat, b = bN := ⟨b.toNat, by omega⟩
  go_upto_region 7 with (fail)
  have hab : Below w2.heap.size w2 (w2.alloc (.cells (insC ⟨op, aN, bN, c, n⟩) 47)) := (Below.refl _ _).alloc (Nat.le_refl _) _
  have HF : Hid (InsK w (w2.alloc (.cells (insC ⟨op, aN, bN, c, n⟩) 47)) w2.heap.size x (some ⟨bb, o, none⟩) kx kx' p op aN bN c n) := Lib.hid ⟨KP.out.below hab, HB.out.trans (hab.mono HB.out.size), blk_new _ _ _⟩
  obtain ⟨I, hI⟩ : ∃ I, I = w2.heap.size := ⟨_, rfl⟩
  obtain ⟨wa, hwa⟩ : ∃ wa, wa = w2.alloc (.cells (insC ⟨op, aN, bN, c, n⟩) 47) := ⟨_, rfl⟩
  rw [← hwa] at HF ⊢
  rw [← hI] at HF ⊢
  clear hab hwa hI d0 d1 d2 d3 d4 p3 KP HB
  have c0 : wa.cell? ⟨I, 0, none⟩ = some (.int .u8 op) := blk_cell HF.out.ins 0 _ rfl
  have c1 : wa.cell? ⟨I, 1, none⟩ = some (.int .u8 (aN : Int)) := blk_cell HF.out.ins 1 _ rfl
  have c2 : wa.cell? ⟨I, 2, none⟩ = some (.int .u8 (bN : Int)) := blk_cell HF.out.ins 2 _ rfl
  have HE := Lib.hid (shl_bit a0')
  go_upto_block 0 with (fail)
  go_cut [9] from 11 (fun v9 wx => v9 = .int .u8 ((setsN ⟨op, aN, bN, c, n⟩ : Nat) : Int) ∧ wx = wa)
  case first =>
    by_cases h5 : op = 5
    · have qq : (op == 5) = true := by simpa using h5
      have HW : Hid (setsN ⟨op, aN, bN, c, n⟩ = bitN aN) := Lib.hid (sets_bit (i := ⟨op, aN, bN, c, n⟩) (by simp only; omega))
      clear h5
      go_wp2
      go_meet
      exact ⟨by rw [HW.out]; exact congrArg (fun z => Value.int .u8 z) HE.out, rfl⟩
    have q5 : (op == 5) = false := by simpa using h5
    by_cases h6 : op = 6
    · have qq : (op == 6) = true := by simpa using h6
      have HW : Hid (setsN ⟨op, aN, bN, c, n⟩ = bitN aN) := Lib.hid (sets_bit (i := ⟨op, aN, bN, c, n⟩) (by simp only; omega))
      clear h6
      go_wp2
      go_meet
      exact ⟨by rw [HW.out]; exact congrArg (fun z => Value.int .u8 z) HE.out, rfl⟩
    have q6 : (op == 6) = false := by simpa using h6
    by_cases h7 : op = 7
    · have qq : (op == 7) = true := by simpa using h7
      have HW : Hid (setsN ⟨op, aN, bN, c, n⟩ = bitN aN) := Lib.hid (sets_bit (i := ⟨op, aN, bN, c, n⟩) (by simp only; omega))
      clear h7
      go_wp2
      go_meet
      exact ⟨by rw [HW.out]; exact congrArg (fun z => Value.int .u8 z) HE.out, rfl⟩
    have q7 : (op == 7) = false := by simpa using h7
    by_cases h10 : op = 10
    · have qq : (op == 10) = true := by simpa using h10
      have HW : Hid (setsN ⟨op, aN, bN, c, n⟩ = bitN aN) := Lib.hid (sets_bit (i := ⟨op, aN, bN, c, n⟩) (by simp only; omega))
      clear h10
      go_wp2
      go_meet
      exact ⟨by rw [HW.out]; exact congrArg (fun z => Value.int .u8 z) HE.out, rfl⟩
    have q10 : (op == 10) = false := by simpa using h10
    by_cases h12 : op = 12
    · have qq : (op == 12) = true := by simpa using h12
      have HW : Hid (setsN ⟨op, aN, bN, c, n⟩ = bitN aN) := Lib.hid (sets_bit (i := ⟨op, aN, bN, c, n⟩) (by simp only; omega))
      clear h12
      go_wp2
      go_meet
      exact ⟨by rw [HW.out]; exact congrArg (fun z => Value.int .u8 z) HE.out, rfl⟩
    have q12 : (op == 12) = false := by simpa using h12
    have HW : Hid (setsN ⟨op, aN, bN, c, n⟩ = 0) := Lib.hid (by unfold setsN; rw [if_neg (by simp only; omega)])
    clear h5 h6 h7 h10 h12
    go_wp2
    go_meet
    exact ⟨by rw [HW.out]; rfl, rfl⟩
  case rest =>
    obtain ⟨rfl, hwx⟩ := hcut
    subst hwx
    clear HE
    have hsl := sets_lt ⟨op, aN, bN, c, n⟩
    have HOT : Hid (safeL p m = false → butN (outN p m v0) (setsN ⟨op, aN, bN, c, n⟩) = butN v0 (setsN ⟨op, aN, bN, c, n⟩)) := Lib.hid fun h => outN_others HII.out h
    have HMV : Hid (op = 7 → aN ≤ 7 ∧ bN ≤ 7 ∧ (outN p m v0).testBit aN = v0.testBit bN) := Lib.hid fun h => by
      have h1 := HSL.out (by omega)
      have h2 := HML.out h
      refine ⟨by omega, by omega, ?_⟩
      have h3 := outN_move (m := v0) HII.out h h1 h2
      simpa using h3
    have HSF : Hid (safeL p m = true → op ≠ 7) := Lib.hid fun h e => by
      have := safe_ops HII.out (show op ≠ 3 ∧ op ≠ 4 ∧ op ≠ 5 by omega)
      rw [this] at h; cases h
    generalize setsN ⟨op, aN, bN, c, n⟩ = sN at hsl HOT ⊢
    generalize outN p m v0 = r at HO1 hrl HOT HMV
    clear HSL HML HII c0 c1 c2
    go_upto_region 16 with (first
      | (refine wpList_loadB rfl 25 _ rfl w.heap.size (progC (.slice x p.types.length kx) p (.slice (some ⟨bb, o, none⟩) p.code.length kx')) rfl 25 HF.out.keep.blk _ Tryd.underlying25 rfl prog_info ?_)
      | (go_at_call 14; ((with_reducible refine (HO1.out _ HF.out.keep.at').mono ?_); rintro e wq ⟨rfl, hb⟩; have HF := Lib.hid (HF.out.next hb); clear hb)))
    have c0 : wq.cell? ⟨I, 0, none⟩ = some (.int .u8 op) := blk_cell HF.out.ins 0 _ rfl
    have c1 : wq.cell? ⟨I, 1, none⟩ = some (.int .u8 (aN : Int)) := blk_cell HF.out.ins 1 _ rfl
    have c2 : wq.cell? ⟨I, 2, none⟩ = some (.int .u8 (bN : Int)) := blk_cell HF.out.ins 2 _ rfl
    rcases hsf : safeL p m with _ | _
    · have hbt := HOT.out hsf
      have e1 : (bits .andNot .u8 (r : Int) (sN : Int) == bits .andNot .u8 (v0 : Int) (sN : Int)) = true := by rw [but_u8 hrl hsl, but_u8 hv0 hsl, hbt]; simp
      rw [hsf] at HS1
      by_cases h7 : op = 7
      · obtain ⟨ha7, hb7, hbb2⟩ := HMV.out h7
        have q7 : (op != 7) = false := by simpa using h7
        have m1 : min aN 8 = aN := by omega
        have m2 : min bN 8 = bN := by omega
        have e2 : (((r : Int) / 2 ^ aN).tmod 2 == ((v0 : Int) / 2 ^ bN).tmod 2) = true := by rw [shr_tmod, shr_tmod, hbb2]; simp
        clear hbt hsf h7 hbb2 HOT HMV HSF HO1
        go_wp2_with (first
          | (refine wpList_loadB rfl 25 _ rfl w.heap.size (progC (.slice x p.types.length kx) p (.slice (some ⟨bb, o, none⟩) p.code.length kx')) rfl 25 HF.out.keep.blk _ Tryd.underlying25 rfl prog_info ?_)
          | (refine wpList_loadBw (by rfl) 25 _ rfl w.heap.size (progC (.slice x p.types.length kx) p (.slice (some ⟨bb, o, none⟩) p.code.length kx')) rfl 25 HF.out.keep.blk _ Tryd.underlying25 rfl prog_info ?_)
          | (go_at_call 16; ((with_reducible refine (HS1.out _ HF.out.keep.at').mono ?_); rintro e wz ⟨rfl, hb⟩; have HF := Lib.hid (HF.out.next hb); clear hb c0 c1 c2; have c0 := blk_cell HF.out.ins 0 _ rfl; have c1 := blk_cell HF.out.ins 1 _ rfl; have c2 := blk_cell HF.out.ins 2 _ rfl)))
        go_ret
        exact ⟨rfl, HF.out.below⟩
      · have q7 : (op != 7) = true := by simpa using h7
        clear hbt hsf h7 HOT HMV HSF HO1
        go_wp2_with (first
          | (refine wpList_loadB rfl 25 _ rfl w.heap.size (progC (.slice x p.types.length kx) p (.slice (some ⟨bb, o, none⟩) p.code.length kx')) rfl 25 HF.out.keep.blk _ Tryd.underlying25 rfl prog_info ?_)
          | (refine wpList_loadBw (by rfl) 25 _ rfl w.heap.size (progC (.slice x p.types.length kx) p (.slice (some ⟨bb, o, none⟩) p.code.length kx')) rfl 25 HF.out.keep.blk _ Tryd.underlying25 rfl prog_info ?_)
          | (go_at_call 16; ((with_reducible refine (HS1.out _ HF.out.keep.at').mono ?_); rintro e wz ⟨rfl, hb⟩; have HF := Lib.hid (HF.out.next hb); clear hb c0 c1 c2; have c0 := blk_cell HF.out.ins 0 _ rfl; have c1 := blk_cell HF.out.ins 1 _ rfl; have c2 := blk_cell HF.out.ins 2 _ rfl)))
        go_ret
        exact ⟨rfl, HF.out.below⟩
    · have h7 := HSF.out hsf
      have q7 : (op != 7) = true := by simpa using h7
      rw [hsf] at HS1
      clear hsf h7 HOT HMV HSF HO1
      go_wp2_with (first
        | (refine wpList_loadB rfl 25 _ rfl w.heap.size (progC (.slice x p.types.length kx) p (.slice (some ⟨bb, o, none⟩) p.code.length kx')) rfl 25 HF.out.keep.blk _ Tryd.underlying25 rfl prog_info ?_)
        | (refine wpList_loadBw (by rfl) 25 _ rfl w.heap.size (progC (.slice x p.types.length kx) p (.slice (some ⟨bb, o, none⟩) p.code.length kx')) rfl 25 HF.out.keep.blk _ Tryd.underlying25 rfl prog_info ?_)
        | (go_at_call 16; ((with_reducible refine (HS1.out _ HF.out.keep.at').mono ?_); rintro e wz ⟨rfl, hb⟩; have HF := Lib.hid (HF.out.next hb); clear hb c0 c1 c2; have c0 := blk_cell HF.out.ins 0 _ rfl; have c1 := blk_cell HF.out.ins 1 _ rfl; have c2 := blk_cell HF.out.ins 2 _ rfl)))
      go_ret
      exact ⟨rfl, HF.out.below⟩
theorem foth_walk (v : Value) (p : PProg) (a b : Int) (w : World) (h : ProgAt w v p) (hs : OkP p) (ha0 : 0 ≤ a) (ha : a ≤ 255) (hb0 : 0 ≤ b) (hb : b ≤ 255) (ht' : HasT w) : Calls Tryd.prog 8 #[v, .int .u8 a, .int .u8 b] w fun e w' => e = .returned (.bool true) ∧ Below w.heap.size w w' := by
  obtain ⟨vt, vc, rfl, ht, hc⟩ := id h
  have hwb : Below w.heap.size w (w.alloc (.cells (progC vt p vc) 25)) := (Below.refl _ _).alloc (Nat.le_refl _) _
  have HK := keep_new h
  obtain ⟨x, c, rfl, -, -, -⟩ := id ht.elems
  obtain ⟨x', c', rfl, q1, q2, -⟩ := id hc
  unfold maxLen at q2
  obtain ⟨ka, rfl⟩ : ∃ ka : Nat, a = ka := ⟨a.toNat, by omega⟩
  obtain ⟨kb, rfl⟩ : ∃ kb : Nat, b = kb := ⟨b.toNat, by omega⟩
  exact foth_at w _ p ka kb x x' c c' rfl (Lib.hid HK) (Lib.hid hwb) (Lib.hid fun w1 => yalive_n w1) (Lib.hid fun w1 h1 hb1 => sound_n _ p w1 _ h1 hs (ht'.below hb1) rfl) (by omega) q1 (Lib.hid hs.ins) (by omega) (by omega) (Lib.hid fun w1 k m h1 hm => yout_n _ p w1 k m h1 hs.ins hm) (Lib.hid fun w1 k h1 => rsafe_n _ p w1 k _ h1 rfl)
end Go.Proofs.YtfnoldopjnegfaaDoor
