/-
  The program's plan: what its functions do, over contracts of what they call.
-/
import Derived.Test.YtapjgobkpehgfaaGreatDoorUAY
import Derived.Deep.CutRange
import Derived.Deep.QuietTactic
namespace Go.Proofs.YtapjgobkpehgfaaGreatDoor
set_option linter.unusedSimpArgs false
set_option linter.unusedVariables false
open Go.RowKit

/-! ### Its small parts -/
theorem plcount_n (b : Bool) (w : World) : Calls Tryz.prog 32 #[.bool b] w fun e w' => e = .returned (.int .i64 ((b.toNat : Nat) : Int)) ∧ w = w' := by
  rcases b with _ | _
  · go_enter Tryz.func32, Tryz.ntmps32
    go_wp2
    go_ret
    exact ⟨rfl, rfl⟩
  · go_enter Tryz.func32, Tryz.ntmps32
    go_wp2
    go_ret
    exact ⟨rfl, rfl⟩
set_option maxRecDepth 100000 in
set_option maxHeartbeats 8000000 in
theorem plwithin_n (x y : PFact) (w : World) : Calls Tryz.prog 23 #[.agg #[.bool x.st, .bool x.ra, .bool x.pl], .agg #[.bool y.st, .bool y.ra, .bool y.pl]] w (AggPost w (.bool (leFact x y))) := by
  have hb : ∀ (o o' : Obj), Below w.heap.size w ((w.alloc o).alloc o') := fun o o' => ((Below.refl _ _).alloc (Nat.le_refl _) _).alloc (by rw [World.size_alloc]; omega) _
  have HB := Lib.hid hb
  clear hb
  obtain ⟨x0, x1, x2⟩ := x
  obtain ⟨y0, y1, y2⟩ := y
  have h0 : leFact ⟨x0, x1, x2⟩ ⟨y0, y1, y2⟩ = ((!x0 || y0) && (!x1 || y1) && (!x2 || y2)) := rfl
  rw [h0]
  clear h0
  dsimp only
  rcases x0 with _ | _ <;> rcases y0 with _ | _ <;> rcases x1 with _ | _ <;> rcases y1 with _ | _ <;> rcases x2 with _ | _ <;> rcases y2 with _ | _ <;>
    (go_enter Tryz.func23, Tryz.ntmps23
     go_wp2
     go_ret
     exact ⟨rfl, HB.out _ _⟩)
set_option maxRecDepth 100000 in
theorem plonce_in (w : World) (C : Array Value) (k : Int) (b : Bool) (hC : ∃ x y z u, C = #[x, y, z, u]) (HL : Hid (∀ w1, Below w.heap.size w w1 → Calls Tryz.prog 36 #[.agg C, .int .i64 k] w1 (AggPost w1 (.bool b)))) :
    Calls Tryz.prog 19 #[.agg C, .int .i64 k] w (AggPost w (.bool (!b))) := by
  obtain ⟨x, y, z, u, rfl⟩ := hC
  have KP : Hid (blk (w.alloc (.cells #[x, y, z, u] 25)) w.heap.size #[x, y, z, u] 25) := Lib.hid (blk_new _ _ _)
  have HB : Hid (Below w.heap.size w (w.alloc (.cells #[x, y, z, u] 25))) := Lib.hid ((Below.refl _ _).alloc (Nat.le_refl _) _)
  obtain ⟨W0, hW0⟩ : ∃ W0, W0 = w.alloc (.cells #[x, y, z, u] 25) := ⟨_, rfl⟩
  rw [← hW0] at KP HB
  have hnot : ∀ (x : Bool) (w : World), (Op.unary .not (.bool x)).run Tryz.prog w = .ok (.bool (!x)) w := fun _ _ => rfl
  go_enter Tryz.func19, Tryz.ntmps19
  go_upto_region 1 with (fail)
  rw [← hW0]
  clear hW0
  go_wp2_with (first
    | (refine wpList_loadB rfl 25 _ rfl w.heap.size #[x, y, z, u] rfl 25 KP.out _ Tryz.underlying25 rfl prog_info ?_)
    | (go_at_call 36; refine (HL.out _ HB.out).mono ?_; rintro e w1 ⟨rfl, hb⟩; have HB1 := Lib.hid (HB.out.trans (hb.mono HB.out.size)); clear hb))
  go_ret
  exact ⟨rfl, HB1.out⟩
/-! ### Saved -/
theorem count_take {l : List PFact} {k : Nat} {f : PFact} (h : l[k]? = some f) (g : PFact → Bool) : (l.take (k + 1)).countP g = (l.take k).countP g + (g f).toNat := by
  rw [List.take_add_one, h, List.countP_append]
  cases hg : g f <;> simp [hg]
set_option maxRecDepth 100000 in
set_option maxHeartbeats 4000000 in
theorem plsaved_at (w : World) (a : Option Addr) (c : Nat) (l : List PFact) (HF : Hid (FactsAt w (.slice a l.length c) l)) (hc : l.length ≤ c) (hc2 : c ≤ 9223372036854775807) : Calls Tryz.prog 15 #[.slice a l.length c] w (AggPost w (savedV l)) := by
  go_enter Tryz.func15, Tryz.ntmps15
  go_wp2_with (fail)
  go_loopw [5, 6, 7, 12] (fun v5 v6 v7 v12 wr => ∃ m : Nat, m ≤ l.length ∧ v12 = .int .i64 m ∧ v5 = .int .i64 (((l.take m).countP (·.st) : Nat) : Int) ∧ v6 = .int .i64 (((l.take m).countP (·.ra) : Nat) : Int) ∧ v7 = .int .i64 (((l.take m).countP (·.pl) : Nat) : Int) ∧ Hid (Below w.heap.size w wr)) (fun _ _ _ v12 _ => l.length - (intOf v12).toNat)
  case atStart => exact ⟨0, Nat.zero_le _, rfl, rfl, rfl, rfl, Lib.hid (Below.refl _ _)⟩
  case round =>
    obtain ⟨m, hm, rfl, rfl, rfl, rfl, HB⟩ := hrel
    by_cases hml : m < l.length
    · have hmi : (m : Int) < (l.length : Int) := by omega
      have hm0 : (0 : Int) ≤ (m : Int) := by omega
      obtain ⟨f, hf⟩ : ∃ f, l[m]? = some f := ⟨_, List.getElem?_eq_getElem hml⟩
      obtain ⟨b, o, rfl, q0, q1, q2⟩ := facts_cell (HF.out.below HB.out) hf
      have n0 := List.countP_le_length (p := (·.st)) (l := l.take m)
      have n1 := List.countP_le_length (p := (·.ra)) (l := l.take m)
      have n2 := List.countP_le_length (p := (·.pl)) (l := l.take m)
      rw [List.length_take] at n0 n1 n2
      have E0 := Lib.hid (count_take hf (·.st))
      have E1 := Lib.hid (count_take hf (·.ra))
      have E2 := Lib.hid (count_take hf (·.pl))
      generalize (l.take m).countP (·.st) = s0 at n0 E0
      generalize (l.take m).countP (·.ra) = s1 at n1 E1
      generalize (l.take m).countP (·.pl) = s2 at n2 E2
      have n0 : s0 ≤ m := by omega
      have n1 : s1 ≤ m := by omega
      have n2 : s2 ≤ m := by omega
      obtain ⟨f0, f1, f2⟩ := f
      dsimp only at q0 q1 q2 E0 E1 E2
      have t0 := Bool.toNat_le f0
      have t1 := Bool.toNat_le f1
      have t2 := Bool.toNat_le f2
      clear hf
      go_wp2_with (go_at_call 32; refine (plcount_n _ _).mono ?_; rintro e w5 ⟨rfl, rfl⟩)
      have HB2 : Hid (Below w.heap.size w (wr.alloc (.cells #[.bool f0, .bool f1, .bool f2] 35))) := Lib.hid (HB.out.trans (((Below.refl _ _).alloc (Nat.le_refl _) _).mono HB.out.size))
      go_roundw
      case rel => exact ⟨m + 1, by omega, by go_num, by rw [E0.out]; go_num, by rw [E1.out]; go_num, by rw [E2.out]; go_num, HB2⟩
      case measure => simp [intOf]; omega
    · have hme : m = l.length := by omega
      have hmn : ¬ ((m : Int) < (l.length : Int)) := by omega
      have HE : Hid (l.take m = l) := Lib.hid (by rw [hme, List.take_length])
      clear hme
      go_wp2
      go_ret3
      exact ⟨by rw [HE.out]; rfl, HB.out⟩
theorem plsaved_n (vl : Value) (l : List PFact) (w : World) (hl : FactsAt w vl l) : Calls Tryz.prog 15 #[vl] w (AggPost w (savedV l)) := by
  obtain ⟨a, c, rfl, h1, h2⟩ := hl.form
  exact plsaved_at w a c l (Lib.hid hl) h1 h2
/-! ### None -/
set_option maxRecDepth 100000 in
set_option maxHeartbeats 4000000 in
theorem plnone_at (w W0 : World) (p : PProg) (vt' : Value) (x' : Option Addr) (k' : Nat)
    (hW0 : W0 = w.alloc (.cells (progC vt' p (.slice x' p.code.length k')) 25)) (HS : Hid (Below w.heap.size w W0)) (KP : Hid (blk W0 w.heap.size (progC vt' p (.slice x' p.code.length k')) 25))
    (hlen : p.code.length ≤ 200) (HC : Hid (∀ w1, Below w.heap.size w w1 → Calls Tryz.prog 33 #[.agg (progC vt' p (.slice x' p.code.length k'))] w1 (ChkPost w1 (-1) 0))) :
    Calls Tryz.prog 16 #[.agg (progC vt' p (.slice x' p.code.length k'))] w (NonePost w p) := by
  have hmk : ∀ w, (Instr.makeSlice 29 (.int .i64 (p.code.length : Int)) (.int .i64 (p.code.length : Int))).run Tryz.prog w = .ok (.slice (some ⟨w.heap.size, 0, none⟩) p.code.length p.code.length) (w.alloc (.cells (factsA (noneL p)) 35)) := fun w => by
    obtain ⟨i, hi, hz, hs, hb⟩ := infoF'
    have hr := run_make (P := Tryz.prog) w 29 35 i _ Tryz.underlying29 hi hz .i64 .i64 p.code.length p.code.length (by omega) (Int.le_refl _) (by rw [hb]; omega) (by omega)
    rw [hs, Int.toNat_natCast] at hr
    have e : noneL p = List.replicate p.code.length noFact := rfl
    rw [hr, e, ← made_none]
    rfl
  go_enter Tryz.func16, Tryz.ntmps16
  go_upto_region 1 with (fail)
  rw [← hW0]
  clear hW0
  go_upto_region 4 with (first
    | (refine wpList_loadB rfl 25 _ rfl w.heap.size (progC vt' p (.slice x' p.code.length k')) rfl 25 KP.out _ Tryz.underlying25 rfl prog_info ?_)
    | (go_at_call 33; refine (HC.out _ HS.out).mono ?_; rintro e w1 ⟨rfl, hb⟩; have HS1 := Lib.hid (HS.out.trans (hb.mono HS.out.size)); have p3 : w1.cell? ⟨w.heap.size, 3, none⟩ = some (.slice x' p.code.length k') := blk_cell (blk_below KP.out hb) 3 _ rfl; clear hb))
  clear HS KP HC
  go_wp2
  go_ret2
  exact ⟨_, rfl, HS1.out.size, blk_new _ _ _, HS1.out.trans (((Below.refl _ _).alloc (Nat.le_refl _) _).mono HS1.out.size)⟩
theorem none_facts {w w' : World} {p : PProg} {g : Nat} (h : blk w' g (factsA (noneL p)) 35) (hlen : p.code.length ≤ 200) : FactsAt w' (.slice (some ⟨g, 0, none⟩) p.code.length p.code.length) (noneL p) := by
  have hl : (noneL p).length = p.code.length := by unfold noneL; simp
  have := rowS_blk factC_len (l := noneL p) h (by unfold factsA; rfl) (by unfold maxLen; omega)
  rw [hl] at this
  exact this
/-! ### Best -/
theorem bit_and {m a : Nat} (hm : m < 256) : (bits .and .u8 ((m : Int) / 2 ^ a) 1 == 1) = m.testBit a := by
  have h1 : m / 2 ^ a < 256 := Nat.lt_of_le_of_lt (Nat.div_le_self _ _) hm
  have h2 : ((m : Int) / 2 ^ a) = ((m / 2 ^ a : Nat) : Int) := by simp
  rw [h2, show (1 : Int) = ((1 : Nat) : Int) from rfl, (bits_nat .u8 8 (Nat.le_refl _) (fun n h0 h1 => wraps_u8 n h0 h1) (m / 2 ^ a) 1 h1 (by decide)).1, Nat.and_one_is_mod, Nat.testBit_eq_decide_div_mod_eq]
  generalize m / 2 ^ a % 2 = z
  by_cases h : z = 1
  · simp [h]
  · have : ¬ ((z : Int) = ((1 : Nat) : Int)) := by omega
    simp only [h, decide_false]
    simpa using this
set_option maxRecDepth 100000 in
set_option maxHeartbeats 8000000 in
theorem plbest_at (w W0 : World) (p : PProg) (vt' : Value) (bb o k' : Nat)
    (hW0 : W0 = w.alloc (.cells (progC vt' p (.slice (some ⟨bb, o, none⟩) p.code.length k')) 25)) (HS : Hid (Below w.heap.size w W0)) (KP : Hid (blk W0 w.heap.size (progC vt' p (.slice (some ⟨bb, o, none⟩) p.code.length k')) 25))
    (hlen : p.code.length ≤ 200) (g1 : p.code.length ≤ k') (g2 : k' ≤ 9223372036854775807) (hbb : bb < w.heap.size)
    (HCO : Hid (∀ m i, p.code[m]? = some i → w.rangeAt bb (o + m * 5) (insC i).toList)) (HA8 : Hid (∀ i ∈ p.code, i.op = 11 → 0 ≤ i.a ∧ i.a < 8)) (HFL : Hid (∀ k, (freshL p).getD k 0 < 256))
    (HNO : Hid (∀ w1, Below w.heap.size w w1 → Calls Tryz.prog 16 #[.agg (progC vt' p (.slice (some ⟨bb, o, none⟩) p.code.length k'))] w1 (NonePost w1 p)))
    (HIN : Hid (∀ w1, Below w.heap.size w w1 → Calls Tryz.prog 18 #[.agg (progC vt' p (.slice (some ⟨bb, o, none⟩) p.code.length k'))] w1 (U8sPost w1 (freshL p))))
    (HON : Hid (∀ w1 (k : Nat), Below w.heap.size w w1 → k < p.code.length → Calls Tryz.prog 19 #[.agg (progC vt' p (.slice (some ⟨bb, o, none⟩) p.code.length k')), .int .i64 k] w1 (AggPost w1 (.bool (!loopL p k)))))
    (HLK : Hid (∀ w1 (k : Nat), Below w.heap.size w w1 → k < p.code.length → Calls Tryz.prog 20 #[.agg (progC vt' p (.slice (some ⟨bb, o, none⟩) p.code.length k')), .int .i64 k] w1 (AggPost w1 (.bool (leakB p k)))))
    (HFU : Hid (∀ w1 (k : Nat), Below w.heap.size w w1 → k < p.code.length → Calls Tryz.prog 21 #[.agg (progC vt' p (.slice (some ⟨bb, o, none⟩) p.code.length k')), .int .i64 k] w1 (AggPost w1 (.bool (decide (0 ≤ lastL p k)))))) :
    Calls Tryz.prog 9 #[.agg (progC vt' p (.slice (some ⟨bb, o, none⟩) p.code.length k'))] w (OwnBest w p) := by
  have hnot : ∀ (x : Bool) (w : World), (Op.unary .not (.bool x)).run Tryz.prog w = .ok (.bool (!x)) w := fun _ _ => rfl
  go_enter Tryz.func9, Tryz.ntmps9
  go_upto_region 1 with (fail)
  rw [← hW0]
  clear hW0
  go_upto_region 4 with (first
    | (refine wpList_loadB rfl 25 _ rfl w.heap.size (progC vt' p (.slice (some ⟨bb, o, none⟩) p.code.length k')) rfl 25 KP.out _ Tryz.underlying25 rfl prog_info ?_)
    | (go_at_call 16; refine (HNO.out _ HS.out).mono ?_; rintro e w1 ⟨g, rfl, hg, hr, hb⟩; have HS1 := Lib.hid (HS.out.trans (hb.mono HS.out.size)); have KP1 := Lib.hid (blk_below KP.out hb); have HR1 := Lib.hid hr; have HG := Lib.hid (Nat.lt_of_lt_of_le (blk_lt KP.out) hg); clear hb hr hg))
  clear HS KP HNO
  go_upto_region 5 with (first
    | (refine wpList_loadB rfl 25 _ rfl w.heap.size (progC vt' p (.slice (some ⟨bb, o, none⟩) p.code.length k')) rfl 25 KP1.out _ Tryz.underlying25 rfl prog_info ?_)
    | (go_at_call 18; refine (HIN.out _ HS1.out).mono ?_; rintro e w2 ⟨vin, rfl, hin, hb⟩; have HW2 : Hid (BsW w w2 g (progC vt' p (.slice (some ⟨bb, o, none⟩) p.code.length k')) vin p (bestP p 0)) := Lib.hid ⟨HS1.out.trans (hb.mono HS1.out.size), blk_below KP1.out hb, by rw [bestP_0]; exact blk_below HR1.out hb, hin, HG.out⟩; clear hb hin))
  clear HS1 KP1 HR1 HG HIN
  have p3 : w2.cell? ⟨w.heap.size, 3, none⟩ = some (.slice (some ⟨bb, o, none⟩) p.code.length k') := blk_cell HW2.out.prog 3 _ rfl
  obtain ⟨bi, oi, ci, rfl, HIC⟩ : ∃ bi oi ci, vin = .slice (some ⟨bi, oi, none⟩) (p.code.length + 1) ci ∧ Hid (p.code.length + 1 ≤ ci ∧ ci ≤ 9223372036854775807 ∧ ∀ wr l (k : Nat), BsW w wr g (progC vt' p (.slice (some ⟨bb, o, none⟩) p.code.length k')) vin p l → k < p.code.length → wr.cell? ⟨bi, oi + k, none⟩ = some (.int .u8 (((freshL p).getD k 0 : Nat) : Int))) := by
    obtain ⟨a, c, e, h1, h2, h3⟩ := HW2.out.inn
    have hl : (u8s (freshL p)).length = p.code.length + 1 := by rw [List.length_map, fresh_len]
    rw [hl] at e h1
    rcases h3 with h3 | ⟨b1, o1, rfl, _, _⟩
    · rw [h3] at hl; simp at hl
    · subst e
      refine ⟨b1, o1, c, rfl, Lib.hid ⟨h1, by unfold maxLen at h2; omega, fun wr l k hq hk => ?_⟩⟩
      obtain ⟨a', c', e', _, _, h3'⟩ := hq.inn
      simp only [Value.slice.injEq] at e'
      obtain ⟨rfl, -, -⟩ := e'
      rcases h3' with h3' | ⟨b2, o2, e2, _, hcell⟩
      · rw [h3'] at hl; simp at hl
      · cases e2
        exact hcell k _ (u8s_get (by rw [fresh_len]; omega))
  go_wp2_with (fail)
  go_loopw [22] (fun v22 wr => ∃ k : Nat, k ≤ p.code.length ∧ v22 = .int .i64 k ∧ Hid (BsW w wr g (progC vt' p (.slice (some ⟨bb, o, none⟩) p.code.length k')) (.slice (some ⟨bi, oi, none⟩) (p.code.length + 1) ci) p (bestP p k))) (fun v22 _ => p.code.length - (intOf v22).toNat)
  case atStart => exact ⟨0, Nat.zero_le _, rfl, HW2⟩
  case round =>
    obtain ⟨k, hk, rfl, HW⟩ := hrel
    clear HW2
    by_cases hkl : k < p.code.length
    · have hki : (k : Int) < (p.code.length : Int) := by omega
      have hk0 : (0 : Int) ≤ (k : Int) := by omega
      obtain ⟨i, hi⟩ : ∃ i, p.code[k]? = some i := ⟨_, List.getElem?_eq_getElem hkl⟩
      have hr := rangeAt_below (HCO.out k i hi) hbb HW.out.below
      have HLE : Hid ((bestP p k).length = p.code.length) := Lib.hid bestP_len
      have HHE : Hid ((bestP p k)[k]? = some noFact) := Lib.hid (bestP_here hkl)
      have HNX : Hid (∀ f, bestK p k = f → (bestP p k).set k f = bestP p (k + 1)) := Lib.hid fun f hf => bestP_set hkl hf
      have HSK : Hid (bestK p k = noFact → bestP p k = bestP p (k + 1)) := Lib.hid fun hf => bestP_skip hkl hf
      have hm := List.mem_of_getElem? hi
      have HA : Hid (i.op = 11 → 0 ≤ i.a ∧ i.a < 8) := Lib.hid (HA8.out i hm)
      have HK0 : Hid (i.op ≠ 5 → i.op ≠ 11 → bestK p k = noFact) := Lib.hid (bestK_no hi)
      have HK5 : Hid (i.op = 5 → bestK p k = putF (putF noFact 0 (!loopL p k && !leakB p k)) 1 (decide (0 ≤ lastL p k))) := Lib.hid (bestK_5 hi)
      have HK11 : Hid (i.op = 11 → bestK p k = putF noFact 2 (((freshL p).getD k 0).testBit i.a.toNat)) := Lib.hid (bestK_11 hi)
      have hz := HFL.out k
      have HZ : Hid (∀ w' l, BsW w w' g (progC vt' p (.slice (some ⟨bb, o, none⟩) p.code.length k')) (.slice (some ⟨bi, oi, none⟩) (p.code.length + 1) ci) p l → w'.cell? ⟨bi, oi + k, none⟩ = some (.int .u8 (((freshL p).getD k 0 : Nat) : Int))) := Lib.hid fun w' l hq => HIC.out.2.2 w' l k hq hkl
      have hci := HIC.out.1
      obtain ⟨z, hzz⟩ : ∃ z, z = (freshL p).getD k 0 := ⟨_, rfl⟩
      rw [← hzz] at hz HZ HK11
      clear hzz
      obtain ⟨op, ia, b, c, nn⟩ := i
      obtain ⟨d0, d1, d2, d3, d4⟩ : (wr.cell? ⟨bb, o + k * 5, none⟩ = some (.int .u8 op)) ∧ wr.cell? ⟨bb, o + k * 5 + 1, none⟩ = some (.int .u8 ia) ∧ wr.cell? ⟨bb, o + k * 5 + 2, none⟩ = some (.int .u8 b) ∧ wr.cell? ⟨bb, o + k * 5 + 3, none⟩ = some (.int .u8 c) ∧ wr.cell? ⟨bb, o + k * 5 + 4, none⟩ = some (.int .i64 nn) := ⟨hr 0 _ rfl, hr 1 _ rfl, hr 2 _ rfl, hr 3 _ rfl, hr 4 _ rfl⟩
      dsimp only at HA HK0 HK5 HK11
      clear hr hi hm
      generalize hLL : bestP p k = L at HW HLE HHE HNX HSK
      clear hLL
      go_upto_region 8 with (fail)
      have HW8 : Hid (BsW w (wr.alloc (.cells #[.int .u8 op, .int .u8 ia, .int .u8 b, .int .u8 c, .int .i64 nn] 46)) g (progC vt' p (.slice (some ⟨bb, o, none⟩) p.code.length k')) (.slice (some ⟨bi, oi, none⟩) (p.code.length + 1) ci) p L) := Lib.hid (HW.out.next ((Below.refl _ _).alloc (Nat.le_refl _) _))
      have HKI : Hid (blk (wr.alloc (.cells #[.int .u8 op, .int .u8 ia, .int .u8 b, .int .u8 c, .int .i64 nn] 46)) wr.heap.size #[.int .u8 op, .int .u8 ia, .int .u8 b, .int .u8 c, .int .i64 nn] 46) := Lib.hid (blk_new _ _ _)
      obtain ⟨N8, hN8⟩ : ∃ N8, N8 = wr.heap.size := ⟨_, rfl⟩
      obtain ⟨W8, hW8⟩ : ∃ W8, W8 = wr.alloc (.cells #[.int .u8 op, .int .u8 ia, .int .u8 b, .int .u8 c, .int .i64 nn] 46) := ⟨_, rfl⟩
      rw [← hW8] at HW8 HKI ⊢
      rw [← hN8] at HKI ⊢
      have i0 : W8.cell? ⟨N8, 0, none⟩ = some (.int .u8 op) := blk_cell HKI.out 0 _ rfl
      have i1 : W8.cell? ⟨N8, 1, none⟩ = some (.int .u8 ia) := blk_cell HKI.out 1 _ rfl
      clear hW8 hN8 d0 d1 d2 d3 d4 HW HKI
      by_cases h5 : op = 5
      · subst h5
        have HKL := Lib.hid (HK5.out rfl)
        have HL1 := Lib.hid fun w1 hb => HLK.out w1 k hb hkl
        have HF1 := Lib.hid fun w1 hb => HFU.out w1 k hb hkl
        have HO1 := Lib.hid fun w1 hb => HON.out w1 k hb hkl
        generalize loopL p k = lo at HKL HO1
        generalize leakB p k = le at HKL HL1
        generalize decide (0 ≤ lastL p k) = fu at HKL HF1
        clear HA HK0 HK5 HK11 HSK HZ hz i1
        rcases lo with _ | _
        · go_upto_region 11 with (first
            | (refine wpList_loadB rfl 25 _ rfl w.heap.size (progC vt' p (.slice (some ⟨bb, o, none⟩) p.code.length k')) rfl 25 HW8.out.prog _ Tryz.underlying25 rfl prog_info ?_)
            | (refine wpList_loadBw (by rfl) 25 _ rfl w.heap.size (progC vt' p (.slice (some ⟨bb, o, none⟩) p.code.length k')) rfl 25 HW9.out.prog _ Tryz.underlying25 rfl prog_info ?_)
            | (go_at_call 19; refine (HO1.out _ HW8.out.below).mono ?_; rintro e w9 ⟨rfl, hb⟩; have HW9 := Lib.hid (HW8.out.next hb); clear hb i0)
            | (go_at_call 20; refine (HL1.out _ HW9.out.below).mono ?_; rintro e w10 ⟨rfl, hb⟩; have HW10 := Lib.hid (HW9.out.next hb); obtain ⟨q0, q1, q2, qf⟩ := HW10.out.cell HHE.out; clear hb))
          clear q0 q1 q2 qf HL1 HO1
          have HX : Hid (BsW w (w10.setCell ⟨g, k * 3, none⟩ (.bool (!le))) g (progC vt' p (.slice (some ⟨bb, o, none⟩) p.code.length k')) (.slice (some ⟨bi, oi, none⟩) (p.code.length + 1) ci) p (L.set k (putF noFact 0 (!le)))) := Lib.hid (HW10.out.put (t := 0) _ HHE.out (by decide))
          have HE1 : Hid ((L.set k (putF noFact 0 (!le)))[k]? = some (putF noFact 0 (!le))) := Lib.hid (by rw [List.getElem?_set, if_pos rfl, if_pos (by rw [HLE.out]; exact hkl)])
          have HN1 : Hid (∀ f, bestK p k = f → (L.set k (putF noFact 0 (!le))).set k f = bestP p (k + 1)) := Lib.hid fun f hf => by rw [List.set_set]; exact HNX.out f hf
          have HK1 : Hid (bestK p k = putF (putF noFact 0 (!le)) 1 fu) := Lib.hid HKL.out
          clear HHE HNX HLE HKL
          obtain ⟨L1, hL1⟩ : ∃ L1, L1 = L.set k (putF noFact 0 (!le)) := ⟨_, rfl⟩
          obtain ⟨f1, hf1⟩ : ∃ f1, f1 = putF noFact 0 (!le) := ⟨_, rfl⟩
          rw [← hL1] at HX HE1 HN1
          rw [← hf1] at HE1 HK1
          obtain ⟨W11, hW11⟩ : ∃ W11, W11 = w10.setCell ⟨g, k * 3, none⟩ (.bool (!le)) := ⟨_, rfl⟩
          rw [← hW11] at HX ⊢
          clear hL1 hf1 hW11
          go_wp2_with (first
            | (refine wpList_loadB rfl 25 _ rfl w.heap.size (progC vt' p (.slice (some ⟨bb, o, none⟩) p.code.length k')) rfl 25 HX.out.prog _ Tryz.underlying25 rfl prog_info ?_)
            | (go_at_call 21; refine (HF1.out _ HX.out.below).mono ?_; rintro e w12 ⟨rfl, hb⟩; have HW12 := Lib.hid (HX.out.next hb); obtain ⟨q0, q1, q2, qf⟩ := HW12.out.cell HE1.out; clear hb))
          have HZZ : Hid (BsW w (w12.setCell ⟨g, k * 3 + 1, none⟩ (.bool fu)) g (progC vt' p (.slice (some ⟨bb, o, none⟩) p.code.length k')) (.slice (some ⟨bi, oi, none⟩) (p.code.length + 1) ci) p (bestP p (k + 1))) := Lib.hid (by
            rw [← HN1.out _ HK1.out]
            exact HW12.out.put (t := 1) _ HE1.out (by decide))
          clear q0 q1 q2 qf HX HE1 HN1 HK1 HW12
          go_roundw
          case rel => exact ⟨k + 1, by omega, by go_num, HZZ⟩
          case measure => simp [intOf]; omega
        · go_upto_region 11 with (first
            | (refine wpList_loadB rfl 25 _ rfl w.heap.size (progC vt' p (.slice (some ⟨bb, o, none⟩) p.code.length k')) rfl 25 HW8.out.prog _ Tryz.underlying25 rfl prog_info ?_)
            | (go_at_call 19; refine (HO1.out _ HW8.out.below).mono ?_; rintro e w10 ⟨rfl, hb⟩; have HW10 := Lib.hid (HW8.out.next hb); obtain ⟨q0, q1, q2, qf⟩ := HW10.out.cell HHE.out; clear hb i0))
          clear q0 q1 q2 qf HL1 HO1
          have HX : Hid (BsW w (w10.setCell ⟨g, k * 3, none⟩ (.bool false)) g (progC vt' p (.slice (some ⟨bb, o, none⟩) p.code.length k')) (.slice (some ⟨bi, oi, none⟩) (p.code.length + 1) ci) p (L.set k (putF noFact 0 false))) := Lib.hid (HW10.out.put (t := 0) _ HHE.out (by decide))
          have HE1 : Hid ((L.set k (putF noFact 0 false))[k]? = some (putF noFact 0 false)) := Lib.hid (by rw [List.getElem?_set, if_pos rfl, if_pos (by rw [HLE.out]; exact hkl)])
          have HN1 : Hid (∀ f, bestK p k = f → (L.set k (putF noFact 0 false)).set k f = bestP p (k + 1)) := Lib.hid fun f hf => by rw [List.set_set]; exact HNX.out f hf
          have HK1 : Hid (bestK p k = putF (putF noFact 0 false) 1 fu) := Lib.hid HKL.out
          clear HHE HNX HLE HKL
          obtain ⟨L1, hL1⟩ : ∃ L1, L1 = L.set k (putF noFact 0 false) := ⟨_, rfl⟩
          obtain ⟨f1, hf1⟩ : ∃ f1, f1 = putF noFact 0 false := ⟨_, rfl⟩
          rw [← hL1] at HX HE1 HN1
          rw [← hf1] at HE1 HK1
          obtain ⟨W11, hW11⟩ : ∃ W11, W11 = w10.setCell ⟨g, k * 3, none⟩ (.bool false) := ⟨_, rfl⟩
          rw [← hW11] at HX ⊢
          clear hL1 hf1 hW11
          go_wp2_with (first
            | (refine wpList_loadB rfl 25 _ rfl w.heap.size (progC vt' p (.slice (some ⟨bb, o, none⟩) p.code.length k')) rfl 25 HX.out.prog _ Tryz.underlying25 rfl prog_info ?_)
            | (go_at_call 21; refine (HF1.out _ HX.out.below).mono ?_; rintro e w12 ⟨rfl, hb⟩; have HW12 := Lib.hid (HX.out.next hb); obtain ⟨q0, q1, q2, qf⟩ := HW12.out.cell HE1.out; clear hb))
          have HZZ : Hid (BsW w (w12.setCell ⟨g, k * 3 + 1, none⟩ (.bool fu)) g (progC vt' p (.slice (some ⟨bb, o, none⟩) p.code.length k')) (.slice (some ⟨bi, oi, none⟩) (p.code.length + 1) ci) p (bestP p (k + 1))) := Lib.hid (by
            rw [← HN1.out _ HK1.out]
            exact HW12.out.put (t := 1) _ HE1.out (by decide))
          clear q0 q1 q2 qf HX HE1 HN1 HK1 HW12
          go_roundw
          case rel => exact ⟨k + 1, by omega, by go_num, HZZ⟩
          case measure => simp [intOf]; omega
      · by_cases h11 : op = 11
        · subst h11
          have HKL := Lib.hid (HK11.out rfl)
          obtain ⟨a0, a8⟩ := HA.out rfl
          obtain ⟨x, hx⟩ : ∃ x : Nat, ia = x := ⟨ia.toNat, by omega⟩
          subst hx
          have hx8 : x < 8 := by omega
          have hx7 : (x : Int) ≤ 7 := by omega
          have hki2 : (k : Int) < (p.code.length : Int) + 1 := by omega
          have cz := HZ.out _ _ HW8.out
          obtain ⟨q0, q1, q2, qf⟩ := HW8.out.cell HHE.out
          clear HA HK0 HK5 HK11 HSK HZ HON HLK HFU
          go_upto_region 13 with (fail)
          refine wp_region_still_tail 13 (by kernel_rfl) (by kernel_rfl) ?_
          simp only [List.take_succ_cons, List.take_zero, List.drop_succ_cons, List.drop_zero]
          change wpStill _ _ W8.drew (fun a' => wpList _ _ _ _ a' W8.drew) _ _
          repeat still_step
          refine wpStill_nil ?_
          have HZ3 : Hid (BsW w (W8.drew.setCell ⟨g, k * 3 + 2, none⟩ (.bool (bits .and .u8 ((z : Int) / 2 ^ x) 1 == 1))) g (progC vt' p (.slice (some ⟨bb, o, none⟩) p.code.length k')) (.slice (some ⟨bi, oi, none⟩) (p.code.length + 1) ci) p (bestP p (k + 1))) := Lib.hid (by
            rw [bit_and hz, ← HNX.out _ HKL.out]
            exact (HW8.out.next (Below.refl _ _).drew).put (t := 2) _ HHE.out (by decide))
          clear HKL HNX HHE HLE HW8
          go_wp2
          go_roundw
          case rel => exact ⟨k + 1, by omega, by go_num, HZ3⟩
          case measure => simp [intOf]; omega
        · have HKL := Lib.hid (HK0.out h5 h11)
          have HSK2 := Lib.hid (HSK.out HKL.out)
          have HW9 : Hid (BsW w W8 g (progC vt' p (.slice (some ⟨bb, o, none⟩) p.code.length k')) (.slice (some ⟨bi, oi, none⟩) (p.code.length + 1) ci) p (bestP p (k + 1))) := Lib.hid (by rw [← HSK2.out]; exact HW8.out)
          clear HA HK0 HK5 HK11 HSK HZ HON HLK HFU HW8 HHE HLE HNX HKL HSK2
          go_wp2
          go_roundw
          case rel => exact ⟨k + 1, by omega, by go_num, HW9⟩
          case measure => simp [intOf]; omega
    · have hke : k = p.code.length := by omega
      have hkn : ¬ ((k : Int) < (p.code.length : Int)) := by omega
      have HE : Hid (blk wr g (factsA (bestL p)) 35) := Lib.hid (by
        have h9 := HW.out.row
        rw [hke, bestP_all] at h9
        exact h9)
      clear hke
      go_wp2
      go_ret2
      exact ⟨_, rfl, HW.out.hg, HE.out, HW.out.below⟩
/-! ### Fits -/
theorem take_all {l best : List PFact} {m : Nat} (hl : l.length = best.length) (h : (List.range m).all (fun k => leFact (l.getD k noFact) (best.getD k noFact)) = true) {x y : PFact} (hx : l[m]? = some x) (hy : best[m]? = some y) : (List.range (m + 1)).all (fun k => leFact (l.getD k noFact) (best.getD k noFact)) = leFact x y := by
  rw [List.range_succ, List.all_append, h]
  simp [List.getD_eq_getElem?_getD, hx, hy]
set_option maxRecDepth 100000 in
set_option maxHeartbeats 8000000 in
theorem plequal_at (w : World) (a a' : Option Addr) (c c' : Nat) (l best : List PFact) (HF : Hid (FactsAt w (.slice a l.length c) l)) (HG : Hid (FactsAt w (.slice a' best.length c') best)) (hc : l.length ≤ c) (hc2 : c ≤ 9223372036854775807) (hd : best.length ≤ c') (hd2 : c' ≤ 9223372036854775807) :
    Calls Tryz.prog 22 #[.slice a l.length c, .slice a' best.length c', .func (.func 23) #[] #[]] w (AggPost w (.bool (fitsL l best))) := by
  have hnot : ∀ (x : Bool) (w : World), (Op.unary .not (.bool x)).run Tryz.prog w = .ok (.bool (!x)) w := fun _ _ => rfl
  by_cases hl : l.length = best.length
  · have HRS : Hid (fitsL l best = (List.range l.length).all fun k => leFact (l.getD k noFact) (best.getD k noFact)) := Lib.hid (by unfold fitsL; simp [hl])
    have HTA : Hid (∀ m x y, (List.range m).all (fun k => leFact (l.getD k noFact) (best.getD k noFact)) = true → l[m]? = some x → best[m]? = some y → (List.range (m + 1)).all (fun k => leFact (l.getD k noFact) (best.getD k noFact)) = leFact x y) := Lib.hid fun m x y h hx hy => take_all hl h hx hy
    have HNO : Hid (∀ m x y, m < l.length → l[m]? = some x → best[m]? = some y → leFact x y = false → fitsL l best = false) := Lib.hid fun m x y hm hx hy hle => by
      rw [Bool.eq_false_iff]
      intro hf
      have h9 := (fits_iff.1 hf).2 m hm
      rw [List.getD_eq_getElem?_getD, List.getD_eq_getElem?_getD, hx, hy] at h9
      simp only [Option.getD_some] at h9
      rw [hle] at h9; cases h9
    have HLL := Lib.hid hl
    rw [← hl] at HG hd ⊢
    clear hl
    go_enter Tryz.func22, Tryz.ntmps22
    go_wp2_with (fail)
    go_loopw [17] (fun v17 wr => ∃ m : Nat, m ≤ l.length ∧ v17 = .int .i64 m ∧ Hid (Below w.heap.size w wr) ∧ Hid ((List.range m).all (fun k => leFact (l.getD k noFact) (best.getD k noFact)) = true)) (fun v17 _ => l.length - (intOf v17).toNat)
    case atStart => exact ⟨0, Nat.zero_le _, rfl, Lib.hid (Below.refl _ _), Lib.hid rfl⟩
    case round =>
      obtain ⟨m, hm, rfl, HB, HN⟩ := hrel
      by_cases hml : m < l.length
      · have hmi : (m : Int) < (l.length : Int) := by omega
        have hm0 : (0 : Int) ≤ (m : Int) := by omega
        obtain ⟨x, hx⟩ : ∃ x, l[m]? = some x := ⟨_, List.getElem?_eq_getElem hml⟩
        obtain ⟨y, hy⟩ : ∃ y, best[m]? = some y := ⟨_, List.getElem?_eq_getElem (by rw [← HLL.out]; exact hml)⟩
        obtain ⟨b1, o1, rfl, q0, q1, q2⟩ := facts_cell (HF.out.below HB.out) hx
        obtain ⟨b2, o2, rfl, r0, r1, r2⟩ := facts_cell (HG.out.below HB.out) hy
        have HT := Lib.hid (HTA.out m x y HN.out hx hy)
        have HF2 := Lib.hid (HNO.out m x y hml hx hy)
        have HWI := Lib.hid (plwithin_n x y)
        obtain ⟨f, hf⟩ : ∃ f, f = leFact x y := ⟨_, rfl⟩
        rw [← hf] at HT HF2 HWI
        clear hf hx hy HN
        obtain ⟨x0, x1, x2⟩ := x
        obtain ⟨y0, y1, y2⟩ := y
        dsimp only at q0 q1 q2 r0 r1 r2 HWI
        have HFA : Hid (∀ o, Below w.heap.size w (wr.alloc o) ∧ ∀ b j v, wr.cell? ⟨b, j, none⟩ = some v → (wr.alloc o).cell? ⟨b, j, none⟩ = some v) := Lib.hid fun o => ⟨HB.out.trans (((Below.refl _ _).alloc (Nat.le_refl _) _).mono HB.out.size), fun b j v h => by
          have hlt := World.block_lt_of_cell? _ _ h
          exact (((Below.refl wr.heap.size wr).alloc (Nat.le_refl _) o).cell (p := ⟨b, j, none⟩) hlt).trans h⟩
        go_upto_region 6 with (fail)
        obtain ⟨hb1, hc1⟩ := HFA.out (.cells #[.bool x0, .bool x1, .bool x2] 35)
        have r0 := hc1 _ _ _ r0
        have r1 := hc1 _ _ _ r1
        have r2 := hc1 _ _ _ r2
        clear q0 q1 q2 hb1 hc1 HFA
        go_upto_region 7 with (fail)
        clear r0 r1 r2
        have hA : blk ((wr.alloc (.cells #[.bool x0, .bool x1, .bool x2] 35)).alloc (.cells #[.bool y0, .bool y1, .bool y2] 35)) wr.heap.size #[.bool x0, .bool x1, .bool x2] 35 := blk_alloc (blk_new _ _ _) _
        have hB : blk ((wr.alloc (.cells #[.bool x0, .bool x1, .bool x2] 35)).alloc (.cells #[.bool y0, .bool y1, .bool y2] 35)) (wr.heap.size + 1) #[.bool y0, .bool y1, .bool y2] 35 := by
          rw [← World.size_alloc wr (.cells #[.bool x0, .bool x1, .bool x2] 35)]
          exact blk_new _ _ _
        have HB7 : Hid (Below w.heap.size w ((wr.alloc (.cells #[.bool x0, .bool x1, .bool x2] 35)).alloc (.cells #[.bool y0, .bool y1, .bool y2] 35))) := Lib.hid (HB.out.trans (((Below.refl wr.heap.size wr).alloc (Nat.le_refl _) _).alloc (by rw [World.size_alloc]; omega) _ |>.mono HB.out.size))
        generalize (wr.alloc (.cells #[.bool x0, .bool x1, .bool x2] 35)).alloc (.cells #[.bool y0, .bool y1, .bool y2] 35) = W7 at *
        have s0 := blk_cell hA 0 _ rfl
        have s1 := blk_cell hA 1 _ rfl
        have s2 := blk_cell hA 2 _ rfl
        have s3 := blk_cell hB 0 _ rfl
        have s4 := blk_cell hB 1 _ rfl
        have s5 := blk_cell hB 2 _ rfl
        clear hA hB
        rcases f with _ | _
        · have HE := Lib.hid (HF2.out rfl)
          clear HF2 HT
          go_wp2_with (go_at_call 23; refine (HWI.out _).mono ?_; rintro e w8 ⟨rfl, hb⟩; have HB8 := Lib.hid (HB7.out.trans (hb.mono HB7.out.size)); clear hb)
          go_ret
          exact ⟨congrArg (fun z => Ending.returned (.bool z)) HE.out.symm, HB8.out⟩
        · clear HF2
          go_wp2_with (go_at_call 23; refine (HWI.out _).mono ?_; rintro e w8 ⟨rfl, hb⟩; have HB8 := Lib.hid (HB7.out.trans (hb.mono HB7.out.size)); clear hb)
          go_roundw
          case rel => exact ⟨m + 1, by omega, by go_num, HB8, HT⟩
          case measure => simp [intOf]; omega
      · have hme : m = l.length := by omega
        have hmn : ¬ ((m : Int) < (l.length : Int)) := by omega
        have HE : Hid (fitsL l best = true) := Lib.hid (by rw [HRS.out, ← hme]; exact HN.out)
        clear hme
        go_wp2
        go_ret
        exact ⟨congrArg (fun z => Ending.returned (.bool z)) HE.out.symm, HB.out⟩
  · have e : fitsL l best = false := by unfold fitsL; simp [hl]
    rw [e]
    have hn : ((l.length : Int) != (best.length : Int)) = true := by
      rw [bne_iff_ne]; omega
    clear e
    go_enter Tryz.func22, Tryz.ntmps22
    go_wp2_with (fail)
    go_ret
    exact ⟨rfl, Below.refl _ _⟩
set_option maxRecDepth 100000 in
set_option maxHeartbeats 4000000 in
theorem plfits_at (w W0 : World) (p : PProg) (vt' : Value) (x' : Option Addr) (k' : Nat) (a : Option Addr) (c : Nat) (l : List PFact)
    (hW0 : W0 = w.alloc (.cells (progC vt' p (.slice x' p.code.length k')) 25)) (HS : Hid (Below w.heap.size w W0)) (KP : Hid (blk W0 w.heap.size (progC vt' p (.slice x' p.code.length k')) 25))
    (HF : Hid (FactsAt w (.slice a l.length c) l)) (hc : l.length ≤ c) (hc2 : c ≤ 9223372036854775807)
    (HB : Hid (∀ w1, Below w.heap.size w w1 → Calls Tryz.prog 9 #[.agg (progC vt' p (.slice x' p.code.length k'))] w1 (FactsPost w1 (bestL p)))) :
    Calls Tryz.prog 10 #[.agg (progC vt' p (.slice x' p.code.length k')), .slice a l.length c] w (AggPost w (.bool (fitsL l (bestL p)))) := by
  go_enter Tryz.func10, Tryz.ntmps10
  go_upto_region 1 with (fail)
  rw [← hW0]
  clear hW0
  go_upto_region 2 with (first
    | (refine wpList_loadB rfl 25 _ rfl w.heap.size (progC vt' p (.slice x' p.code.length k')) rfl 25 KP.out _ Tryz.underlying25 rfl prog_info ?_)
    | (go_at_call 9; refine (HB.out _ HS.out).mono ?_; rintro e w1 ⟨v1, rfl, hr, hb⟩; obtain ⟨a1, c1, rfl, hc3, hc4⟩ := hr.form; have HS1 := Lib.hid (HS.out.trans (hb.mono HS.out.size)); have HQ := Lib.hid (plequal_at w1 a a1 c c1 l (bestL p) (Lib.hid ((HF.out.below HS.out).below hb)) (Lib.hid hr) hc hc2 hc3 hc4); clear hb hr))
  clear HS KP HF HB
  go_wp2_with (go_at_call 22; refine HQ.out.mono ?_; rintro e w2 ⟨rfl, hb⟩; have HS2 := Lib.hid (HS1.out.trans (hb.mono HS1.out.size)); clear hb)
  go_ret
  exact ⟨rfl, HS2.out⟩
end Go.Proofs.YtapjgobkpehgfaaGreatDoor
