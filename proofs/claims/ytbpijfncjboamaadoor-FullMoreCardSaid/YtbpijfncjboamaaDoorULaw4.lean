/-
  FullMore: the walk.
-/
import Derived.Test.YtbpijfncjboamaaDoorUAlive
import Derived.Deep.LoopGhost
import Derived.Deep.RegionHeld3
import Derived.Deep.CutRange
import Derived.Deep.CutBlock
import Derived.Deep.QuietTactic
namespace Go.Proofs.YtbpijfncjboamaaDoor
set_option linter.unusedSimpArgs false
set_option linter.unusedVariables false
open Go.RowKit

theorem cut_atU {w : World} {vt : Value} {p : PProg} {a' : Option Addr} {n c' m : Nat} (hm : m ≤ p.code.length) (h : ProgAt w (.agg #[vt, str p.locals, str p.globs, .slice a' n c']) p) : ProgAt w (.agg #[vt, str p.locals, str p.globs, .slice a' m c']) (cutQ p m) := by
  obtain ⟨vt', vc', he, ht, ⟨x, y, rfl, h1, h2, h3⟩⟩ := h
  have he' : vt = vt' ∧ Value.slice a' n c' = .slice x p.code.length y := by
    unfold progC at he
    simp only [Value.agg.injEq, Array.mk.injEq, List.cons.injEq] at he
    exact ⟨he.1, he.2.2.2.1⟩
  obtain ⟨rfl, he2⟩ := he'
  simp only [Value.slice.injEq] at he2
  obtain ⟨rfl, -, rfl⟩ := he2
  have hlen := cutQ_len hm
  exact ⟨vt, .slice a' (cutQ p m).code.length c', by rw [hlen]; rfl, ht, ⟨a', c', rfl, by omega, h2, fun j i hj => h3 j i (cutQ_at hj)⟩⟩
theorem jumps_next {l : List PIns} {m : Nat} {i : PIns} (h : l[m]? = some i) : (l.take (m + 1)).any jumpI = ((l.take m).any jumpI || jumpI i) := by
  obtain ⟨hlt, rfl⟩ := List.getElem?_eq_some_iff.1 h
  rw [List.take_succ_eq_append_getElem hlt, List.any_append]; simp
set_option maxRecDepth 100000 in
set_option maxHeartbeats 8000000 in
theorem umore_at (w W0 : World) (p : PProg) (a0 : Nat) (x x' : Option Addr) (kx kx' : Nat)
    (hW0 : W0 = w.alloc (.cells (progC (.slice x p.types.length kx) p (.slice x' p.code.length kx')) 25)) (KP : Hid (Keep W0 w.heap.size (.slice x p.types.length kx) (.slice x' p.code.length kx') p)) (HB : Hid (Below w.heap.size w W0))
    (HAL : Hid (∀ w1, Calls Tryd.prog 8 #[] w1 (AggPost w1 (.bool true))))
    (HSO : Hid (∀ w1, ProgAt w1 (.agg (progC (.slice x p.types.length kx) p (.slice x' p.code.length kx'))) p → Below w.heap.size w w1 → Calls Tryd.prog 9 #[.agg (progC (.slice x p.types.length kx) p (.slice x' p.code.length kx'))] w1 (AggPost w1 (.bool (soundB p)))))
    (g2 : kx' ≤ 9223372036854775807) (g1 : p.code.length ≤ kx') (ha0 : a0 ≤ 255)
    (HLA : Hid (soundB p = true → ∀ (w1 : World) (k : Int), ProgAt w1 (.agg (progC (.slice x p.types.length kx) p (.slice x' p.code.length kx'))) p → Calls Tryd.prog 11 #[.agg #[.slice x p.types.length kx, str p.locals, str p.globs, .slice x' p.code.length kx'], .int .i64 k] w1 (AggPost w1 (.int .i64 (lastV p k)))))
    (HFU : Hid (soundB p = true → ∀ (w1 : World) (k : Int), ProgAt w1 (.agg (progC (.slice x p.types.length kx) p (.slice x' p.code.length kx'))) p → Calls Tryd.prog 12 #[.agg #[.slice x p.types.length kx, str p.locals, str p.globs, .slice x' p.code.length kx'], .int .i64 k] w1 (AggPost w1 (.bool (decide (0 ≤ lastV p k))))))
    (HCUT : Hid (∀ n, n < p.code.length → (p.code.take (n + 1)).any jumpI = false → soundB p = true → ∀ (w1 : World) (k : Nat) vt vc, ProgAt w1 (.agg (progC vt (cutQ p (n + 1)) vc)) (cutQ p (n + 1)) → k ≤ n → lastL p k = (n : Int) → Calls Tryd.prog 11 #[.agg #[vt, str p.locals, str p.globs, vc], .int .i64 k] w1 (AggPost w1 (.int .i64 n)))) :
    Calls Tryd.prog 5 #[.agg (progC (.slice x p.types.length kx) p (.slice x' p.code.length kx')), .int .u8 a0] w (AggPost w (.bool true)) := by
  go_enter Tryd.func5, Tryd.ntmps5
  go_upto_region 1 with (fail)
  rw [← hW0]
  clear hW0
  rcases hsd : soundB p with _ | _
  · rw [hsd] at HSO
    go_wp2_with (first
      | (refine wpList_loadB rfl 25 _ rfl w.heap.size (progC (.slice x p.types.length kx) p (.slice x' p.code.length kx')) rfl 25 KP.out.blk _ Tryd.underlying25 rfl prog_info ?_)
      | (go_at_call 8; ((with_reducible refine (HAL.out _).mono ?_); rintro e w1 ⟨rfl, hb⟩; have KP := Lib.hid (KP.out.below hb); have HB := Lib.hid (HB.out.trans (hb.mono HB.out.size)); clear hb))
      | (go_at_call 9; ((with_reducible refine (HSO.out _ KP.out.at' HB.out).mono ?_); rintro e w2 ⟨rfl, hb⟩; have KP := Lib.hid (KP.out.below hb); have HB := Lib.hid (HB.out.trans (hb.mono HB.out.size)); clear hb)))
    go_ret
    exact ⟨rfl, HB.out⟩
  obtain ⟨hfw, hl60, hck, hin0, hl1⟩ := sound_parts hsd
  have HCK := Lib.hid hck
  have HLA := Lib.hid (HLA.out hsd)
  have HFU := Lib.hid (HFU.out hsd)
  have HCUT := Lib.hid (fun n h1 h2 => HCUT.out n h1 h2 hsd)
  rw [hsd] at HSO
  clear hin0 hck hsd
  go_upto_region 5 with (first
    | (refine wpList_loadB rfl 25 _ rfl w.heap.size (progC (.slice x p.types.length kx) p (.slice x' p.code.length kx')) rfl 25 KP.out.blk _ Tryd.underlying25 rfl prog_info ?_)
    | (go_at_call 8; ((with_reducible refine (HAL.out _).mono ?_); rintro e w1 ⟨rfl, hb⟩; have KP := Lib.hid (KP.out.below hb); have HB := Lib.hid (HB.out.trans (hb.mono HB.out.size)); clear hb))
    | (go_at_call 9; ((with_reducible refine (HSO.out _ KP.out.at' HB.out).mono ?_); rintro e w2 ⟨rfl, hb⟩; have KP := Lib.hid (KP.out.below hb); have HB := Lib.hid (HB.out.trans (hb.mono HB.out.size)); clear hb)))
  clear HSO HAL
  have hz : ((p.code.length : Int) == 0) = false := by simp; intro h; rw [h] at hl1; simp at hl1
  have hz' : ¬ ((p.code.length : Int) = 0) := by omega
  have p3 := KP.out.cells.2.2.2
  go_upto_region 6 with (fail)
  obtain ⟨m, hm, hmm⟩ : ∃ m : Nat, m < p.code.length ∧ (a0 : Int) % (p.code.length : Int) = m := ⟨a0 % p.code.length, Nat.mod_lt a0 (by omega), rfl⟩
  rw [hmm]
  clear hmm hz hz'
  have hmi : (m : Int) < (p.code.length : Int) := by omega
  have hm0 : (0 : Int) ≤ (m : Int) := by omega
  obtain ⟨i, hi⟩ : ∃ i, p.code[m]? = some i := ⟨_, List.getElem?_eq_getElem hm⟩
  have HLM : Hid (∀ w1, ProgAt w1 (.agg (progC (.slice x p.types.length kx) p (.slice x' p.code.length kx'))) p → Calls Tryd.prog 11 #[.agg #[.slice x p.types.length kx, str p.locals, str p.globs, .slice x' p.code.length kx'], .int .i64 m] w1 (AggPost w1 (.int .i64 (lastL p m)))) := Lib.hid fun w1 h1 => by rw [← lastV_nat hm]; exact HLA.out w1 m h1
  have HFM : Hid (∀ w1, ProgAt w1 (.agg (progC (.slice x p.types.length kx) p (.slice x' p.code.length kx'))) p → Calls Tryd.prog 12 #[.agg #[.slice x p.types.length kx, str p.locals, str p.globs, .slice x' p.code.length kx'], .int .i64 m] w1 (AggPost w1 (.bool (decide (0 ≤ lastL p m))))) := Lib.hid fun w1 h1 => by rw [← lastV_nat hm]; exact HFU.out w1 m h1
  clear HLA HFU p3
  rcases lastL_or (q := p) m with hl | ⟨n, hl, hmn, hnl⟩
  · rw [hl] at HLM HFM
    have HFM : Hid (∀ w1, ProgAt w1 (.agg (progC (.slice x p.types.length kx) p (.slice x' p.code.length kx'))) p → Calls Tryd.prog 12 #[.agg #[.slice x p.types.length kx, str p.locals, str p.globs, .slice x' p.code.length kx'], .int .i64 m] w1 (AggPost w1 (.bool false))) := Lib.hid HFM.out
    go_wp2_with (first
      | (refine wpList_loadB rfl 25 _ rfl w.heap.size (progC (.slice x p.types.length kx) p (.slice x' p.code.length kx')) rfl 25 KP.out.blk _ Tryd.underlying25 rfl prog_info ?_)
      | (go_at_call 11; ((with_reducible refine (HLM.out _ KP.out.at').mono ?_); rintro e wq ⟨rfl, hb⟩; have KP := Lib.hid (KP.out.below hb); have HB := Lib.hid (HB.out.trans (hb.mono HB.out.size)); clear hb))
      | (go_at_call 12; ((with_reducible refine (HFM.out _ KP.out.at').mono ?_); rintro e wq ⟨rfl, hb⟩; have KP := Lib.hid (KP.out.below hb); have HB := Lib.hid (HB.out.trans (hb.mono HB.out.size)); clear hb)))
    go_ret
    exact ⟨rfl, HB.out⟩
  rw [hl] at HLM
  have HCUT := Lib.hid (fun h2 => HCUT.out n hnl h2)
  have HL := Lib.hid hl
  clear HFM hl
  go_upto_region 7 with (first
    | (refine wpList_loadB rfl 25 _ rfl w.heap.size (progC (.slice x p.types.length kx) p (.slice x' p.code.length kx')) rfl 25 KP.out.blk _ Tryd.underlying25 rfl prog_info ?_)
    | (go_at_call 11; ((with_reducible refine (HLM.out _ KP.out.at').mono ?_); rintro e wq ⟨rfl, hb⟩; have KP := Lib.hid (KP.out.below hb); have HB := Lib.hid (HB.out.trans (hb.mono HB.out.size)); clear hb)))
  have p3 := KP.out.cells.2.2.2
  have hn0 : ¬ ((n : Int) < 0) := by omega
  have hn1 : ¬ ((n : Int) ≤ (m : Int)) := by omega
  have hn2 : ¬ ((p.code.length : Int) ≤ (n : Int)) := by omega
  go_upto_region 11 with (fail)
  obtain ⟨bb, o, rfl, hbb, hrg⟩ := prog_ins KP.out.at' hi
  have hkn : (n : Int) + 1 ≤ (kx' : Int) := by omega
  have hkn0 : (0 : Int) ≤ (n : Int) + 1 := by omega
  have hknt : ((n : Int) + 1).toNat = n + 1 := by omega
  have ca3 := blk_cell (blk_alloc KP.out.blk (.cells #[.slice x p.types.length kx, str p.locals, str p.globs, .slice (some ⟨bb, o, none⟩) p.code.length kx'] 25)) 3 _ rfl
  have cb3 := blk_cell (blk_new wq #[.slice x p.types.length kx, str p.locals, str p.globs, .slice (some ⟨bb, o, none⟩) p.code.length kx'] 25) 3 _ rfl
  have cf3 := blk_frozen (blk_new wq #[.slice x p.types.length kx, str p.locals, str p.globs, .slice (some ⟨bb, o, none⟩) p.code.length kx'] 25) 3
  clear hrg hbb p3 HLM hi
  go_wp2_with (first
    | (refine wpList_loadB rfl 25 _ rfl w.heap.size (progC (.slice x p.types.length kx) p (.slice (some ⟨bb, o, none⟩) p.code.length kx')) rfl 25 KP.out.blk _ Tryd.underlying25 rfl prog_info ?_))
  clear ca3 cb3 cf3
  have hbq : Below wq.heap.size wq (wq.alloc (.cells #[.slice x p.types.length kx, .string ⟨p.locals.toArray⟩, .string ⟨p.globs.toArray⟩, .slice (some ⟨bb, o, none⟩) (n + 1) kx'] 25)) := (Below.refl _ _).alloc (Nat.le_refl _) _
  have HQ0 : Hid (Keep (wq.alloc (.cells #[.slice x p.types.length kx, .string ⟨p.locals.toArray⟩, .string ⟨p.globs.toArray⟩, .slice (some ⟨bb, o, none⟩) (n + 1) kx'] 25)) wq.heap.size (.slice x p.types.length kx) (.slice (some ⟨bb, o, none⟩) (n + 1) kx') (cutQ p (n + 1))) := Lib.hid ⟨blk_new wq _ _, (cut_atU (by omega) KP.out.2).below hbq⟩
  have HBQ := Lib.hid (HB.out.trans (hbq.mono HB.out.size))
  obtain ⟨Q, hQ⟩ : ∃ Q, Q = wq.heap.size := ⟨_, rfl⟩
  obtain ⟨wb, hwb⟩ : ∃ wb, wb = wq.alloc (.cells #[.slice x p.types.length kx, .string ⟨p.locals.toArray⟩, .string ⟨p.globs.toArray⟩, .slice (some ⟨bb, o, none⟩) (n + 1) kx'] 25) := ⟨_, rfl⟩
  rw [← hwb] at HQ0 HBQ ⊢
  rw [← hQ] at HQ0 ⊢
  clear hbq hwb hQ KP HB
  have hcl := cutQ_len (q := p) (m := n + 1) (by omega)
  have HCL := Lib.hid hcl
  clear hcl
  go_loopw [50] (fun v50 wr => ∃ j : Nat, j ≤ n + 1 ∧ v50 = .int .i64 j ∧ Hid (Keep wr Q (.slice x p.types.length kx) (.slice (some ⟨bb, o, none⟩) (n + 1) kx') (cutQ p (n + 1))) ∧ Hid (Below w.heap.size w wr) ∧ Hid (((cutQ p (n + 1)).code.take j).any jumpI = false)) (fun v50 _ => n + 1 - (intOf v50).toNat)
  case atStart => exact ⟨0, Nat.zero_le _, rfl, HQ0, HBQ, Lib.hid (by simp)⟩
  case round =>
    obtain ⟨j, hj, rfl, KP, HB, HJ⟩ := hrel
    clear HQ0 HBQ
    by_cases hjl : j < n + 1
    · have hji : (j : Int) < ((n + 1 : Nat) : Int) := by omega
      have hji2 : (j : Int) < (n : Int) + 1 := by omega
      have hj0 : (0 : Int) ≤ (j : Int) := by omega
      obtain ⟨i, hij⟩ : ∃ i, (cutQ p (n + 1)).code[j]? = some i := ⟨_, List.getElem?_eq_getElem (by rw [HCL.out]; exact hjl)⟩
      have HJN := Lib.hid (jumps_next hij)
      have hkat : ProgAt wr (.agg (progC (.slice x p.types.length kx) (cutQ p (n + 1)) (.slice (some ⟨bb, o, none⟩) (cutQ p (n + 1)).code.length kx'))) (cutQ p (n + 1)) := by rw [HCL.out]; exact KP.out.at'
      obtain ⟨b2, o2, e2, hb2, hr2⟩ := prog_ins hkat hij
      cases e2
      obtain ⟨op, ia, b, c, nI⟩ := i
      obtain ⟨d0, d1, d2, d3, d4⟩ : (wr.cell? ⟨bb, o + j * 5, none⟩ = some (.int .u8 op)) ∧ wr.cell? ⟨bb, o + j * 5 + 1, none⟩ = some (.int .u8 ia) ∧ wr.cell? ⟨bb, o + j * 5 + 2, none⟩ = some (.int .u8 b) ∧ wr.cell? ⟨bb, o + j * 5 + 3, none⟩ = some (.int .u8 c) ∧ wr.cell? ⟨bb, o + j * 5 + 4, none⟩ = some (.int .i64 nI) := ⟨hr2 0 _ rfl, hr2 1 _ rfl, hr2 2 _ rfl, hr2 3 _ rfl, hr2 4 _ rfl⟩
      clear hr2 hij hb2 hkat
      go_upto_region 16 with (fail)
      clear d0 d1 d2 d3 d4
      have hab : Below wr.heap.size wr (wr.alloc (.cells (insC ⟨op, ia, b, c, nI⟩) 39)) := (Below.refl _ _).alloc (Nat.le_refl _) _
      have KP := Lib.hid (KP.out.below hab)
      have HB := Lib.hid (HB.out.trans (hab.mono HB.out.size))
      have HI : Hid (blk (wr.alloc (.cells (insC ⟨op, ia, b, c, nI⟩) 39)) wr.heap.size (insC ⟨op, ia, b, c, nI⟩) 39) := Lib.hid (blk_new _ _ _)
      obtain ⟨I, hI⟩ : ∃ I, I = wr.heap.size := ⟨_, rfl⟩
      obtain ⟨wa, hwa⟩ : ∃ wa, wa = wr.alloc (.cells (insC ⟨op, ia, b, c, nI⟩) 39) := ⟨_, rfl⟩
      rw [← hwa] at KP HB HI ⊢
      rw [← hI] at HI ⊢
      clear hab hwa hI
      have c0 : wa.cell? ⟨I, 0, none⟩ = some (.int .u8 op) := blk_cell HI.out 0 _ rfl
      have c1 : wa.cell? ⟨I, 1, none⟩ = some (.int .u8 ia) := blk_cell HI.out 1 _ rfl
      have c4 : wa.cell? ⟨I, 4, none⟩ = some (.int .i64 nI) := blk_cell HI.out 4 _ rfl
      by_cases h3 : op = 3
      · subst h3
        go_wp2
        go_ret
        exact ⟨rfl, HB.out⟩
      by_cases h4 : op = 4
      · subst h4
        go_wp2
        go_ret
        exact ⟨rfl, HB.out⟩
      have q3 : (op == 3) = false := by simpa using h3
      have q4 : (op == 4) = false := by simpa using h4
      have HJ2 : Hid (((cutQ p (n + 1)).code.take (j + 1)).any jumpI = false) := Lib.hid (by rw [HJN.out, HJ.out]; unfold jumpI; simp [h3, h4])
      clear HJ HJN h3 h4
      go_wp2
      go_roundw
      case rel => exact ⟨j + 1, by omega, by go_num, KP, HB, HJ2⟩
      case measure => simp [intOf]; omega
    · have hje : j = n + 1 := by omega
      have HX : Hid (∀ w1, ProgAt w1 (.agg (progC (.slice x p.types.length kx) (cutQ p (n + 1)) (.slice (some ⟨bb, o, none⟩) (n + 1) kx'))) (cutQ p (n + 1)) → Calls Tryd.prog 11 #[.agg (progC (.slice x p.types.length kx) (cutQ p (n + 1)) (.slice (some ⟨bb, o, none⟩) (n + 1) kx')), .int .i64 m] w1 (AggPost w1 (.int .i64 n))) := Lib.hid fun w1 h1 => HCUT.out (by
        have h9 := HJ.out
        rw [hje, show (cutQ p (n + 1)).code = p.code.take (n + 1) from rfl, List.take_take, Nat.min_self] at h9
        exact h9) w1 m _ _ h1 (by omega) HL.out
      have hjn : ¬ ((j : Int) < ((n + 1 : Nat) : Int)) := by omega
      have hjn2 : ¬ ((j : Int) < (n : Int) + 1) := by omega
      clear hje HJ HCUT
      go_wp2_with (first
        | (refine wpList_loadB rfl 25 _ rfl Q (progC (.slice x p.types.length kx) (cutQ p (n + 1)) (.slice (some ⟨bb, o, none⟩) (n + 1) kx')) rfl 25 KP.out.blk _ Tryd.underlying25 rfl prog_info ?_)
        | (go_at_call 11; ((with_reducible refine (HX.out _ KP.out.at').mono ?_); rintro e wq ⟨rfl, hb⟩; have KP := Lib.hid (KP.out.below hb); have HB := Lib.hid (HB.out.trans (hb.mono HB.out.size)); clear hb)))
      go_ret
      exact ⟨rfl, HB.out⟩
theorem umore_walk (v : Value) (p : PProg) (a : Int) (w : World) (h : ProgAt w v p) (hs : OkP p) (ha0 : 0 ≤ a) (ha : a ≤ 255) (ht' : HasT w) : Calls Tryd.prog 5 #[v, .int .u8 a] w fun e w' => e = .returned (.bool true) ∧ Below w.heap.size w w' := by
  obtain ⟨vt, vc, rfl, ht, hc⟩ := id h
  have hwb : Below w.heap.size w (w.alloc (.cells (progC vt p vc) 25)) := (Below.refl _ _).alloc (Nat.le_refl _) _
  have HK := keep_new h
  obtain ⟨x, c, rfl, -, -, -⟩ := id ht.elems
  obtain ⟨x', c', rfl, q1, q2, -⟩ := id hc
  unfold maxLen at q2
  obtain ⟨ka, rfl⟩ : ∃ ka : Nat, a = ka := ⟨a.toNat, by omega⟩
  exact umore_at w _ p ka x x' c c' rfl (Lib.hid HK) (Lib.hid hwb) (Lib.hid fun w1 => ualive_n w1) (Lib.hid fun w1 h1 hb1 => sound_n _ p w1 _ h1 hs (ht'.below hb1) rfl) (by omega) q1 (by omega) (Lib.hid fun hsd w1 k h1 => ulast_n _ p w1 k h1 hs (sound_parts hsd).2.2.1) (Lib.hid fun hsd w1 k h1 => ufull_n _ p w1 k h1 hs (sound_parts hsd).2.2.1) (Lib.hid fun n h1 h2 hsd w1 k vt vc h3 h4 h5 => by
    have hck := (sound_parts hsd).2.2.1
    have h6 : (checkL (cutQ p (n + 1))).2 = 0 := check_cut hck (by omega) (by omega) (fun i hi => by
      rcases hj : jumpI i with _ | _
      · rfl
      · have : (p.code.take (n + 1)).any jumpI = true := List.any_eq_true.2 ⟨i, hi, hj⟩
        rw [h2] at this; cases this)
    have h7 := ulast_n _ (cutQ p (n + 1)) w1 k h3 (cutQ_ok hs) h6
    rw [lastV_nat (by rw [cutQ_len (by omega)]; omega), last_cut h5 h1] at h7
    exact h7)
end Go.Proofs.YtbpijfncjboamaaDoor
