/-
  CheckFirst: the walk, where there is an error at an instruction.
-/
import Derived.Test.YtclkccbihnccgaaDoorHLaw4
namespace Go.Proofs.YtclkccbihnccgaaDoor
open Go.RowKit

theorem nojump_next {p : PProg} {m : Nat} {i : PIns} (h : ∀ j ∈ p.code.take m, jumpI j = false) (hi : p.code[m]? = some i) (hj : jumpI i = false) : ∀ j ∈ p.code.take (m + 1), jumpI j = false := by
  obtain ⟨hlt, rfl⟩ := List.getElem?_eq_some_iff.1 hi
  intro j hm
  rw [List.take_succ_eq_append_getElem hlt] at hm
  rcases List.mem_append.1 hm with hm | hm
  · exact h j hm
  · simp at hm; subst hm; exact hj

set_option maxRecDepth 100000 in
set_option maxHeartbeats 4000000 in
theorem first_ok (w W0 : World) (p : PProg) (more : List PIns) (zn : Nat) (e : Int) (x x' xm : Option Addr) (k k' km : Nat)
    (hW0 : W0 = w.alloc (.cells #[.slice x p.types.length k, str p.locals, str p.globs, .slice x' p.code.length k'] 25))
    (KP : Hid (Keep W0 w.heap.size (.slice x p.types.length k) (.slice x' p.code.length k') p)) (HS : Hid (Below w.heap.size w W0)) (hcl : p.code.length ≤ 210) (hml : more.length ≤ 100) (hsum : p.code.length + more.length ≤ 200) (hzl : zn < p.code.length)
    (hk1 : p.code.length ≤ k') (hk2 : k' ≤ 9223372036854775807)
    (HAL : Hid (∀ w1, Below W0.heap.size W0 w1 → Calls Tryd.prog 8 #[] w1 (AggPost w1 (.bool true))))
    (HF : Hid (∀ w1, Below W0.heap.size W0 w1 → Calls Tryd.prog 9 #[.agg #[.slice x p.types.length k, str p.locals, str p.globs, .slice x' p.code.length k']] w1 (AggPost w1 (.bool true))))
    (HC : Hid (∀ w1, Below W0.heap.size W0 w1 → Calls Tryd.prog 10 #[.agg #[.slice x p.types.length k, str p.locals, str p.globs, .slice x' p.code.length k']] w1 (ChkPost w1 zn e)))
    (HC2 : Hid ((∀ i ∈ p.code, jumpI i = false) → ∀ v w1, ProgAt w1 v (addP p more) → Below W0.heap.size W0 w1 → Calls Tryd.prog 10 #[v] w1 (ChkPost w1 zn e)))
    (HC3 : Hid ((∀ i ∈ p.code, jumpI i = false) → 0 < zn → ∀ v w1, ProgAt w1 v (takeP p zn) → Below W0.heap.size W0 w1 → Calls Tryd.prog 10 #[v] w1 (ChkPost w1 (-1) 0)))
    (HCO : Hid (InsRow W0 (.slice x' p.code.length k') p.code)) (HTY : Hid (RowAt W0 (.slice x p.types.length k) (p.types.map str))) (HMO : Hid (InsRow W0 (.slice xm more.length km) more)) (HFM : Hid (FormS (.slice xm more.length km)))
    (e1 : (e == 0) = false) (e2 : (e != e) = false) :
    Calls Tryd.prog 3 #[.agg #[.slice x p.types.length k, str p.locals, str p.globs, .slice x' p.code.length k'], .slice xm more.length km] w (AggPost w (.bool true)) := by
  have HB := Lib.hid (Below.refl W0.heap.size W0)
  have hwl := blk_lt KP.out.blk
  go_enter Tryd.func3, Tryd.ntmps3
  go_wp2_with (fail)
  rw [← hW0]
  clear hW0
  go_wp2_with (first
    | (refine wpList_loadB rfl 25 _ rfl w.heap.size (progC (.slice x p.types.length k) p (.slice x' p.code.length k')) rfl 25 KP.out.blk _ Tryd.underlying25 rfl prog_info ?_)
    | (go_at_call 8; refine (HAL.out _ HB.out).mono ?_; rintro e1 w1 ⟨rfl, hb⟩; have HB := Lib.hid (HB.out.trans (hb.mono HB.out.size)); have KP := Lib.hid (KP.out.below hb); clear hb)
    | (go_at_call 9; refine (HF.out _ HB.out).mono ?_; rintro e1 w2 ⟨rfl, hb⟩; have HB := Lib.hid (HB.out.trans (hb.mono HB.out.size)); have KP := Lib.hid (KP.out.below hb); clear hb; obtain ⟨p0, p1, p2, p3⟩ := KP.out.cells)
    | (go_at_call 10; refine (HC.out _ HB.out).mono ?_; rintro e1 w3 ⟨rfl, hb⟩; have HB := Lib.hid (HB.out.trans (hb.mono HB.out.size)); have KP := Lib.hid (KP.out.below hb); clear hb p0 p1 p2 p3; obtain ⟨p0, p1, p2, p3⟩ := KP.out.cells))
  clear p0 p1 p2 p3
  go_loopw [49] (fun v wr => ∃ m : Nat, m ≤ p.code.length ∧ v = .int .i64 m ∧ Hid (∀ j ∈ p.code.take m, jumpI j = false) ∧ Hid (Below W0.heap.size W0 wr) ∧ Hid (Keep wr w.heap.size (.slice x p.types.length k) (.slice x' p.code.length k') p)) (fun v _ => p.code.length - (intOf v).toNat)
  case atStart => exact ⟨0, Nat.zero_le _, rfl, Lib.hid (by simp), HB, KP⟩
  case round =>
    obtain ⟨m, hm, rfl, hnj, hbw, hkw⟩ := hrel
    clear HB KP
    by_cases hlt : m < p.code.length
    · obtain ⟨i, hi⟩ : ∃ i, p.code[m]? = some i := ⟨_, List.getElem?_eq_getElem hlt⟩
      obtain ⟨x1, k1, ex, _, _, hcc⟩ := HCO.out
      simp only [Value.slice.injEq] at ex
      obtain ⟨rfl, -, rfl⟩ := ex
      obtain ⟨b, o, rfl, hb, hcell⟩ := hcc m i hi
      have hr := Lib.hid (rangeAt_below hcell hb hbw.out)
      have HI := Lib.hid hi
      have hsz := hbw.out.size
      have HBA := Lib.hid (hbw.out.alloc hsz (.cells (insC i) 32))
      have KPA := Lib.hid (hkw.out.below ((Below.refl wr.heap.size wr).alloc (Nat.le_refl _) (.cells (insC i) 32)))
      have KIA := Lib.hid (blk_new wr (insC i) 32)
      clear hcell hb hi hcc
      obtain ⟨op, ia, ib, ic, iN⟩ := i
      have d0 : (wr.alloc (.cells (insC ⟨op, ia, ib, ic, iN⟩) 32)).cell? ⟨wr.heap.size, 0, none⟩ = some (.int .u8 op) := blk_cell KIA.out 0 _ rfl
      by_cases h3 : op = 3
      · subst h3
        go_upto_region 11 with (refine wpList_load_mid rfl 32 _ rfl b (o + m * 5) rfl (insC ⟨3, ia, ib, ic, iN⟩).toList _ hr.out Tryd.underlying32 rfl ins_info ?_)
        go_wp2
        go_ret
        exact ⟨rfl, HS.out.trans (HBA.out.mono HS.out.size)⟩
      · have t3 : (op == 3) = false := by simp [h3]
        have H3 := Lib.hid h3
        clear h3
        by_cases h4 : op = 4
        · subst h4
          go_upto_region 11 with (refine wpList_load_mid rfl 32 _ rfl b (o + m * 5) rfl (insC ⟨4, ia, ib, ic, iN⟩).toList _ hr.out Tryd.underlying32 rfl ins_info ?_)
          go_wp2
          go_ret
          exact ⟨rfl, HS.out.trans (HBA.out.mono HS.out.size)⟩
        · have t4 : (op == 4) = false := by simp [h4]
          have H4 := Lib.hid h4
          clear h4
          have HJ := Lib.hid (nojump_next hnj.out HI.out (by simp [jumpI, H3.out, H4.out]))
          go_upto_region 11 with (refine wpList_load_mid rfl 32 _ rfl b (o + m * 5) rfl (insC ⟨op, ia, ib, ic, iN⟩).toList _ hr.out Tryd.underlying32 rfl ins_info ?_)
          go_wp2
          go_roundw
          case rel => exact ⟨m + 1, by omega, by go_num, HJ, HBA, KPA⟩
          case measure => simp [intOf]; omega
    · obtain rfl : m = p.code.length := by omega
      have HNJ : Hid (∀ i ∈ p.code, jumpI i = false) := Lib.hid (by have := hnj.out; rw [List.take_length] at this; exact this)
      have HC2 := Lib.hid (HC2.out HNJ.out)
      have HC3 := Lib.hid (HC3.out HNJ.out)
      clear HNJ hnj
      go_upto_region 15 with (refine wpList_loadB rfl 25 _ rfl w.heap.size (progC (.slice x p.types.length k) p (.slice x' p.code.length k')) rfl 25 hkw.out.blk _ Tryd.underlying25 rfl prog_info ?_)
      have hb4 : Below wr.heap.size wr (wr.alloc (.cells #[.slice x p.types.length k, .string ⟨p.locals.toArray⟩, .string ⟨p.globs.toArray⟩, .slice x' p.code.length k'] 25)) := (Below.refl _ _).alloc (Nat.le_refl _) _
      have KQ := Lib.hid ((⟨blk_new wr #[.slice x p.types.length k, .string ⟨p.locals.toArray⟩, .string ⟨p.globs.toArray⟩, .slice x' p.code.length k'] 25, hkw.out.2.below hb4⟩ : Keep (wr.alloc (.cells #[.slice x p.types.length k, .string ⟨p.locals.toArray⟩, .string ⟨p.globs.toArray⟩, .slice x' p.code.length k'] 25)) wr.heap.size (.slice x p.types.length k) (.slice x' p.code.length k') p))
      have KP4 := Lib.hid (hkw.out.below hb4)
      have HB4 := Lib.hid (hbw.out.trans (hb4.mono hbw.out.size))
      have hq4 := blk_lt KQ.out.blk
      have hq0 := hbw.out.size
      clear hb4 hkw hbw HF HC
      generalize wr.alloc (.cells #[.slice x p.types.length k, .string ⟨p.locals.toArray⟩, .string ⟨p.globs.toArray⟩, .slice x' p.code.length k'] 25) = W4 at *
      generalize wr.heap.size = Q at *
      have p3 := KP4.out.cells.2.2.2
      have HFP : Hid (FormS (.slice x' p.code.length k')) := by
        obtain ⟨x1, k1, ex, _, _, hcc⟩ := HCO.out
        simp only [Value.slice.injEq] at ex
        obtain ⟨rfl, -, rfl⟩ := ex
        obtain ⟨b, o, rfl, _⟩ := hcc 0 _ (List.getElem?_eq_getElem (by omega))
        exact Lib.hid (.inr ⟨_, _, _, rfl⟩)
      go_wp2_with (at_builtin; refine wpList_append_ins rfl _ _ rfl W4.heap.size _ [] p.code rfl (World.ownsRow_nil _ _ _ _) _ rfl ?c0 ?c1 ?c2 ?c3 ?_)
      case c0 => exact HCO.out.below HB4.out
      case c1 => exact HFP.out
      case c2 => simp; omega
      case c3 => exact Nat.le_refl _
      intro v1 w5 ho1 b1
      have ho1 : w5.ownsRow W4.heap.size 32 5 v1 p.code.length (codeCells p.code) := ho1
      have s5 := b1.size
      go_wp2_with (at_builtin; refine wpList_append_ins rfl _ _ rfl W4.heap.size _ p.code more rfl ho1 _ rfl ?d0 ?d1 ?d2 ?d3 ?_)
      case d0 => exact HMO.out.below (HB4.out.trans (b1.mono HB4.out.size))
      case d1 => exact HFM.out
      case d2 => omega
      case d3 => exact s5
      intro v2 w6 ho2 b2
      have ho2 : w6.ownsRow W4.heap.size 32 5 v2 (p.code ++ more).length (codeCells (p.code ++ more)) := by rw [List.length_append]; simpa using ho2
      obtain ⟨g2, cap2, rfl⟩ : ∃ g cap, v2 = .slice (some ⟨g, 0, none⟩) (p.code ++ more).length cap := by
        rcases ownsRow_forms ho2 with ⟨_, h⟩ | h
        · rw [List.length_append] at h; omega
        · exact h
      have hg2 : W4.heap.size ≤ g2 := by
        rcases ho2.2 with ⟨h, _⟩ | ⟨g, cap, cur, h, hB, _⟩
        · cases h
        · simp only [Value.slice.injEq, Option.some.injEq, Addr.mk.injEq] at h
          rw [h.1.1]; exact hB
      have b3 := b1.trans b2
      have KQ6 := Lib.hid (KQ.out.below b3)
      have KP6 := Lib.hid (KP4.out.below b3)
      have HB6 := Lib.hid (HB4.out.trans (b3.mono HB4.out.size))
      have hir := insRow_own ho2
      have hlen : (p.code ++ more).length = (addP p more).code.length := rfl
      generalize hnn : (p.code ++ more).length = nn at *
      have hbs : Below W0.heap.size W0 (w6.setCell ⟨Q, 3, none⟩ (.slice (some ⟨g2, 0, none⟩) nn cap2)) := HB6.out.setCell (p := ⟨Q, 3, none⟩) hq0 _
      have HB7 := Lib.hid hbs
      have KM := Lib.hid (code_put (p := p) (q := addP p more) KQ6.out.blk (HTY.out.below hbs) (insRow_set KQ6.out.blk (by omega) hir _) rfl rfl)
      have KP7 := Lib.hid ((⟨by rw [setCell_putB KQ6.out.blk]; unfold blk; rw [putB_ne _ (by omega)]; exact KP6.out.blk, ⟨_, _, rfl, HTY.out.below hbs, HCO.out.below hbs⟩⟩ : Keep (w6.setCell ⟨Q, 3, none⟩ (.slice (some ⟨g2, 0, none⟩) nn cap2)) w.heap.size (.slice x p.types.length k) (.slice x' p.code.length k') p))
      have q3 := KQ6.out.cells.2.2.2
      have f3 := blk_frozen KQ6.out.blk 3
      clear ho1 ho2 b1 b2 b3 hbs p3 KQ KQ6 KP6 KP4 HB4 HB6 hir hlen hnn
      by_cases hz : 0 < zn
      · have HC3 := Lib.hid (HC3.out hz)
        go_upto_region 20 with (first
          | (refine wpList_loadB rfl 25 _ rfl Q (progC (.slice x p.types.length k) (addP p more) (.slice (some ⟨g2, 0, none⟩) nn cap2)) rfl 25 KM.out.blk _ Tryd.underlying25 rfl prog_info ?_)
          | (go_at_call 10; refine (HC2.out _ _ KM.out.at' HB7.out).mono ?_; rintro e1 w8 ⟨rfl, hb⟩; have HB8 := Lib.hid (HB7.out.trans (hb.mono HB7.out.size)); have KM8 := Lib.hid (KM.out.below hb); have KP8 := Lib.hid (KP7.out.below hb); clear hb q3 f3))
        have p3 := KP8.out.cells.2.2.2
        have q3 : w8.cell? ⟨Q, 3, none⟩ = some (.slice (some ⟨g2, 0, none⟩) nn cap2) := KM8.out.cells.2.2.2
        have f3 := blk_frozen KM8.out.blk 3
        have hbs : Below W0.heap.size W0 (w8.setCell ⟨Q, 3, none⟩ (.slice x' zn k')) := HB8.out.setCell (p := ⟨Q, 3, none⟩) hq0 _
        have HB9 := Lib.hid hbs
        have KT := Lib.hid (code_put (p := addP p more) (q := takeP p zn) KM8.out.blk (HTY.out.below hbs) (insRow_take (HCO.out.below hbs) (by omega)) rfl rfl)
        clear hbs KM HC2
        go_wp2_with (first
          | (refine wpList_loadB rfl 25 _ rfl Q (progC (.slice x p.types.length k) (takeP p zn) (.slice x' zn k')) rfl 25 KT.out.blk _ Tryd.underlying25 rfl prog_info ?_)
          | (go_at_call 10; refine (HC3.out _ _ KT.out.at' HB9.out).mono ?_; rintro e1 w9 ⟨rfl, hb⟩; have HB10 := Lib.hid (HB9.out.trans (hb.mono HB9.out.size)); clear hb))
        go_ret
        exact ⟨rfl, HS.out.trans (HB10.out.mono HS.out.size)⟩
      · go_wp2_with (first
          | (refine wpList_loadB rfl 25 _ rfl Q (progC (.slice x p.types.length k) (addP p more) (.slice (some ⟨g2, 0, none⟩) nn cap2)) rfl 25 KM.out.blk _ Tryd.underlying25 rfl prog_info ?_)
          | (go_at_call 10; refine (HC2.out _ _ KM.out.at' HB7.out).mono ?_; rintro e1 w8 ⟨rfl, hb⟩; have HB8 := Lib.hid (HB7.out.trans (hb.mono HB7.out.size)); clear hb))
        go_ret
        exact ⟨rfl, HS.out.trans (HB8.out.mono HS.out.size)⟩
theorem ins_box {W : World} {x' : Option Addr} {n k' : Nat} {vt : Value} {p : PProg} {b : Nat} (h : Keep W b vt (.slice x' n k') p) : InsRow W (.slice x' n k') p.code ∧ RowAt W vt (p.types.map str) := by
  obtain ⟨vt', vc, he, ht, hc⟩ := h.at'
  simp only [progC, Value.agg.injEq, Array.mk.injEq, List.cons.injEq] at he
  obtain ⟨rfl, _, _, rfl, _⟩ := he
  exact ⟨hc, ht⟩
theorem first_walk (v u : Value) (p : PProg) (more : List PIns) (w : World) (h : ProgAt w v p) (hs : OkP p) (hm : InsRow w u more) (hmo : ∀ i ∈ more, OkI i) (hf : FormS u) (hO : HasO w) : Calls Tryd.prog 3 #[v, u] w (AggPost w (.bool true)) := by
  obtain ⟨x, k, x', k', rfl, g1, g2, g3, g4, hwb, kp⟩ := prog_box h
  have hO0 := hO.below hwb
  have hm0 := hm.below hwb
  obtain ⟨xm, km, rfl, m1, m2, -⟩ := id hm
  unfold maxLen at m2
  generalize hW0 : w.alloc (.cells #[.slice x p.types.length k, str p.locals, str p.globs, .slice x' p.code.length k'] 25) = W0 at hwb kp hO0 hm0
  have hp := kp.at'
  obtain ⟨hco, hty⟩ := ins_box kp
  have HAL := Lib.hid (fun w1 (hb : Below W0.heap.size W0 w1) => alive_any w1 (hO0.below hb))
  have HF := Lib.hid (fun w1 (hb : Below W0.heap.size W0 w1) => few_b _ p _ w1 (hp.below hb) hs rfl)
  have HC := Lib.hid (fun w1 (hb : Below W0.heap.size W0 w1) => check_n _ p _ _ w1 (hp.below hb) hs (hO0.below hb) rfl rfl)
  have hfew : fewP p = true → p.code.length ≤ 210 := fun h => by
    unfold fewP at h
    simp only [Bool.and_eq_true, decide_eq_true_eq] at h
    exact h.2
  by_cases hno : fewP p = false ∨ 100 < more.length ∨ 200 < p.code.length + more.length ∨ (((checkL p).2 : Int) = 0 ∨ (checkL p).1 < 0)
  · refine first_no w W0 p more _ _ _ x x' xm k k' km hW0.symm (Lib.hid kp) (Lib.hid hwb) (Lib.hid hfew) (by omega) HAL HF HC (Lib.hid ?_)
    rcases hno with h | h | h | h
    · exact .inl h
    · exact .inr (.inl h)
    · exact .inr (.inr (.inl h))
    · refine .inr (.inr (.inr ⟨h, ?_⟩))
      rcases check_cases p with ⟨_, e⟩ | ⟨_, _, e⟩ | ⟨_, _, _, _, e⟩ | ⟨_, _, _, a, i, b, _, _, hi, e⟩
      · rw [e]
      · rw [e]
      · rw [e]
      · rw [e] at h
        simp only at h
        rcases h with h | h
        · exact absurd (by omega) hi
        · omega
  · have hb : fewP p = true := by
      rcases hf : fewP p with _ | _
      · exact absurd (.inl hf) hno
      · rfl
    have h1 : more.length ≤ 100 := Nat.le_of_not_lt fun h => hno (.inr (.inl h))
    have h2 : p.code.length + more.length ≤ 200 := Nat.le_of_not_lt fun h => hno (.inr (.inr (.inl h)))
    have h3 : ((checkL p).2 : Int) ≠ 0 := fun h => hno (.inr (.inr (.inr (.inl h))))
    have h4 : 0 ≤ (checkL p).1 := Int.not_lt.1 fun h => hno (.inr (.inr (.inr (.inr h))))
    obtain ⟨zn, hzn⟩ : ∃ zn : Nat, (checkL p).1 = zn := ⟨(checkL p).1.toNat, by omega⟩
    have hlt : (checkL p).1 < p.code.length := by
      rcases check_cases p with ⟨_, e⟩ | ⟨_, _, e⟩ | ⟨_, _, _, _, e⟩ | ⟨_, _, _, a, i, b, hc, _, hi, e⟩
      · rw [e] at h4; simp at h4
      · rw [e] at h4; simp at h4
      · rw [e] at h4; simp at h4
      · rw [e, hc]; simp; omega
    have hlaw := fun (hj : ∀ i ∈ p.code, jumpI i = false) => law_first (p := p) (by omega) h4 hj more h2
    rw [hb] at HF
    have HCz := Lib.hid (fun w1 (hb : Below W0.heap.size W0 w1) => check_n _ p zn _ w1 (hp.below hb) hs (hO0.below hb) hzn rfl)
    refine first_ok w W0 p more zn _ x x' xm k k' km hW0.symm (Lib.hid kp) (Lib.hid hwb) (hfew hb) h1 h2 (by omega) g3 g4 HAL HF HCz
      (Lib.hid fun hj v w1 h hb => check_n v (addP p more) zn _ w1 h (add_ok hs hmo) (hO0.below hb) ?_ ?_)
      (Lib.hid fun hj hz v w1 h hb => check_n v (takeP p zn) (-1) 0 w1 h (take_ok hs) (hO0.below hb) ?_ ?_) (Lib.hid hco) (Lib.hid hty) (Lib.hid hm0) (Lib.hid hf) (by simp; omega) (by simp)
    · have := (hlaw hj).1
      have e : checkL (addP p more) = checkL p := this
      rw [e, hzn]
    · have := (hlaw hj).1
      have e : checkL (addP p more) = checkL p := this
      rw [e]
    · have := (hlaw hj).2.1 (by omega)
      rw [hzn, Int.toNat_natCast] at this
      have e : checkL (takeP p zn) = (-1, 0) := this
      rw [e]
    · have := (hlaw hj).2.1 (by omega)
      rw [hzn, Int.toNat_natCast] at this
      have e : checkL (takeP p zn) = (-1, 0) := this
      rw [e]; rfl
end Go.Proofs.YtclkccbihnccgaaDoor
