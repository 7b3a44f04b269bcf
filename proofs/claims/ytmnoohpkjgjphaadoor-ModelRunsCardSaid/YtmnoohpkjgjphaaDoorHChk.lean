/-
  Contracts of check: Check, Need.
-/
import Derived.Test.YtmnoohpkjgjphaaDoorHErr
namespace Go.Proofs.YtmnoohpkjgjphaaDoor
set_option linter.unusedSimpArgs false
set_option linter.unusedVariables false
open Go.RowKit

theorem check_here {p : PProg} {k : Nat} {i : PIns} (hh : headB p = true) (h1 : 1 ≤ p.code.length) (h2 : p.code.length ≤ 200) (hk : p.code[k]? = some i) (hall : ∀ j ∈ p.code.take k, insE p p.code.length j = 0) (hi : insE p p.code.length i ≠ 0) : checkL p = ((k : Int), insE p p.code.length i) := by
  obtain ⟨hlt, rfl⟩ := List.getElem?_eq_some_iff.1 hk
  rw [check_code hh h1 h2]
  have e : firstE p p.code.length 0 p.code = firstE p p.code.length 0 (p.code.take k ++ p.code[k] :: p.code.drop (k + 1)) := by
    congr 1
    rw [← List.drop_eq_getElem_cons hlt, List.take_append_drop]
  rw [e, firstE_at 0 hall hi, List.length_take, Nat.min_eq_left (Nat.le_of_lt hlt)]
  simp
theorem check_none {p : PProg} (hh : headB p = true) (h1 : 1 ≤ p.code.length) (h2 : p.code.length ≤ 200) (hall : ∀ j ∈ p.code, insE p p.code.length j = 0) : checkL p = (-1, 0) := by
  rw [check_code hh h1 h2, firstE_all 0 hall]
theorem all0_next {p : PProg} {k : Nat} {i : PIns} (h : ∀ j ∈ p.code.take k, insE p p.code.length j = 0) (hk : p.code[k]? = some i) (hi : insE p p.code.length i = 0) : ∀ j ∈ p.code.take (k + 1), insE p p.code.length j = 0 := by
  obtain ⟨hlt, rfl⟩ := List.getElem?_eq_some_iff.1 hk
  intro j hj
  rw [List.take_succ_eq_append_getElem hlt] at hj
  rcases List.mem_append.1 hj with hj | hj
  · exact h j hj
  · simp at hj; subst hj; exact hi
def ChkPost (w : World) (z e : Int) : Ending → World → Prop := AggPost w (.tuple #[.int .i64 z, .int .i64 e])
theorem chk_post {w w' : World} {z e z' e' : Int} (h1 : z = z') (h2 : e = e') (h : Below w.heap.size w w') : ChkPost w z' e' (.returned (.tuple #[.int .i64 z, .int .i64 e])) w' := ⟨by rw [h1, h2], h⟩
set_option maxRecDepth 100000 in
set_option maxHeartbeats 2000000 in
theorem check_at (w W0 : World) (p : PProg) (x x' : Option Addr) (k k' : Nat) (z e : Int)
    (hW0 : W0 = w.alloc (.cells #[.slice x p.types.length k, str p.locals, str p.globs, .slice x' p.code.length k'] 25))
    (KP : Hid (Keep W0 w.heap.size (.slice x p.types.length k) (.slice x' p.code.length k') p)) (HS : Hid (Below w.heap.size w W0))
    (HC : Hid (∀ j i, p.code[j]? = some i → ∃ b o, x' = some ⟨b, o, none⟩ ∧ b < W0.heap.size ∧ W0.rangeAt b (o + j * 5) (insC i).toList)) (HOI : Hid (∀ i ∈ p.code, OkI i)) (g1 : p.code.length ≤ k') (g2 : k' ≤ 9223372036854775807)
    (HK : Hid (∀ w1, Below W0.heap.size W0 w1 → Calls Tryd.prog 52 #[.agg #[.slice x p.types.length k, str p.locals, str p.globs, .slice x' p.code.length k']] w1 (AggPost w1 (.bool (headB p)))))
    (HE : Hid (∀ w1 i e, Below W0.heap.size W0 w1 → OkI i → ((insE p p.code.length i : Nat) : Int) = e → Calls Tryd.prog 53 #[.agg #[.slice x p.types.length k, str p.locals, str p.globs, .slice x' p.code.length k'], insV i] w1 (AggPost w1 (.int .i64 e))))
    (hz : Hid ((checkL p).1 = z)) (he : Hid (((checkL p).2 : Int) = e)) :
    Calls Tryd.prog 36 #[.agg #[.slice x p.types.length k, str p.locals, str p.globs, .slice x' p.code.length k']] w (ChkPost w z e) := by
  have HB := Lib.hid (Below.refl W0.heap.size W0)
  rcases hh : headB p with _ | _
  · have HH := Lib.hid hh
    have HK1 : Hid (∀ w1, Below W0.heap.size W0 w1 → Calls Tryd.prog 52 #[.agg #[.slice x p.types.length k, str p.locals, str p.globs, .slice x' p.code.length k']] w1 (AggPost w1 (.bool false))) := by rw [← hh]; exact HK
    clear hh HK
    go_enter Tryd.func36, Tryd.ntmps36
    go_wp2_with (fail)
    rw [← hW0]
    clear hW0
    go_wp2_with (first
      | (refine wpList_loadB rfl 25 _ rfl w.heap.size (progC (.slice x p.types.length k) p (.slice x' p.code.length k')) rfl 25 KP.out.blk _ Tryd.underlying25 rfl prog_info ?_)
      | (go_at_call 52; refine (HK1.out _ HB.out).mono ?_; rintro e1 w1 ⟨rfl, hb⟩; have HB := Lib.hid (HB.out.trans (hb.mono HB.out.size)); clear hb))
    go_ret2
    refine chk_post ?_ ?_ (HS.out.trans (HB.out.mono HS.out.size))
    · rw [← hz.out, check_head HH.out]
    · rw [← he.out, check_head HH.out]; rfl
  have HH := Lib.hid hh
  have HK1 : Hid (∀ w1, Below W0.heap.size W0 w1 → Calls Tryd.prog 52 #[.agg #[.slice x p.types.length k, str p.locals, str p.globs, .slice x' p.code.length k']] w1 (AggPost w1 (.bool true))) := by rw [← hh]; exact HK
  clear hh HK
  by_cases hl1 : p.code.length < 1
  · go_enter Tryd.func36, Tryd.ntmps36
    go_wp2_with (fail)
    rw [← hW0]
    clear hW0
    go_wp2_with (first
      | (refine wpList_loadB rfl 25 _ rfl w.heap.size (progC (.slice x p.types.length k) p (.slice x' p.code.length k')) rfl 25 KP.out.blk _ Tryd.underlying25 rfl prog_info ?_)
      | (go_at_call 52; refine (HK1.out _ HB.out).mono ?_; rintro e1 w1 ⟨rfl, hb⟩; have HB := Lib.hid (HB.out.trans (hb.mono HB.out.size)); have KP := Lib.hid (KP.out.below hb); clear hb; obtain ⟨p0, p1, p2, p3⟩ := KP.out.cells))
    all_goals
      go_ret2
      refine chk_post ?_ ?_ (HS.out.trans (HB.out.mono HS.out.size))
      · rw [← hz.out, check_big HH.out (.inl hl1)]
      · rw [← he.out, check_big HH.out (.inl hl1)]; rfl
  by_cases hl2 : 200 < p.code.length
  · go_enter Tryd.func36, Tryd.ntmps36
    go_wp2_with (fail)
    rw [← hW0]
    clear hW0
    go_wp2_with (first
      | (refine wpList_loadB rfl 25 _ rfl w.heap.size (progC (.slice x p.types.length k) p (.slice x' p.code.length k')) rfl 25 KP.out.blk _ Tryd.underlying25 rfl prog_info ?_)
      | (go_at_call 52; refine (HK1.out _ HB.out).mono ?_; rintro e1 w1 ⟨rfl, hb⟩; have HB := Lib.hid (HB.out.trans (hb.mono HB.out.size)); have KP := Lib.hid (KP.out.below hb); clear hb; obtain ⟨p0, p1, p2, p3⟩ := KP.out.cells))
    go_ret2
    refine chk_post ?_ ?_ (HS.out.trans (HB.out.mono HS.out.size))
    · rw [← hz.out, check_big HH.out (.inr hl2)]
    · rw [← he.out, check_big HH.out (.inr hl2)]; rfl
  go_enter Tryd.func36, Tryd.ntmps36
  go_wp2_with (fail)
  rw [← hW0]
  clear hW0
  go_wp2_with (first
    | (refine wpList_loadB rfl 25 _ rfl w.heap.size (progC (.slice x p.types.length k) p (.slice x' p.code.length k')) rfl 25 KP.out.blk _ Tryd.underlying25 rfl prog_info ?_)
    | (go_at_call 52; refine (HK1.out _ HB.out).mono ?_; rintro e1 w1 ⟨rfl, hb⟩; have HB := Lib.hid (HB.out.trans (hb.mono HB.out.size)); have KP := Lib.hid (KP.out.below hb); clear hb; obtain ⟨p0, p1, p2, p3⟩ := KP.out.cells))
  clear p0 p1 p2 p3
  go_loopw [23] (fun v wr => ∃ m : Nat, m ≤ p.code.length ∧ v = .int .i64 m ∧ Hid (∀ j ∈ p.code.take m, insE p p.code.length j = 0) ∧ Hid (Below W0.heap.size W0 wr) ∧ Hid (Keep wr w.heap.size (.slice x p.types.length k) (.slice x' p.code.length k') p)) (fun v _ => p.code.length - (intOf v).toNat)
  case atStart => exact ⟨0, Nat.zero_le _, rfl, Lib.hid (by simp), HB, KP⟩
  case round =>
    obtain ⟨m, hm, rfl, hall, hbw, hkw⟩ := hrel
    clear HB KP
    by_cases hlt : m < p.code.length
    · obtain ⟨i, hi⟩ : ∃ i, p.code[m]? = some i := ⟨_, List.getElem?_eq_getElem hlt⟩
      obtain ⟨b, o, rfl, hb, hcell⟩ := HC.out m i hi
      have hr := Lib.hid (rangeAt_below hcell hb hbw.out)
      have HI := Lib.hid hi
      have hoi := Lib.hid (HOI.out i (List.mem_of_getElem? hi))
      have hsz := hbw.out.size
      have HBA := Lib.hid (hbw.out.alloc hsz (.cells (insC i) 55))
      have KPA := Lib.hid (hkw.out.below ((Below.refl wr.heap.size wr).alloc (Nat.le_refl _) (.cells (insC i) 55)))
      have KIA := Lib.hid (blk_new wr (insC i) 55)
      clear hcell hb hi
      by_cases h0 : insE p p.code.length i = 0
      · have HZ := Lib.hid h0
        clear h0
        go_wp2_with (first
          | (refine wpList_load_mid rfl 55 _ rfl b (o + m * 5) rfl (insC i).toList _ hr.out Tryd.underlying55 rfl ins_info ?_)
          | (refine wpList_loadB rfl 25 _ rfl w.heap.size (progC (.slice x p.types.length k) p (.slice (some ⟨b, o, none⟩) p.code.length k')) rfl 25 KPA.out.blk _ Tryd.underlying25 rfl prog_info ?_)
          | (refine wpList_loadB rfl 55 _ rfl wr.heap.size (insC i) rfl 55 KIA.out _ Tryd.underlying55 rfl ins_info ?_)
          | (go_at_call 53; refine (HE.out _ i 0 HBA.out hoi.out (by rw [HZ.out]; rfl)).mono ?_; rintro e1 w2 ⟨rfl, hb2⟩; have HB2 := Lib.hid hb2; clear hb2))
        go_roundw
        case rel => exact ⟨m + 1, by omega, by go_num, Lib.hid (all0_next hall.out HI.out HZ.out), Lib.hid (HBA.out.trans (HB2.out.mono HBA.out.size)), Lib.hid (KPA.out.below HB2.out)⟩
        case measure => simp [intOf]; omega
      · obtain ⟨ez, hez⟩ : ∃ ez : Int, ((insE p p.code.length i : Nat) : Int) = ez := ⟨_, rfl⟩
        have e1 : (ez != 0) = true := by simp; omega
        have HZ := Lib.hid h0
        have HEZ := Lib.hid hez
        clear h0 hez
        go_wp2_with (first
          | (refine wpList_load_mid rfl 55 _ rfl b (o + m * 5) rfl (insC i).toList _ hr.out Tryd.underlying55 rfl ins_info ?_)
          | (refine wpList_loadB rfl 25 _ rfl w.heap.size (progC (.slice x p.types.length k) p (.slice (some ⟨b, o, none⟩) p.code.length k')) rfl 25 KPA.out.blk _ Tryd.underlying25 rfl prog_info ?_)
          | (refine wpList_loadB rfl 55 _ rfl wr.heap.size (insC i) rfl 55 KIA.out _ Tryd.underlying55 rfl ins_info ?_)
          | (go_at_call 53; refine (HE.out _ i ez HBA.out hoi.out HEZ.out).mono ?_; rintro e1 w2 ⟨rfl, hb2⟩; have HB2 := Lib.hid hb2; clear hb2))
        go_ret2
        refine chk_post ?_ ?_ (HS.out.trans ((HBA.out.trans (HB2.out.mono HBA.out.size)).mono HS.out.size))
        · rw [← hz.out, check_here HH.out (by omega) (by omega) HI.out hall.out HZ.out]
        · rw [← he.out, check_here HH.out (by omega) (by omega) HI.out hall.out HZ.out]; exact HEZ.out.symm
    · obtain rfl : m = p.code.length := by omega
      go_wp2
      go_ret2
      have hall' := hall.out
      rw [List.take_length] at hall'
      refine chk_post ?_ ?_ (HS.out.trans (hbw.out.mono HS.out.size))
      · rw [← hz.out, check_none HH.out (by omega) (by omega) hall']
      · rw [← he.out, check_none HH.out (by omega) (by omega) hall']; rfl
theorem check_n (v : Value) (p : PProg) (z e : Int) (w : World) (h : ProgAt w v p) (hs : OkP p) (ho : HasO w) (hz : (checkL p).1 = z) (he : ((checkL p).2 : Int) = e) : Calls Tryd.prog 36 #[v] w (ChkPost w z e) := by
  obtain ⟨vt, vc, rfl, ht, hc⟩ := id h
  obtain ⟨x, k, rfl, -, -, -⟩ := id ht.elems
  obtain ⟨x', k', rfl, -, -, -⟩ := id hc
  have hwb : Below w.heap.size w (w.alloc (.cells #[.slice x p.types.length k, str p.locals, str p.globs, .slice x' p.code.length k'] 25)) := (Below.refl _ _).alloc (Nat.le_refl _) _
  have kp : Keep (w.alloc (.cells #[.slice x p.types.length k, str p.locals, str p.globs, .slice x' p.code.length k'] 25)) w.heap.size (.slice x p.types.length k) (.slice x' p.code.length k') p := keep_new h
  have hO := ho.below hwb
  have hc' := hc.below hwb
  generalize hW0 : w.alloc (.cells #[.slice x p.types.length k, str p.locals, str p.globs, .slice x' p.code.length k'] 25) = W0 at hwb kp hO hc'
  have hp := kp.at'
  obtain ⟨x1, k1, e1, g1, g2, g3⟩ := hc'
  simp only [Value.slice.injEq] at e1
  obtain ⟨rfl, -, rfl⟩ := e1
  unfold maxLen at g2
  exact check_at w W0 p x x' k k' z e hW0.symm (Lib.hid kp) (Lib.hid hwb) (Lib.hid g3) (Lib.hid hs.ins) g1 g2
    (Lib.hid fun w1 hb => kinds_b _ p _ w1 (hp.below hb) hs rfl) (Lib.hid fun w1 i e hb hi he => err_b _ p i e w1 (hp.below hb) hs hi (hO.below hb) he) (Lib.hid hz) (Lib.hid he)
end Go.Proofs.YtmnoohpkjgjphaaDoor
