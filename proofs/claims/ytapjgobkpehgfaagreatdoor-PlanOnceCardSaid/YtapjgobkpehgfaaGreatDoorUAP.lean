/-
  Contracts of check: Check, Need.
  The contracts of layer 12's calls: what they are given, what they answer.
  The document's Nums: two slices of numbers, wherever they lie.
  States as they lie: arrays inside a struct, a slice of slices, a slice.
  Arrays of numbers, compared with themselves.
  States in memory of the call's own: objects in rows that do not meet.
-/
import Derived.Test.YtapjgobkpehgfaaGreatDoorHErr
import Derived.Test.YtapjgobkpehgfaaGreatDoorUAL
import Derived.Test.YtapjgobkpehgfaaGreatDoorUAD
import Derived.WalkKit
import Derived.Deep.Cut
import Derived.Deep.CutRange
import Derived.Deep.CutBlock
import Derived.WalkSpells
import Derived.Test.YtapjgobkpehgfaaGreatDoorUAG
import Derived.ChangeKeysEq
import Derived.Maps.AppendAt
import Derived.Deep.AppendLies

/- Contracts of check: Check, Need. -/
namespace Go.Proofs.YtapjgobkpehgfaaGreatDoor
set_option linter.unusedSimpArgs false
set_option linter.unusedVariables false
open Go.RowKit

theorem check_here {p : PProg} {k : Nat} {i : PIns} (hh : headB p = true) (h1 : 1 ≤ p.code.length) (h2 : p.code.length ≤ 200) (hk : p.code[k]? = some i) (hall : ∀ j ∈ p.code.take k, insE p p.code.length j = 0) (hi : insE p p.code.length i ≠ 0) : checkL p = ((k : Int), insE p p.code.length i) := by
  obtain ⟨hlt, rfl⟩ := List.getElem?_eq_some_iff.1 hk
  rw [check_code hh h1 h2]
  have e : firstE p p.code.length 0 p.code = firstE p p.code.length 0 (p.code.take k ++ p.code[k] :: p.code.drop (k + 1)) := by
    congr 1
    rw [← List.drop_eq_getElem_cons hlt, List.take_append_drop]
  rw [e, firstE_at 0 hall hi, List.length_take, Nat.min_eq_left (Nat.le_of_lt hlt)]
  simp
theorem check_none {p : PProg} (hh : headB p = true) (h1 : 1 ≤ p.code.length) (h2 : p.code.length ≤ 200) (hall : ∀ j ∈ p.code, insE p p.code.length j = 0) : checkL p = (-1, 0) := by
  rw [check_code hh h1 h2, firstE_all 0 hall]
theorem all0_next {p : PProg} {k : Nat} {i : PIns} (h : ∀ j ∈ p.code.take k, insE p p.code.length j = 0) (hk : p.code[k]? = some i) (hi : insE p p.code.length i = 0) : ∀ j ∈ p.code.take (k + 1), insE p p.code.length j = 0 := by
  obtain ⟨hlt, rfl⟩ := List.getElem?_eq_some_iff.1 hk
  intro j hj
  rw [List.take_succ_eq_append_getElem hlt] at hj
  rcases List.mem_append.1 hj with hj | hj
  · exact h j hj
  · simp at hj; subst hj; exact hi
def ChkPost (w : World) (z e : Int) : Ending → World → Prop := AggPost w (.tuple #[.int .i64 z, .int .i64 e])
theorem chk_post {w w' : World} {z e z' e' : Int} (h1 : z = z') (h2 : e = e') (h : Below w.heap.size w w') : ChkPost w z' e' (.returned (.tuple #[.int .i64 z, .int .i64 e])) w' := ⟨by rw [h1, h2], h⟩
set_option maxRecDepth 100000 in
set_option maxHeartbeats 2000000 in
theorem check_at (w W0 : World) (p : PProg) (x x' : Option Addr) (k k' : Nat) (z e : Int)
    (hW0 : W0 = w.alloc (.cells #[.slice x p.types.length k, str p.locals, str p.globs, .slice x' p.code.length k'] 25))
    (KP : Hid (Keep W0 w.heap.size (.slice x p.types.length k) (.slice x' p.code.length k') p)) (HS : Hid (Below w.heap.size w W0))
    (HC : Hid (∀ j i, p.code[j]? = some i → ∃ b o, x' = some ⟨b, o, none⟩ ∧ b < W0.heap.size ∧ W0.rangeAt b (o + j * 5) (insC i).toList)) (HOI : Hid (∀ i ∈ p.code, OkI i)) (g1 : p.code.length ≤ k') (g2 : k' ≤ 9223372036854775807)
    (HK : Hid (∀ w1, Below W0.heap.size W0 w1 → Calls Tryz.prog 57 #[.agg #[.slice x p.types.length k, str p.locals, str p.globs, .slice x' p.code.length k']] w1 (AggPost w1 (.bool (headB p)))))
    (HE : Hid (∀ w1 i e, Below W0.heap.size W0 w1 → OkI i → ((insE p p.code.length i : Nat) : Int) = e → Calls Tryz.prog 58 #[.agg #[.slice x p.types.length k, str p.locals, str p.globs, .slice x' p.code.length k'], insV i] w1 (AggPost w1 (.int .i64 e))))
    (hz : Hid ((checkL p).1 = z)) (he : Hid (((checkL p).2 : Int) = e)) :
    Calls Tryz.prog 33 #[.agg #[.slice x p.types.length k, str p.locals, str p.globs, .slice x' p.code.length k']] w (ChkPost w z e) := by
  have HB := Lib.hid (Below.refl W0.heap.size W0)
  rcases hh : headB p with _ | _
  · have HH := Lib.hid hh
    have HK1 : Hid (∀ w1, Below W0.heap.size W0 w1 → Calls Tryz.prog 57 #[.agg #[.slice x p.types.length k, str p.locals, str p.globs, .slice x' p.code.length k']] w1 (AggPost w1 (.bool false))) := by rw [← hh]; exact HK
    clear hh HK
    go_enter Tryz.func33, Tryz.ntmps33
    go_wp2_with (fail)
    rw [← hW0]
    clear hW0
    go_wp2_with (first
      | (refine wpList_loadB rfl 25 _ rfl w.heap.size (progC (.slice x p.types.length k) p (.slice x' p.code.length k')) rfl 25 KP.out.blk _ Tryz.underlying25 rfl prog_info ?_)
      | (go_at_call 57; refine (HK1.out _ HB.out).mono ?_; rintro e1 w1 ⟨rfl, hb⟩; have HB := Lib.hid (HB.out.trans (hb.mono HB.out.size)); clear hb))
    go_ret2
    refine chk_post ?_ ?_ (HS.out.trans (HB.out.mono HS.out.size))
    · rw [← hz.out, check_head HH.out]
    · rw [← he.out, check_head HH.out]; rfl
  have HH := Lib.hid hh
  have HK1 : Hid (∀ w1, Below W0.heap.size W0 w1 → Calls Tryz.prog 57 #[.agg #[.slice x p.types.length k, str p.locals, str p.globs, .slice x' p.code.length k']] w1 (AggPost w1 (.bool true))) := by rw [← hh]; exact HK
  clear hh HK
  by_cases hl1 : p.code.length < 1
  · go_enter Tryz.func33, Tryz.ntmps33
    go_wp2_with (fail)
    rw [← hW0]
    clear hW0
    go_wp2_with (first
      | (refine wpList_loadB rfl 25 _ rfl w.heap.size (progC (.slice x p.types.length k) p (.slice x' p.code.length k')) rfl 25 KP.out.blk _ Tryz.underlying25 rfl prog_info ?_)
      | (go_at_call 57; refine (HK1.out _ HB.out).mono ?_; rintro e1 w1 ⟨rfl, hb⟩; have HB := Lib.hid (HB.out.trans (hb.mono HB.out.size)); have KP := Lib.hid (KP.out.below hb); clear hb; obtain ⟨p0, p1, p2, p3⟩ := KP.out.cells))
    all_goals
      go_ret2
      refine chk_post ?_ ?_ (HS.out.trans (HB.out.mono HS.out.size))
      · rw [← hz.out, check_big HH.out (.inl hl1)]
      · rw [← he.out, check_big HH.out (.inl hl1)]; rfl
  by_cases hl2 : 200 < p.code.length
  · go_enter Tryz.func33, Tryz.ntmps33
    go_wp2_with (fail)
    rw [← hW0]
    clear hW0
    go_wp2_with (first
      | (refine wpList_loadB rfl 25 _ rfl w.heap.size (progC (.slice x p.types.length k) p (.slice x' p.code.length k')) rfl 25 KP.out.blk _ Tryz.underlying25 rfl prog_info ?_)
      | (go_at_call 57; refine (HK1.out _ HB.out).mono ?_; rintro e1 w1 ⟨rfl, hb⟩; have HB := Lib.hid (HB.out.trans (hb.mono HB.out.size)); have KP := Lib.hid (KP.out.below hb); clear hb; obtain ⟨p0, p1, p2, p3⟩ := KP.out.cells))
    go_ret2
    refine chk_post ?_ ?_ (HS.out.trans (HB.out.mono HS.out.size))
    · rw [← hz.out, check_big HH.out (.inr hl2)]
    · rw [← he.out, check_big HH.out (.inr hl2)]; rfl
  go_enter Tryz.func33, Tryz.ntmps33
  go_wp2_with (fail)
  rw [← hW0]
  clear hW0
  go_wp2_with (first
    | (refine wpList_loadB rfl 25 _ rfl w.heap.size (progC (.slice x p.types.length k) p (.slice x' p.code.length k')) rfl 25 KP.out.blk _ Tryz.underlying25 rfl prog_info ?_)
    | (go_at_call 57; refine (HK1.out _ HB.out).mono ?_; rintro e1 w1 ⟨rfl, hb⟩; have HB := Lib.hid (HB.out.trans (hb.mono HB.out.size)); have KP := Lib.hid (KP.out.below hb); clear hb; obtain ⟨p0, p1, p2, p3⟩ := KP.out.cells))
  clear p0 p1 p2 p3
  go_loopw [23] (fun v wr => ∃ m : Nat, m ≤ p.code.length ∧ v = .int .i64 m ∧ Hid (∀ j ∈ p.code.take m, insE p p.code.length j = 0) ∧ Hid (Below W0.heap.size W0 wr) ∧ Hid (Keep wr w.heap.size (.slice x p.types.length k) (.slice x' p.code.length k') p)) (fun v _ => p.code.length - (intOf v).toNat)
  case atStart => exact ⟨0, Nat.zero_le _, rfl, Lib.hid (by simp), HB, KP⟩
  case round =>
    obtain ⟨m, hm, rfl, hall, hbw, hkw⟩ := hrel
    clear HB KP
    by_cases hlt : m < p.code.length
    · obtain ⟨i, hi⟩ : ∃ i, p.code[m]? = some i := ⟨_, List.getElem?_eq_getElem hlt⟩
      obtain ⟨b, o, rfl, hb, hcell⟩ := HC.out m i hi
      have hr := Lib.hid (rangeAt_below hcell hb hbw.out)
      have HI := Lib.hid hi
      have hoi := Lib.hid (HOI.out i (List.mem_of_getElem? hi))
      have hsz := hbw.out.size
      have HBA := Lib.hid (hbw.out.alloc hsz (.cells (insC i) 46))
      have KPA := Lib.hid (hkw.out.below ((Below.refl wr.heap.size wr).alloc (Nat.le_refl _) (.cells (insC i) 46)))
      have KIA := Lib.hid (blk_new wr (insC i) 46)
      clear hcell hb hi
      by_cases h0 : insE p p.code.length i = 0
      · have HZ := Lib.hid h0
        clear h0
        go_wp2_with (first
          | (refine wpList_load_mid rfl 46 _ rfl b (o + m * 5) rfl (insC i).toList _ hr.out Tryz.underlying46 rfl ins_info ?_)
          | (refine wpList_loadB rfl 25 _ rfl w.heap.size (progC (.slice x p.types.length k) p (.slice (some ⟨b, o, none⟩) p.code.length k')) rfl 25 KPA.out.blk _ Tryz.underlying25 rfl prog_info ?_)
          | (refine wpList_loadB rfl 46 _ rfl wr.heap.size (insC i) rfl 46 KIA.out _ Tryz.underlying46 rfl ins_info ?_)
          | (go_at_call 58; refine (HE.out _ i 0 HBA.out hoi.out (by rw [HZ.out]; rfl)).mono ?_; rintro e1 w2 ⟨rfl, hb2⟩; have HB2 := Lib.hid hb2; clear hb2))
        go_roundw
        case rel => exact ⟨m + 1, by omega, by go_num, Lib.hid (all0_next hall.out HI.out HZ.out), Lib.hid (HBA.out.trans (HB2.out.mono HBA.out.size)), Lib.hid (KPA.out.below HB2.out)⟩
        case measure => simp [intOf]; omega
      · obtain ⟨ez, hez⟩ : ∃ ez : Int, ((insE p p.code.length i : Nat) : Int) = ez := ⟨_, rfl⟩
        have e1 : (ez != 0) = true := by simp; omega
        have HZ := Lib.hid h0
        have HEZ := Lib.hid hez
        clear h0 hez
        go_wp2_with (first
          | (refine wpList_load_mid rfl 46 _ rfl b (o + m * 5) rfl (insC i).toList _ hr.out Tryz.underlying46 rfl ins_info ?_)
          | (refine wpList_loadB rfl 25 _ rfl w.heap.size (progC (.slice x p.types.length k) p (.slice (some ⟨b, o, none⟩) p.code.length k')) rfl 25 KPA.out.blk _ Tryz.underlying25 rfl prog_info ?_)
          | (refine wpList_loadB rfl 46 _ rfl wr.heap.size (insC i) rfl 46 KIA.out _ Tryz.underlying46 rfl ins_info ?_)
          | (go_at_call 58; refine (HE.out _ i ez HBA.out hoi.out HEZ.out).mono ?_; rintro e1 w2 ⟨rfl, hb2⟩; have HB2 := Lib.hid hb2; clear hb2))
        go_ret2
        refine chk_post ?_ ?_ (HS.out.trans ((HBA.out.trans (HB2.out.mono HBA.out.size)).mono HS.out.size))
        · rw [← hz.out, check_here HH.out (by omega) (by omega) HI.out hall.out HZ.out]
        · rw [← he.out, check_here HH.out (by omega) (by omega) HI.out hall.out HZ.out]; exact HEZ.out.symm
    · obtain rfl : m = p.code.length := by omega
      go_wp2
      go_ret2
      have hall' := hall.out
      rw [List.take_length] at hall'
      refine chk_post ?_ ?_ (HS.out.trans (hbw.out.mono HS.out.size))
      · rw [← hz.out, check_none HH.out (by omega) (by omega) hall']
      · rw [← he.out, check_none HH.out (by omega) (by omega) hall']; rfl
theorem check_n (v : Value) (p : PProg) (z e : Int) (w : World) (h : ProgAt w v p) (hs : OkP p) (ho : HasO w) (hz : (checkL p).1 = z) (he : ((checkL p).2 : Int) = e) : Calls Tryz.prog 33 #[v] w (ChkPost w z e) := by
  obtain ⟨vt, vc, rfl, ht, hc⟩ := id h
  obtain ⟨x, k, rfl, -, -, -⟩ := id ht.elems
  obtain ⟨x', k', rfl, -, -, -⟩ := id hc
  have hwb : Below w.heap.size w (w.alloc (.cells #[.slice x p.types.length k, str p.locals, str p.globs, .slice x' p.code.length k'] 25)) := (Below.refl _ _).alloc (Nat.le_refl _) _
  have kp : Keep (w.alloc (.cells #[.slice x p.types.length k, str p.locals, str p.globs, .slice x' p.code.length k'] 25)) w.heap.size (.slice x p.types.length k) (.slice x' p.code.length k') p := keep_new h
  have hO := ho.below hwb
  have hc' := hc.below hwb
  generalize hW0 : w.alloc (.cells #[.slice x p.types.length k, str p.locals, str p.globs, .slice x' p.code.length k'] 25) = W0 at hwb kp hO hc'
  have hp := kp.at'
  obtain ⟨x1, k1, e1, g1, g2, g3⟩ := hc'
  simp only [Value.slice.injEq] at e1
  obtain ⟨rfl, -, rfl⟩ := e1
  unfold maxLen at g2
  exact check_at w W0 p x x' k k' z e hW0.symm (Lib.hid kp) (Lib.hid hwb) (Lib.hid g3) (Lib.hid hs.ins) g1 g2
    (Lib.hid fun w1 hb => kinds_b _ p _ w1 (hp.below hb) hs rfl) (Lib.hid fun w1 i e hb hi he => err_b _ p i e w1 (hp.below hb) hs hi (hO.below hb) he) (Lib.hid hz) (Lib.hid he)
end Go.Proofs.YtapjgobkpehgfaaGreatDoor

/- The contracts of layer 12's calls: what they are given, what they answer. -/
namespace Go.Proofs.YtapjgobkpehgfaaGreatDoor
set_option linter.unusedSimpArgs false
set_option linter.unusedVariables false
open Go.RowKit

/-- Facts, and OK. -/
def FactsPost (w : World) (l : List PFact) (e : Ending) (w' : World) : Prop := ∃ v, e = .returned (.tuple #[v, .int .i64 0]) ∧ FactsAt w' v l ∧ Below w.heap.size w w'
def savedV (l : List PFact) : Value := .tuple #[.int .i64 ((savedS l : Nat) : Int), .int .i64 ((savedR l : Nat) : Int), .int .i64 ((savedP l : Nat) : Int)]
def noneL (p : PProg) : List PFact := List.replicate p.code.length noFact
end Go.Proofs.YtapjgobkpehgfaaGreatDoor

/- The document's Nums: two slices of numbers, wherever they lie. -/
namespace Go.Proofs.YtapjgobkpehgfaaGreatDoor
set_option linter.unusedSimpArgs false
set_option linter.unusedVariables false
open Go.RowKit

abbrev i64s (xs : List Int) : List Value := xs.map (Value.int .i64)
theorem i64s_get {xs : List Int} {j : Nat} {x : Int} (h : xs[j]? = some x) : (i64s xs)[j]? = some (.int .i64 x) := by simp [h]
end Go.Proofs.YtapjgobkpehgfaaGreatDoor

/- States as they lie: arrays inside a struct, a slice of slices, a slice. -/
namespace Go.Proofs.YtapjgobkpehgfaaGreatDoor
set_option linter.unusedSimpArgs false
set_option linter.unusedVariables false
open Go.RowKit

/-- A slice of slices of numbers, wherever it lies. -/
def GridI (w : World) (v : Value) (xss : List (List Int)) : Prop :=
  ∃ rows : List Value, rows.length = xss.length ∧ RowAt w v rows ∧ ∀ (j : Nat) (r : Value) (xs : List Int), rows[j]? = some r → xss[j]? = some xs → RowAt w r (i64s xs)
theorem GridI.below {w w' : World} {v : Value} {xss : List (List Int)} (h : GridI w v xss) (hb : Below w.heap.size w w') : GridI w' v xss := by
  obtain ⟨rows, h1, h2, h3⟩ := h
  exact ⟨rows, h1, h2.below hb, fun j r xs hr hx => (h3 j r xs hr hx).below hb⟩
/-- A state's cells. -/
def stC (s : PSt) (vo vt : Value) : Array Value := (i64s (s.x ++ s.p ++ s.g) ++ [vo, vt, .int .i64 s.pc, .int .i64 s.steps]).toArray
structure LenS (s : PSt) : Prop where
  x : s.x.length = 8
  p : s.p.length = 8
  g : s.g.length = 4
theorem stC_size {s : PSt} (h : LenS s) (vo vt : Value) : (stC s vo vt).size = 24 := by
  have h1 := h.x
  have h2 := h.p
  have h3 := h.g
  unfold stC
  simp
  omega
/-- A state, wherever its parts lie. -/
def StAt (w : World) (v : Value) (s : PSt) : Prop := ∃ vo vt, v = .agg (stC s vo vt) ∧ GridI w vo s.objs ∧ RowAt w vt (i64s s.out) ∧ LenS s
theorem StAt.below {w w' : World} {v : Value} {s : PSt} (h : StAt w v s) (hb : Below w.heap.size w w') : StAt w' v s := by
  obtain ⟨vo, vt, rfl, h1, h2, h3⟩ := h
  exact ⟨vo, vt, rfl, h1.below hb, h2.below hb, h3⟩
theorem len_st0 : LenS st0 := ⟨rfl, rfl, rfl⟩
/-- A state's cells, one by one. -/
theorem stC_list {x0 x1 x2 x3 x4 x5 x6 x7 p0 p1 p2 p3 p4 p5 p6 p7 g0 g1 g2 g3 : Int} {objs : List (List Int)} {out : List Int} {pc steps : Nat} (vo vt : Value) :
    stC ⟨[x0, x1, x2, x3, x4, x5, x6, x7], [p0, p1, p2, p3, p4, p5, p6, p7], [g0, g1, g2, g3], objs, out, pc, steps⟩ vo vt =
      #[.int .i64 x0, .int .i64 x1, .int .i64 x2, .int .i64 x3, .int .i64 x4, .int .i64 x5, .int .i64 x6, .int .i64 x7, .int .i64 p0, .int .i64 p1, .int .i64 p2, .int .i64 p3, .int .i64 p4, .int .i64 p5, .int .i64 p6, .int .i64 p7, .int .i64 g0, .int .i64 g1, .int .i64 g2, .int .i64 g3, vo, vt, .int .i64 pc, .int .i64 steps] := rfl
theorem LenS.lists {s : PSt} (h : LenS s) : ∃ x0 x1 x2 x3 x4 x5 x6 x7 p0 p1 p2 p3 p4 p5 p6 p7 g0 g1 g2 g3, s = ⟨[x0, x1, x2, x3, x4, x5, x6, x7], [p0, p1, p2, p3, p4, p5, p6, p7], [g0, g1, g2, g3], s.objs, s.out, s.pc, s.steps⟩ := by
  obtain ⟨x, p, g, objs, out, pc, steps⟩ := s
  obtain ⟨hx, hp, hg⟩ := h
  simp only at hx hp hg
  match x, hx with
  | [x0, x1, x2, x3, x4, x5, x6, x7], _ =>
    match p, hp with
    | [p0, p1, p2, p3, p4, p5, p6, p7], _ =>
      match g, hg with
      | [g0, g1, g2, g3], _ => exact ⟨x0, x1, x2, x3, x4, x5, x6, x7, p0, p1, p2, p3, p4, p5, p6, p7, g0, g1, g2, g3, rfl⟩
end Go.Proofs.YtapjgobkpehgfaaGreatDoor

/- Arrays of numbers, compared with themselves. -/
namespace Go.Proofs.YtapjgobkpehgfaaGreatDoor
set_option linter.unusedSimpArgs false
set_option linter.unusedVariables false
open Go.RowKit

section
variable {P : Program}
theorem part_int (w : World) (e : TypeId) (xs : List Int) (j : Nat) (x : Int) (he : P.plainKey e = true) (hx : xs[j]? = some x) : (part e (i64s xs).toArray j).run P w = .ok (.int .i64 x) w :=
  run_part_plain w he (by simpa using i64s_get hx)
theorem items_same (w : World) (d : Nat) (e : TypeId) (xs : List Int) (hk : P.underlying e = some (.int .i64)) (he : P.plainKey e = true) : ∀ is : List Nat, (∀ i ∈ is, i < xs.length) → (Op.eqItems (d + 1) e 1 (i64s xs).toArray (i64s xs).toArray is).run P w = .ok true w
  | [], _ => by simp [Op.eqItems]
  | i :: is, h => by
    have hi := h i (by simp)
    obtain ⟨x, hx⟩ : ∃ x, xs[i]? = some x := ⟨_, List.getElem?_eq_getElem hi⟩
    have hp := part_int w e xs i x he hx
    rw [show i = i * 1 by omega] at hp
    simp only [Op.eqItems, Sem.run_bind, hp, Result.andThen_ok, run_equalIn_int w d e .i64 .i64 x x hk, beq_self_eq_true, Bool.not_true, Bool.false_eq_true, if_false]
    exact items_same w d e xs hk he is (fun j hj => h j (by simp [hj]))
/-- An array of numbers is itself. -/
theorem arr_same (w : World) {t e : TypeId} {n : Nat} {i : TypeInfo} (xs : List Int) (hu : P.underlying t = some (.array n e)) (hi : P.info? e = some i) (hc : P.cellsOf e = 1) (hk : P.underlying e = some (.int .i64)) (he : P.plainKey e = true) (hl : n ≤ xs.length) :
    (binOp .neq t (.agg (i64s xs).toArray) (.agg (i64s xs).toArray)).run P w = .ok (.bool false) w := by
  rw [run_neq_struct, show (10000 : Nat) = 9999 + 1 from rfl, run_equalIn_array w 9999 _ _ hu hi, hc, show (9999 : Nat) = 9998 + 1 from rfl, items_same w 9998 e xs hk he (List.range n) (fun j hj => by have := List.mem_range.1 hj; omega)]
  rfl
end
theorem info_some {t : TypeId} {z : Option Value × Nat × Nat} (h : (Tryz.prog.info? t).map (fun i => (i.zero, i.size, i.bytes)) = some z) : ∃ i, Tryz.prog.info? t = some i := by
  obtain ⟨i, hi, _⟩ := Option.map_eq_some_iff.1 h
  exact ⟨i, hi⟩
theorem info3 : (Tryz.prog.info? 3).map (fun i => (i.zero, i.size, i.bytes)) = some (some (.int .i64 0), 1, 8) := by kernel_rfl
theorem info2 : (Tryz.prog.info? 2).map (fun i => (i.zero, i.size, i.bytes)) = some (some (.int .i64 0), 1, 8) := by kernel_rfl
theorem infoX : (Tryz.prog.info? 38).map (·.size) = some 8 := by kernel_rfl
theorem infoP : (Tryz.prog.info? 39).map (·.size) = some 8 := by kernel_rfl
theorem infoG : (Tryz.prog.info? 40).map (·.size) = some 4 := by kernel_rfl
theorem same_X (w : World) (xs : List Int) (h : xs.length = 8) : (binOp .neq 38 (.agg (i64s xs).toArray) (.agg (i64s xs).toArray)).run Tryz.prog w = .ok (.bool false) w := by
  obtain ⟨i, hi⟩ := info_some info2
  exact arr_same w xs Tryz.underlying38 hi (by kernel_rfl) Tryz.underlying2 (by kernel_rfl) (by omega)
theorem same_P (w : World) (xs : List Int) (h : xs.length = 8) : (binOp .neq 39 (.agg (i64s xs).toArray) (.agg (i64s xs).toArray)).run Tryz.prog w = .ok (.bool false) w := by
  obtain ⟨i, hi⟩ := info_some info3
  exact arr_same w xs Tryz.underlying39 hi (by kernel_rfl) Tryz.underlying3 (by kernel_rfl) (by omega)
theorem same_G (w : World) (xs : List Int) (h : xs.length = 4) : (binOp .neq 40 (.agg (i64s xs).toArray) (.agg (i64s xs).toArray)).run Tryz.prog w = .ok (.bool false) w := by
  obtain ⟨i, hi⟩ := info_some info3
  exact arr_same w xs Tryz.underlying40 hi (by kernel_rfl) Tryz.underlying3 (by kernel_rfl) (by omega)
end Go.Proofs.YtapjgobkpehgfaaGreatDoor

/- States in memory of the call's own: objects in rows that do not meet. -/
namespace Go.Proofs.YtapjgobkpehgfaaGreatDoor
set_option linter.unusedSimpArgs false
set_option linter.unusedVariables false
open Go.RowKit

theorem own_same {w w' : World} {base size n : Nat} {e : TypeId} {v : Value} {xs : List Value} (h : w.ownsRow base e size v n xs) (hb : ∀ g, v.ownBlock = some g → g < w.heap.size → w'.heap[g]? = w.heap[g]?) : w'.ownsRow base e size v n xs := by
  obtain ⟨h1, h2⟩ := h
  refine ⟨h1, h2.imp id ?_⟩
  rintro ⟨g, cap, cur, rfl, hg, hc, rest⟩
  exact ⟨g, cap, cur, rfl, hg, by rw [hb g rfl (Array.getElem?_eq_some_iff.1 hc).1]; exact hc, rest⟩
/-- Two blocks of unlike types are not one. -/
theorem blk_ne {w : World} {b g : Nat} {cs cs' : Array Value} {t t' : TypeId} {fr fr' : Nat × Nat} (h : w.heap[b]? = some (.cells cs t fr)) (h' : w.heap[g]? = some (.cells cs' t' fr')) (hne : t ≠ t') : b ≠ g := by
  rintro rfl
  rw [h] at h'
  simp only [Option.some.injEq, Obj.cells.injEq] at h'
  exact hne h'.2.1
theorem own_ne {w : World} {b base size n : Nat} {e t : TypeId} {v : Value} {xs : List Value} {cs : Array Value} (h : w.ownsRow base e size v n xs) (hb : blk w b cs t) (hne : t ≠ e) : ∀ g, v.ownBlock = some g → g ≠ b := by
  intro g hg
  rcases h.2 with ⟨rfl, _⟩ | ⟨g', cap, cur, rfl, _, hc, _⟩
  · cases hg
  · obtain rfl := Option.some.inj hg
    exact fun e => blk_ne hb hc hne e.symm
theorem own_lt {w : World} {base size n : Nat} {e : TypeId} {v : Value} {xs : List Value} (h : w.ownsRow base e size v n xs) : ∀ g, v.ownBlock = some g → base ≤ g ∧ g < w.heap.size := by
  intro g hg
  rcases h.2 with ⟨rfl, _⟩ | ⟨g', cap, cur, rfl, hb, hc, _⟩
  · cases hg
  · obtain rfl := Option.some.inj hg
    exact ⟨hb, (Array.getElem?_eq_some_iff.1 hc).1⟩
/-- A slice of one-cell values; the empty one is nil. -/
def RowN (w : World) (v : Value) (cs : List Value) : Prop := RowAt w v cs ∧ (cs = [] → v = .slice none 0 0) ∧ ∀ (a : Addr) (n c : Nat), v = .slice (some a) n c → ∃ xs e fr, w.heap[a.block]? = some (.cells xs e fr) ∧ (e = 2 ∨ e = 42)
theorem RowN.below {w w' : World} {v : Value} {cs : List Value} (h : RowN w v cs) (hb : Below w.heap.size w w') : RowN w' v cs := ⟨h.1.below hb, h.2.1, fun a n c e => by
  obtain ⟨xs, t, fr, h1, h2⟩ := h.2.2 a n c e
  exact ⟨xs, t, fr, by rw [hb.block _ (Array.getElem?_eq_some_iff.1 h1).1]; exact h1, h2⟩⟩
theorem rowN_nil (w : World) : RowN w (.slice none 0 0) [] := ⟨rowAt_nil w, fun _ => rfl, fun a n c e => by simp at e⟩
theorem RowN.cases {w : World} {v : Value} {cs : List Value} (h : RowN w v cs) : (cs = [] ∧ v = .slice none 0 0) ∨ (cs ≠ [] ∧ ∃ b o c, v = .slice (some ⟨b, o, none⟩) cs.length c ∧ cs.length ≤ c ∧ c ≤ maxLen ∧ b < w.heap.size ∧ ∀ j x, cs[j]? = some x → w.cell? ⟨b, o + j, none⟩ = some x) := by
  obtain ⟨⟨a, c, rfl, h1, h2, h3⟩, h4, -⟩ := h
  by_cases h0 : cs = []
  · exact .inl ⟨h0, h4 h0⟩
  · obtain ⟨b, o, rfl, hb, hc⟩ := h3.resolve_left h0
    exact .inr ⟨h0, b, o, c, rfl, h1, h2, hb, hc⟩
/-- Objects, wherever they lie; none of them is empty. -/
def GridN (w : World) (v : Value) (xss : List (List Int)) : Prop :=
  ∃ rows : List Value, rows.length = xss.length ∧ RowN w v rows ∧ (∀ xs ∈ xss, xs ≠ []) ∧ ∀ (j : Nat) (r : Value) (xs : List Int), rows[j]? = some r → xss[j]? = some xs → RowN w r (i64s xs)
theorem GridN.below {w w' : World} {v : Value} {xss : List (List Int)} (h : GridN w v xss) (hb : Below w.heap.size w w') : GridN w' v xss := by
  obtain ⟨rows, h1, h2, h3, h4⟩ := h
  exact ⟨rows, h1, h2.below hb, h3, fun j r xs hr hx => (h4 j r xs hr hx).below hb⟩
theorem GridN.grid {w : World} {v : Value} {xss : List (List Int)} (h : GridN w v xss) : GridI w v xss := by
  obtain ⟨rows, h1, h2, h3, h4⟩ := h
  exact ⟨rows, h1, h2.1, fun j r xs hr hx => (h4 j r xs hr hx).1⟩
/-- A state, wherever its parts lie. -/
structure StN (w : World) (vo vt : Value) (s : PSt) : Prop where
  len : LenS s
  objs : GridN w vo s.objs
  out : RowN w vt (i64s s.out)
theorem StN.below {w w' : World} {vo vt : Value} {s : PSt} (h : StN w vo vt s) (hb : Below w.heap.size w w') : StN w' vo vt s := ⟨h.len, h.objs.below hb, h.out.below hb⟩
theorem StN.at' {w : World} {vo vt : Value} {s : PSt} (h : StN w vo vt s) : StAt w (.agg (stC s vo vt)) s := ⟨vo, vt, rfl, h.objs.grid, h.out.1, h.len⟩
theorem gridN_nil (w : World) : GridN w (.slice none 0 0) [] := ⟨[], rfl, rowN_nil w, by simp, fun j r xs hr => by simp at hr⟩
theorem st0_n (w : World) : StN w (.slice none 0 0) (.slice none 0 0) st0 := ⟨len_st0, gridN_nil w, rowN_nil w⟩

/-- The parts of a state in memory of the call's own. -/
structure ObjsOwn (w : World) (B : Nat) (vo vt : Value) (objs : List (List Int)) (rows : List Value) (gs : List Nat) : Prop where
  outer : w.ownsRow B 42 1 vo objs.length rows
  nil : objs = [] → vo = .slice none 0 0
  lg : gs.length = objs.length
  nd : gs.Nodup
  ne : ∀ xs ∈ objs, xs ≠ []
  row : ∀ (j : Nat) (r : Value) (xs : List Int) (g : Nat), rows[j]? = some r → objs[j]? = some xs → gs[j]? = some g → w.ownsRow B 2 1 r xs.length (i64s xs) ∧ r.ownBlock = some g ∧ vt.ownBlock ≠ some g
structure Parts (w : World) (B : Nat) (s : PSt) (vo vt : Value) : Prop where
  len : LenS s
  objs : ∃ rows gs, ObjsOwn w B vo vt s.objs rows gs
  out : w.ownsRow B 2 1 vt s.out.length (i64s s.out)
  onil : s.out = [] → vt = .slice none 0 0
theorem ObjsOwn.lr {w : World} {B : Nat} {vo vt : Value} {objs : List (List Int)} {rows : List Value} {gs : List Nat} (h : ObjsOwn w B vo vt objs rows gs) : rows.length = objs.length := by have := h.outer.1; omega
theorem i64s_len (xs : List Int) : (i64s xs).length = xs.length := by simp
theorem ObjsOwn.same {w w' : World} {B : Nat} {vo vt : Value} {objs : List (List Int)} {rows : List Value} {gs : List Nat} (h : ObjsOwn w B vo vt objs rows gs)
    (h1 : ∀ g, vo.ownBlock = some g → g < w.heap.size → w'.heap[g]? = w.heap[g]?) (h2 : ∀ g ∈ gs, g < w.heap.size → w'.heap[g]? = w.heap[g]?) : ObjsOwn w' B vo vt objs rows gs := by
  refine ⟨own_same h.outer h1, h.nil, h.lg, h.nd, h.ne, fun j r xs g hr hx hg => ?_⟩
  obtain ⟨a, b, c⟩ := h.row j r xs g hr hx hg
  refine ⟨own_same a (fun g' hg' hlt => ?_), b, c⟩
  rw [b] at hg'
  obtain rfl := Option.some.inj hg'
  exact h2 g (List.mem_of_getElem? hg) hlt
theorem Parts.below {w w' : World} {B : Nat} {s : PSt} {vo vt : Value} (h : Parts w B s vo vt) (hb : Below w.heap.size w w') : Parts w' B s vo vt := by
  obtain ⟨rows, gs, ho⟩ := h.objs
  exact ⟨h.len, ⟨rows, gs, ho.same (fun g _ hlt => hb.block g hlt) (fun g _ hlt => hb.block g hlt)⟩, own_below h.out hb, h.onil⟩
/-- A field of an object is put. -/
theorem own_cell {w : World} {B n g : Nat} {e : TypeId} {v : Value} {xs : List Value} (h : w.ownsRow B e 1 v n xs) (hg : v.ownBlock = some g) : ∃ cap cur, v = .slice (some ⟨g, 0, none⟩) n cap ∧ n ≤ cap ∧ cap ≤ maxLen ∧ blk w g cur e ∧ cur.size = cap ∧ cur.toList.take n = xs ∧ B ≤ g := by
  rcases h.2 with ⟨rfl, _⟩ | ⟨g', cap, cur, rfl, hb, hc, h3, h4, h5, h6⟩
  · cases hg
  · obtain rfl := Option.some.inj hg
    exact ⟨cap, cur, rfl, h3, h4, hc, by omega, by rw [Nat.mul_one] at h6; exact h6, hb⟩
theorem own_putC {w : World} {B n g : Nat} {e : TypeId} {cap : Nat} {cur : Array Value} (hb : blk w g cur e) (hB : B ≤ g) (h3 : n ≤ cap) (h4 : cap ≤ maxLen) (h5 : cur.size = cap) (k : Nat) (x : Value) {xs : List Value} (h6 : cur.toList.take n = xs) :
    (putB w g (cur.setIfInBounds k x) e).ownsRow B e 1 (.slice (some ⟨g, 0, none⟩) n cap) n (xs.set k x) := by
  have hl : xs.length = n := by rw [← h6, List.length_take, Array.length_toList]; omega
  refine ⟨by rw [List.length_set]; omega, .inr ⟨g, cap, _, rfl, hB, putB_at hb _ _, h3, h4, by rw [Array.size_setIfInBounds]; omega, ?_⟩⟩
  rw [Nat.mul_one, Array.toList_setIfInBounds, ← h6, List.take_set]
theorem nodup_inj {gs : List Nat} (h : gs.Nodup) {i j g : Nat} (hi : gs[i]? = some g) (hj : gs[j]? = some g) : i = j := by
  obtain ⟨hi1, hi2⟩ := List.getElem?_eq_some_iff.1 hi
  obtain ⟨hj1, hj2⟩ := List.getElem?_eq_some_iff.1 hj
  rcases Nat.lt_trichotomy i j with hlt | rfl | hlt
  · exact absurd (hi2.trans hj2.symm) (List.pairwise_iff_getElem.1 h i j hi1 hj1 hlt)
  · rfl
  · exact absurd (hj2.trans hi2.symm) (List.pairwise_iff_getElem.1 h j i hj1 hi1 hlt)
theorem Parts.put {w : World} {B : Nat} {s : PSt} {vo vt : Value} (h : Parts w B s vo vt) {o n v : Int} (h1 : 1 ≤ o) (h2 : o ≤ s.objs.length) {rows : List Value} {gs : List Nat} (hr : ObjsOwn w B vo vt s.objs rows gs) {g : Nat} (hg : gs[o.toNat - 1]? = some g) {cur : Array Value} (hb : blk w g cur 2) :
    Parts (putB w g (cur.setIfInBounds n.toNat (.int .i64 v)) 2) B (setO s o n v) vo vt := by
  have hlr := hr.lr
  have hj : o.toNat - 1 < s.objs.length := by omega
  have e1 : rows[o.toNat - 1]? = some (rows[o.toNat - 1]'(by omega)) := List.getElem?_eq_getElem (by omega)
  have e2 : s.objs[o.toNat - 1]? = some (objA s.objs o) := by
    unfold objA; rw [List.getD_eq_getElem?_getD, List.getElem?_eq_getElem hj]; rfl
  obtain ⟨a, b, c⟩ := hr.row _ _ _ g e1 e2 hg
  obtain ⟨cap, cur', hv, k1, k2, k3, k4, k5, k6⟩ := own_cell a b
  have hcc : cur' = cur := by
    have := k3.symm.trans hb
    simpa using this
  subst hcc
  refine ⟨⟨h.len.x, h.len.p, h.len.g⟩, ⟨rows, gs, ⟨?_, ?_, ?_, hr.nd, ?_, ?_⟩⟩, ?_, h.onil⟩
  · show (putB w g _ _).ownsRow B _ 1 vo (putA s.objs o n v).length rows
    rw [show (putA s.objs o n v).length = s.objs.length by unfold putA; simp]
    refine own_same hr.outer (fun g' hg' _ => putB_ne w ?_ _ _)
    exact own_ne hr.outer hb (by decide) g' hg'
  · intro h0
    have : (putA s.objs o n v).length = 0 := by rw [show putA s.objs o n v = [] from h0]; rfl
    rw [show (putA s.objs o n v).length = s.objs.length by unfold putA; simp] at this
    omega
  · show gs.length = (putA s.objs o n v).length
    rw [show (putA s.objs o n v).length = s.objs.length by unfold putA; simp]; exact hr.lg
  · intro xs hxs
    rcases mem_set_or (show xs ∈ s.objs.set (o.toNat - 1) ((objA s.objs o).set n.toNat v) from hxs) with hm | rfl
    · exact hr.ne xs hm
    · have := hr.ne _ (List.mem_of_getElem? e2)
      intro h0
      have hz : ((objA s.objs o).set n.toNat v).length = 0 := by rw [h0]; rfl
      rw [List.length_set] at hz
      exact this (List.length_eq_zero_iff.1 hz)
  · intro j r xs g' hr' hx hg'
    have hx' : (s.objs.set (o.toNat - 1) ((objA s.objs o).set n.toNat v))[j]? = some xs := hx
    by_cases hjo : o.toNat - 1 = j
    · subst hjo
      rw [List.getElem?_set, if_pos rfl, if_pos hj] at hx'
      obtain rfl := Option.some.inj hx'
      rw [hr'] at e1
      rw [hg] at hg'
      obtain rfl := Option.some.inj hg'
      obtain rfl := Option.some.inj e1
      refine ⟨?_, b, c⟩
      rw [List.length_set, hv]
      have := own_putC (n := (objA s.objs o).length) k3 k6 k1 k2 k4 n.toNat (.int .i64 v) k5
      rw [show i64s ((objA s.objs o).set n.toNat v) = (i64s (objA s.objs o)).set n.toNat (.int .i64 v) by simp]
      exact this
    · rw [List.getElem?_set_ne hjo] at hx'
      obtain ⟨a', b', c'⟩ := hr.row j r xs g' hr' hx' hg'
      refine ⟨own_same a' (fun g2 hg2 _ => putB_ne w ?_ _ _), b', c'⟩
      rw [b'] at hg2
      obtain rfl := Option.some.inj hg2
      rintro rfl
      exact hjo (nodup_inj hr.nd hg hg')
  · exact own_same h.out (fun g' hg' _ => putB_ne w (fun e => c (by rw [hg', e])) _ _)
/-- As they lie for whoever only reads them. -/
theorem own_rowN {w : World} {B n : Nat} {e : TypeId} {v : Value} {cs : List Value} (h : w.ownsRow B e 1 v n cs) (he : e = 2 ∨ e = 42) (h0 : cs = [] → v = .slice none 0 0) : RowN w v cs := ⟨RowAt.of_own h, h0, fun a m c hv => by
  rcases h.2 with ⟨rfl, _⟩ | ⟨g, cap, cur, rfl, _, hg, _⟩
  · simp at hv
  · simp only [Value.slice.injEq, Option.some.injEq] at hv
    obtain ⟨rfl, -, -⟩ := hv
    exact ⟨cur, e, (0, 0), hg, he⟩⟩
/-- A state's block changes; the rows stay. -/
theorem RowN.putT {w : World} {b : Nat} {v : Value} {cs : List Value} {xs xs' : Array Value} {t t' : TypeId} (h : RowN w v cs) (hb : blk w b xs t) (ht : t ≠ 2 ∧ t ≠ 42) : RowN (putB w b xs' t') v cs := by
  have hne : ∀ (a : Addr) (n c : Nat), v = .slice (some a) n c → a.block ≠ b := fun a n c e => by
    obtain ⟨ys, e', fr, h1, h2⟩ := h.2.2 a n c e
    exact blk_ne h1 hb (h2.elim (fun e => by rw [e]; exact ht.1.symm) (fun e => by rw [e]; exact ht.2.symm))
  refine ⟨?_, h.2.1, fun a n c e => ?_⟩
  · obtain ⟨a, c, rfl, h1, h2, h3⟩ := h.1
    refine ⟨a, c, rfl, h1, h2, h3.imp id ?_⟩
    rintro ⟨b0, o, rfl, hlt, hc⟩
    have := hne ⟨b0, o, none⟩ _ _ rfl
    refine ⟨b0, o, rfl, by rw [putB_size]; exact hlt, fun j x hx => ?_⟩
    rw [World.cell?_of_block (a := ⟨b0, o + j, none⟩) (putB_ne w this _ _)]
    exact hc j x hx
  · obtain ⟨ys, e', fr, h1, h2⟩ := h.2.2 a n c e
    exact ⟨ys, e', fr, by rw [putB_ne w (hne a n c e)]; exact h1, h2⟩
theorem GridN.putT {w : World} {b : Nat} {v : Value} {xss : List (List Int)} {xs xs' : Array Value} {t t' : TypeId} (h : GridN w v xss) (hb : blk w b xs t) (ht : t ≠ 2 ∧ t ≠ 42) : GridN (putB w b xs' t') v xss := by
  obtain ⟨rows, h1, h2, h3, h4⟩ := h
  exact ⟨rows, h1, h2.putT hb ht, h3, fun j r xs hr hx => (h4 j r xs hr hx).putT hb ht⟩
theorem StN.putT {w : World} {b : Nat} {vo vt : Value} {s : PSt} {xs xs' : Array Value} {t t' : TypeId} (h : StN w vo vt s) (hb : blk w b xs t) (ht : t ≠ 2 ∧ t ≠ 42) : StN (putB w b xs' t') vo vt s := ⟨h.len, h.objs.putT hb ht, h.out.putT hb ht⟩
theorem info64 : (Tryz.prog.info? 2).map (fun i => (i.zero, i.size, i.bytes)) = some (some (.int .i64 0), 1, 8) := by kernel_rfl
theorem infoO : (Tryz.prog.info? 42).map (fun i => (i.zero, i.size, i.bytes)) = some (some (.slice none 0 0), 1, 24) := by kernel_rfl
end Go.Proofs.YtapjgobkpehgfaaGreatDoor
