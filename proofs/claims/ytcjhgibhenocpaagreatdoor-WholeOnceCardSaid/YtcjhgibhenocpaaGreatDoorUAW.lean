/-
  Contracts of check: Check, Need.
  The contracts of layer 12's calls: what they are given, what they answer.
  The document's Nums: two slices of numbers, wherever they lie.
  States as they lie: arrays inside a struct, a slice of slices, a slice.
  States in memory of the call's own: objects in rows that do not meet.
  A state's cells; what reads them: isDone, object, hasField, nextPlace, oneIf.
  The program's newObject: its contract.
-/
import Derived.Test.YtcjhgibhenocpaaGreatDoorHErr
import Derived.Test.YtcjhgibhenocpaaGreatDoorUAT
import Derived.Test.YtcjhgibhenocpaaGreatDoorUAQ
import Derived.WalkKit
import Derived.Deep.Cut
import Derived.Deep.CutRange
import Derived.Deep.CutBlock
import Derived.WalkSpells
import Derived.Test.YtcjhgibhenocpaaGreatDoorUAO
import Derived.Maps.AppendAt
import Derived.Deep.AppendLies
import Derived.Deep.RegionLaw
import Derived.Deep.OwnRows
import Derived.Deep.RegionHeld3
import Derived.StillTailTactics

/- Contracts of check: Check, Need. -/
namespace Go.Proofs.YtcjhgibhenocpaaGreatDoor
set_option linter.unusedSimpArgs false
set_option linter.unusedVariables false
open Go.RowKit

theorem check_here {p : PProg} {k : Nat} {i : PIns} (hh : headB p = true) (h1 : 1 ≤ p.code.length) (h2 : p.code.length ≤ 200) (hk : p.code[k]? = some i) (hall : ∀ j ∈ p.code.take k, insE p p.code.length j = 0) (hi : insE p p.code.length i ≠ 0) : checkL p = ((k : Int), insE p p.code.length i) := by
  obtain ⟨hlt, rfl⟩ := List.getElem?_eq_some_iff.1 hk
  rw [check_code hh h1 h2]
  have e : firstE p p.code.length 0 p.code = firstE p p.code.length 0 (p.code.take k ++ p.code[k] :: p.code.drop (k + 1)) := by
    congr 1
    rw [← List.drop_eq_getElem_cons hlt, List.take_append_drop]
  rw [e, firstE_at 0 hall hi, List.length_take, Nat.min_eq_left (Nat.le_of_lt hlt)]
  simp
theorem check_none {p : PProg} (hh : headB p = true) (h1 : 1 ≤ p.code.length) (h2 : p.code.length ≤ 200) (hall : ∀ j ∈ p.code, insE p p.code.length j = 0) : checkL p = (-1, 0) := by
  rw [check_code hh h1 h2, firstE_all 0 hall]
theorem all0_next {p : PProg} {k : Nat} {i : PIns} (h : ∀ j ∈ p.code.take k, insE p p.code.length j = 0) (hk : p.code[k]? = some i) (hi : insE p p.code.length i = 0) : ∀ j ∈ p.code.take (k + 1), insE p p.code.length j = 0 := by
  obtain ⟨hlt, rfl⟩ := List.getElem?_eq_some_iff.1 hk
  intro j hj
  rw [List.take_succ_eq_append_getElem hlt] at hj
  rcases List.mem_append.1 hj with hj | hj
  · exact h j hj
  · simp at hj; subst hj; exact hi
def ChkPost (w : World) (z e : Int) : Ending → World → Prop := AggPost w (.tuple #[.int .i64 z, .int .i64 e])
theorem chk_post {w w' : World} {z e z' e' : Int} (h1 : z = z') (h2 : e = e') (h : Below w.heap.size w w') : ChkPost w z' e' (.returned (.tuple #[.int .i64 z, .int .i64 e])) w' := ⟨by rw [h1, h2], h⟩
set_option maxRecDepth 100000 in
set_option maxHeartbeats 2000000 in
theorem check_at (w W0 : World) (p : PProg) (x x' : Option Addr) (k k' : Nat) (z e : Int)
    (hW0 : W0 = w.alloc (.cells #[.slice x p.types.length k, str p.locals, str p.globs, .slice x' p.code.length k'] 25))
    (KP : Hid (Keep W0 w.heap.size (.slice x p.types.length k) (.slice x' p.code.length k') p)) (HS : Hid (Below w.heap.size w W0))
    (HC : Hid (∀ j i, p.code[j]? = some i → ∃ b o, x' = some ⟨b, o, none⟩ ∧ b < W0.heap.size ∧ W0.rangeAt b (o + j * 5) (insC i).toList)) (HOI : Hid (∀ i ∈ p.code, OkI i)) (g1 : p.code.length ≤ k') (g2 : k' ≤ 9223372036854775807)
    (HK : Hid (∀ w1, Below W0.heap.size W0 w1 → Calls Tryz.prog 25 #[.agg #[.slice x p.types.length k, str p.locals, str p.globs, .slice x' p.code.length k']] w1 (AggPost w1 (.bool (headB p)))))
    (HE : Hid (∀ w1 i e, Below W0.heap.size W0 w1 → OkI i → ((insE p p.code.length i : Nat) : Int) = e → Calls Tryz.prog 26 #[.agg #[.slice x p.types.length k, str p.locals, str p.globs, .slice x' p.code.length k'], insV i] w1 (AggPost w1 (.int .i64 e))))
    (hz : Hid ((checkL p).1 = z)) (he : Hid (((checkL p).2 : Int) = e)) :
    Calls Tryz.prog 9 #[.agg #[.slice x p.types.length k, str p.locals, str p.globs, .slice x' p.code.length k']] w (ChkPost w z e) := by
  have HB := Lib.hid (Below.refl W0.heap.size W0)
  rcases hh : headB p with _ | _
  · have HH := Lib.hid hh
    have HK1 : Hid (∀ w1, Below W0.heap.size W0 w1 → Calls Tryz.prog 25 #[.agg #[.slice x p.types.length k, str p.locals, str p.globs, .slice x' p.code.length k']] w1 (AggPost w1 (.bool false))) := by rw [← hh]; exact HK
    clear hh HK
    go_enter Tryz.func9, Tryz.ntmps9
    go_wp2_with (fail)
    rw [← hW0]
    clear hW0
    go_wp2_with (first
      | (refine wpList_loadB rfl 25 _ rfl w.heap.size (progC (.slice x p.types.length k) p (.slice x' p.code.length k')) rfl 25 KP.out.blk _ Tryz.underlying25 rfl prog_info ?_)
      | (go_at_call 25; refine (HK1.out _ HB.out).mono ?_; rintro e1 w1 ⟨rfl, hb⟩; have HB := Lib.hid (HB.out.trans (hb.mono HB.out.size)); clear hb))
    go_ret2
    refine chk_post ?_ ?_ (HS.out.trans (HB.out.mono HS.out.size))
    · rw [← hz.out, check_head HH.out]
    · rw [← he.out, check_head HH.out]; rfl
  have HH := Lib.hid hh
  have HK1 : Hid (∀ w1, Below W0.heap.size W0 w1 → Calls Tryz.prog 25 #[.agg #[.slice x p.types.length k, str p.locals, str p.globs, .slice x' p.code.length k']] w1 (AggPost w1 (.bool true))) := by rw [← hh]; exact HK
  clear hh HK
  by_cases hl1 : p.code.length < 1
  · go_enter Tryz.func9, Tryz.ntmps9
    go_wp2_with (fail)
    rw [← hW0]
    clear hW0
    go_wp2_with (first
      | (refine wpList_loadB rfl 25 _ rfl w.heap.size (progC (.slice x p.types.length k) p (.slice x' p.code.length k')) rfl 25 KP.out.blk _ Tryz.underlying25 rfl prog_info ?_)
      | (go_at_call 25; refine (HK1.out _ HB.out).mono ?_; rintro e1 w1 ⟨rfl, hb⟩; have HB := Lib.hid (HB.out.trans (hb.mono HB.out.size)); have KP := Lib.hid (KP.out.below hb); clear hb; obtain ⟨p0, p1, p2, p3⟩ := KP.out.cells))
    all_goals
      go_ret2
      refine chk_post ?_ ?_ (HS.out.trans (HB.out.mono HS.out.size))
      · rw [← hz.out, check_big HH.out (.inl hl1)]
      · rw [← he.out, check_big HH.out (.inl hl1)]; rfl
  by_cases hl2 : 200 < p.code.length
  · go_enter Tryz.func9, Tryz.ntmps9
    go_wp2_with (fail)
    rw [← hW0]
    clear hW0
    go_wp2_with (first
      | (refine wpList_loadB rfl 25 _ rfl w.heap.size (progC (.slice x p.types.length k) p (.slice x' p.code.length k')) rfl 25 KP.out.blk _ Tryz.underlying25 rfl prog_info ?_)
      | (go_at_call 25; refine (HK1.out _ HB.out).mono ?_; rintro e1 w1 ⟨rfl, hb⟩; have HB := Lib.hid (HB.out.trans (hb.mono HB.out.size)); have KP := Lib.hid (KP.out.below hb); clear hb; obtain ⟨p0, p1, p2, p3⟩ := KP.out.cells))
    go_ret2
    refine chk_post ?_ ?_ (HS.out.trans (HB.out.mono HS.out.size))
    · rw [← hz.out, check_big HH.out (.inr hl2)]
    · rw [← he.out, check_big HH.out (.inr hl2)]; rfl
  go_enter Tryz.func9, Tryz.ntmps9
  go_wp2_with (fail)
  rw [← hW0]
  clear hW0
  go_wp2_with (first
    | (refine wpList_loadB rfl 25 _ rfl w.heap.size (progC (.slice x p.types.length k) p (.slice x' p.code.length k')) rfl 25 KP.out.blk _ Tryz.underlying25 rfl prog_info ?_)
    | (go_at_call 25; refine (HK1.out _ HB.out).mono ?_; rintro e1 w1 ⟨rfl, hb⟩; have HB := Lib.hid (HB.out.trans (hb.mono HB.out.size)); have KP := Lib.hid (KP.out.below hb); clear hb; obtain ⟨p0, p1, p2, p3⟩ := KP.out.cells))
  clear p0 p1 p2 p3
  go_loopw [23] (fun v wr => ∃ m : Nat, m ≤ p.code.length ∧ v = .int .i64 m ∧ Hid (∀ j ∈ p.code.take m, insE p p.code.length j = 0) ∧ Hid (Below W0.heap.size W0 wr) ∧ Hid (Keep wr w.heap.size (.slice x p.types.length k) (.slice x' p.code.length k') p)) (fun v _ => p.code.length - (intOf v).toNat)
  case atStart => exact ⟨0, Nat.zero_le _, rfl, Lib.hid (by simp), HB, KP⟩
  case round =>
    obtain ⟨m, hm, rfl, hall, hbw, hkw⟩ := hrel
    clear HB KP
    by_cases hlt : m < p.code.length
    · obtain ⟨i, hi⟩ : ∃ i, p.code[m]? = some i := ⟨_, List.getElem?_eq_getElem hlt⟩
      obtain ⟨b, o, rfl, hb, hcell⟩ := HC.out m i hi
      have hr := Lib.hid (rangeAt_below hcell hb hbw.out)
      have HI := Lib.hid hi
      have hoi := Lib.hid (HOI.out i (List.mem_of_getElem? hi))
      have hsz := hbw.out.size
      have HBA := Lib.hid (hbw.out.alloc hsz (.cells (insC i) 60))
      have KPA := Lib.hid (hkw.out.below ((Below.refl wr.heap.size wr).alloc (Nat.le_refl _) (.cells (insC i) 60)))
      have KIA := Lib.hid (blk_new wr (insC i) 60)
      clear hcell hb hi
      by_cases h0 : insE p p.code.length i = 0
      · have HZ := Lib.hid h0
        clear h0
        go_wp2_with (first
          | (refine wpList_load_mid rfl 60 _ rfl b (o + m * 5) rfl (insC i).toList _ hr.out Tryz.underlying60 rfl ins_info ?_)
          | (refine wpList_loadB rfl 25 _ rfl w.heap.size (progC (.slice x p.types.length k) p (.slice (some ⟨b, o, none⟩) p.code.length k')) rfl 25 KPA.out.blk _ Tryz.underlying25 rfl prog_info ?_)
          | (refine wpList_loadB rfl 60 _ rfl wr.heap.size (insC i) rfl 60 KIA.out _ Tryz.underlying60 rfl ins_info ?_)
          | (go_at_call 26; refine (HE.out _ i 0 HBA.out hoi.out (by rw [HZ.out]; rfl)).mono ?_; rintro e1 w2 ⟨rfl, hb2⟩; have HB2 := Lib.hid hb2; clear hb2))
        go_roundw
        case rel => exact ⟨m + 1, by omega, by go_num, Lib.hid (all0_next hall.out HI.out HZ.out), Lib.hid (HBA.out.trans (HB2.out.mono HBA.out.size)), Lib.hid (KPA.out.below HB2.out)⟩
        case measure => simp [intOf]; omega
      · obtain ⟨ez, hez⟩ : ∃ ez : Int, ((insE p p.code.length i : Nat) : Int) = ez := ⟨_, rfl⟩
        have e1 : (ez != 0) = true := by simp; omega
        have HZ := Lib.hid h0
        have HEZ := Lib.hid hez
        clear h0 hez
        go_wp2_with (first
          | (refine wpList_load_mid rfl 60 _ rfl b (o + m * 5) rfl (insC i).toList _ hr.out Tryz.underlying60 rfl ins_info ?_)
          | (refine wpList_loadB rfl 25 _ rfl w.heap.size (progC (.slice x p.types.length k) p (.slice (some ⟨b, o, none⟩) p.code.length k')) rfl 25 KPA.out.blk _ Tryz.underlying25 rfl prog_info ?_)
          | (refine wpList_loadB rfl 60 _ rfl wr.heap.size (insC i) rfl 60 KIA.out _ Tryz.underlying60 rfl ins_info ?_)
          | (go_at_call 26; refine (HE.out _ i ez HBA.out hoi.out HEZ.out).mono ?_; rintro e1 w2 ⟨rfl, hb2⟩; have HB2 := Lib.hid hb2; clear hb2))
        go_ret2
        refine chk_post ?_ ?_ (HS.out.trans ((HBA.out.trans (HB2.out.mono HBA.out.size)).mono HS.out.size))
        · rw [← hz.out, check_here HH.out (by omega) (by omega) HI.out hall.out HZ.out]
        · rw [← he.out, check_here HH.out (by omega) (by omega) HI.out hall.out HZ.out]; exact HEZ.out.symm
    · obtain rfl : m = p.code.length := by omega
      go_wp2
      go_ret2
      have hall' := hall.out
      rw [List.take_length] at hall'
      refine chk_post ?_ ?_ (HS.out.trans (hbw.out.mono HS.out.size))
      · rw [← hz.out, check_none HH.out (by omega) (by omega) hall']
      · rw [← he.out, check_none HH.out (by omega) (by omega) hall']; rfl
theorem check_n (v : Value) (p : PProg) (z e : Int) (w : World) (h : ProgAt w v p) (hs : OkP p) (ho : HasO w) (hz : (checkL p).1 = z) (he : ((checkL p).2 : Int) = e) : Calls Tryz.prog 9 #[v] w (ChkPost w z e) := by
  obtain ⟨vt, vc, rfl, ht, hc⟩ := id h
  obtain ⟨x, k, rfl, -, -, -⟩ := id ht.elems
  obtain ⟨x', k', rfl, -, -, -⟩ := id hc
  have hwb : Below w.heap.size w (w.alloc (.cells #[.slice x p.types.length k, str p.locals, str p.globs, .slice x' p.code.length k'] 25)) := (Below.refl _ _).alloc (Nat.le_refl _) _
  have kp : Keep (w.alloc (.cells #[.slice x p.types.length k, str p.locals, str p.globs, .slice x' p.code.length k'] 25)) w.heap.size (.slice x p.types.length k) (.slice x' p.code.length k') p := keep_new h
  have hO := ho.below hwb
  have hc' := hc.below hwb
  generalize hW0 : w.alloc (.cells #[.slice x p.types.length k, str p.locals, str p.globs, .slice x' p.code.length k'] 25) = W0 at hwb kp hO hc'
  have hp := kp.at'
  obtain ⟨x1, k1, e1, g1, g2, g3⟩ := hc'
  simp only [Value.slice.injEq] at e1
  obtain ⟨rfl, -, rfl⟩ := e1
  unfold maxLen at g2
  exact check_at w W0 p x x' k k' z e hW0.symm (Lib.hid kp) (Lib.hid hwb) (Lib.hid g3) (Lib.hid hs.ins) g1 g2
    (Lib.hid fun w1 hb => kinds_b _ p _ w1 (hp.below hb) hs rfl) (Lib.hid fun w1 i e hb hi he => err_b _ p i e w1 (hp.below hb) hs hi (hO.below hb) he) (Lib.hid hz) (Lib.hid he)
end Go.Proofs.YtcjhgibhenocpaaGreatDoor

/- The contracts of layer 12's calls: what they are given, what they answer. -/
namespace Go.Proofs.YtcjhgibhenocpaaGreatDoor
set_option linter.unusedSimpArgs false
set_option linter.unusedVariables false
open Go.RowKit

/-- Facts, and OK. -/
def FactsPost (w : World) (l : List PFact) (e : Ending) (w' : World) : Prop := ∃ v, e = .returned (.tuple #[v, .int .i64 0]) ∧ FactsAt w' v l ∧ Below w.heap.size w w'
def noneL (p : PProg) : List PFact := List.replicate p.code.length noFact
end Go.Proofs.YtcjhgibhenocpaaGreatDoor

/- The document's Nums: two slices of numbers, wherever they lie. -/
namespace Go.Proofs.YtcjhgibhenocpaaGreatDoor
set_option linter.unusedSimpArgs false
set_option linter.unusedVariables false
open Go.RowKit

abbrev i64s (xs : List Int) : List Value := xs.map (Value.int .i64)
theorem i64s_get {xs : List Int} {j : Nat} {x : Int} (h : xs[j]? = some x) : (i64s xs)[j]? = some (.int .i64 x) := by simp [h]
end Go.Proofs.YtcjhgibhenocpaaGreatDoor

/- States as they lie: arrays inside a struct, a slice of slices, a slice. -/
namespace Go.Proofs.YtcjhgibhenocpaaGreatDoor
set_option linter.unusedSimpArgs false
set_option linter.unusedVariables false
open Go.RowKit

/-- A slice of slices of numbers, wherever it lies. -/
def GridI (w : World) (v : Value) (xss : List (List Int)) : Prop :=
  ∃ rows : List Value, rows.length = xss.length ∧ RowAt w v rows ∧ ∀ (j : Nat) (r : Value) (xs : List Int), rows[j]? = some r → xss[j]? = some xs → RowAt w r (i64s xs)
theorem GridI.below {w w' : World} {v : Value} {xss : List (List Int)} (h : GridI w v xss) (hb : Below w.heap.size w w') : GridI w' v xss := by
  obtain ⟨rows, h1, h2, h3⟩ := h
  exact ⟨rows, h1, h2.below hb, fun j r xs hr hx => (h3 j r xs hr hx).below hb⟩
/-- A state's cells. -/
def stC (s : PSt) (vo vt : Value) : Array Value := (i64s (s.x ++ s.p ++ s.g) ++ [vo, vt, .int .i64 s.pc, .int .i64 s.steps]).toArray
structure LenS (s : PSt) : Prop where
  x : s.x.length = 8
  p : s.p.length = 8
  g : s.g.length = 4
/-- A state, wherever its parts lie. -/
def StAt (w : World) (v : Value) (s : PSt) : Prop := ∃ vo vt, v = .agg (stC s vo vt) ∧ GridI w vo s.objs ∧ RowAt w vt (i64s s.out) ∧ LenS s
theorem StAt.below {w w' : World} {v : Value} {s : PSt} (h : StAt w v s) (hb : Below w.heap.size w w') : StAt w' v s := by
  obtain ⟨vo, vt, rfl, h1, h2, h3⟩ := h
  exact ⟨vo, vt, rfl, h1.below hb, h2.below hb, h3⟩
end Go.Proofs.YtcjhgibhenocpaaGreatDoor

/- States in memory of the call's own: objects in rows that do not meet. -/
namespace Go.Proofs.YtcjhgibhenocpaaGreatDoor
set_option linter.unusedSimpArgs false
set_option linter.unusedVariables false
open Go.RowKit

theorem own_same {w w' : World} {base size n : Nat} {e : TypeId} {v : Value} {xs : List Value} (h : w.ownsRow base e size v n xs) (hb : ∀ g, v.ownBlock = some g → g < w.heap.size → w'.heap[g]? = w.heap[g]?) : w'.ownsRow base e size v n xs := by
  obtain ⟨h1, h2⟩ := h
  refine ⟨h1, h2.imp id ?_⟩
  rintro ⟨g, cap, cur, rfl, hg, hc, rest⟩
  exact ⟨g, cap, cur, rfl, hg, by rw [hb g rfl (Array.getElem?_eq_some_iff.1 hc).1]; exact hc, rest⟩
/-- Two blocks of unlike types are not one. -/
theorem blk_ne {w : World} {b g : Nat} {cs cs' : Array Value} {t t' : TypeId} {fr fr' : Nat × Nat} (h : w.heap[b]? = some (.cells cs t fr)) (h' : w.heap[g]? = some (.cells cs' t' fr')) (hne : t ≠ t') : b ≠ g := by
  rintro rfl
  rw [h] at h'
  simp only [Option.some.injEq, Obj.cells.injEq] at h'
  exact hne h'.2.1
theorem own_ne {w : World} {b base size n : Nat} {e t : TypeId} {v : Value} {xs : List Value} {cs : Array Value} (h : w.ownsRow base e size v n xs) (hb : blk w b cs t) (hne : t ≠ e) : ∀ g, v.ownBlock = some g → g ≠ b := by
  intro g hg
  rcases h.2 with ⟨rfl, _⟩ | ⟨g', cap, cur, rfl, _, hc, _⟩
  · cases hg
  · obtain rfl := Option.some.inj hg
    exact fun e => blk_ne hb hc hne e.symm
end Go.Proofs.YtcjhgibhenocpaaGreatDoor

/- A state's cells; what reads them: isDone, object, hasField, nextPlace, oneIf. -/
namespace Go.Proofs.YtcjhgibhenocpaaGreatDoor
set_option linter.unusedSimpArgs false
set_option linter.unusedVariables false
open Go.RowKit

section
variable {s : PSt} {vo vt : Value}
end
theorem own_form {w : World} {B n sz : Nat} {e : TypeId} {v : Value} {cs : List Value} (h : w.ownsRow B e sz v n cs) : ∃ a c, v = .slice a n c ∧ n ≤ c ∧ c ≤ 9223372036854775807 := by
  rcases h.2 with ⟨rfl, rfl⟩ | ⟨g, cap, cur, rfl, _, _, h3, h4, _⟩
  · exact ⟨none, 0, rfl, Nat.le_refl _, by omega⟩
  · exact ⟨_, cap, rfl, h3, by unfold maxLen at h4; omega⟩
section
variable {w : World} {B b : Nat} {s : PSt} {vo vt : Value}
end
end Go.Proofs.YtcjhgibhenocpaaGreatDoor

/- The program's newObject: its contract. -/
namespace Go.Proofs.YtcjhgibhenocpaaGreatDoor
set_option linter.unusedSimpArgs false
set_option linter.unusedVariables false
open Go.RowKit

theorem made_rep (k : Nat) (v : Value) : madeCells #[v] k = Array.replicate k v := by
  unfold madeCells
  apply Array.ext
  · simp
  · intro i h1 h2
    simp [Nat.mod_one]
end Go.Proofs.YtcjhgibhenocpaaGreatDoor
