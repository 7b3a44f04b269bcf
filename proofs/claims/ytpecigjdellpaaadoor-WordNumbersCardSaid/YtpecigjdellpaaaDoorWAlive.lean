/-
  The contract of alive: answers that the document fixes.
-/
import Derived.Test.YtpecigjdellpaaaDoorWJoin
import Derived.Test.YtpecigjdellpaaaDoorWDec
namespace Go.Proofs.YtpecigjdellpaaaDoor
open Go.RowKit

def G1 : List (List Bs) := [[[115, 101, 116], [48], [53]], [[110, 101, 119], [49]]]
def AlPost (w : World) (e : Ending) (w' : World) : Prop := ∃ a c, e = .returned (.tuple #[.slice a 2 c, .int .i64 0, .int .i64 0]) ∧ Grid w' w.heap.size (.slice a 2 c) G1 ∧ Below w.heap.size w w'
theorem al1 (w : World) (hm : HasM w) : Calls Tryd.prog 11 #[.string ⟨#[115, 101, 116, 32, 48, 32, 53, 32, 35, 32, 102, 105, 118, 101, 10, 10, 32, 110, 101, 119, 32, 49]⟩] w (AlPost w) := by
  have e : linesL [115, 101, 116, 32, 48, 32, 53, 32, 35, 32, 102, 105, 118, 101, 10, 10, 32, 110, 101, 119, 32, 49] = (G1, 0, 0) := by decide +kernel
  refine (lines_small [115, 101, 116, 32, 48, 32, 53, 32, 35, 32, 102, 105, 118, 101, 10, 10, 32, 110, 101, 119, 32, 49] w (by decide) hm).mono ?_
  rw [e]
  exact fun e w' h => h
def AlPost2 (w : World) (e : Ending) (w' : World) : Prop := ∃ a c, e = .returned (.tuple #[.slice a 0 c, .int .i64 2, .int .i64 4]) ∧ Below w.heap.size w w'
theorem al2 (w : World) (hm : HasM w) : Calls Tryd.prog 11 #[.string ⟨#[97, 10, 66]⟩] w (AlPost2 w) := by
  have e : linesL [97, 10, 66] = ([], 2, 4) := by decide +kernel
  refine (lines_small [97, 10, 66] w (by decide) hm).mono ?_
  rw [e]
  exact fun e w' ⟨a, c, h1, _, h3⟩ => ⟨a, c, h1, h3⟩
theorem al3 (w : World) : Calls Tryd.prog 14 #[.string ⟨#[45, 55, 48]⟩] w (NumPost w (-70, 0)) :=
  number_ok ⟨#[45, 55, 48]⟩ (-70) w (by decide) (Lib.hid (by decide +kernel)) (by decide +kernel)
theorem al4 (w : World) : Calls Tryd.prog 14 #[.string ⟨#[45, 48, 55]⟩] w (NumPost w (0, 4)) :=
  number_form ⟨#[45, 48, 55]⟩ w (by decide) (Lib.hid (by decide +kernel))
theorem al5 (v : Value) (w : World) (h : GridAt w v G1) : Calls Tryd.prog 18 #[v] w (StrPost w [115, 101, 116, 32, 48, 32, 53, 10, 110, 101, 119, 32, 49, 10]) := by
  have e : joinL G1 = [115, 101, 116, 32, 48, 32, 53, 10, 110, 101, 119, 32, 49, 10] := by decide +kernel
  have := join_any v G1 w h (by rw [e]; decide) (by decide)
  rw [e] at this
  exact this

abbrev litW (w4 : World) : World :=
  ((w4.alloc (.cells #[.string ⟨#[115, 101, 116]⟩, .string ⟨#[48]⟩, .string ⟨#[53]⟩] 9)).alloc (.cells #[.string ⟨#[110, 101, 119]⟩, .string ⟨#[49]⟩] 9)).alloc
    (.cells #[.slice (some ⟨w4.heap.size, 0, none⟩) 3 3, .slice (some ⟨w4.heap.size + 1, 0, none⟩) 2 2] 39)
theorem litW_below (w4 : World) : Below w4.heap.size w4 (litW w4) := (((Below.refl _ _).alloc (Nat.le_refl _) _).alloc (by simp) _).alloc (by simp; omega) _
theorem row_lit (w : World) (g : Nat) (cs : List Value) (e : TypeId) (hg : w.heap[g]? = some (.cells cs.toArray e (0, 0))) (hl : cs.length ≤ maxLen) : RowAt w (.slice (some ⟨g, 0, none⟩) cs.length cs.length) cs := by
  refine ⟨_, _, rfl, Nat.le_refl _, hl, .inr ⟨g, 0, rfl, (Array.getElem?_eq_some_iff.1 hg).1, fun j x hx => ?_⟩⟩
  simp only [World.cell?, hg, Nat.zero_add]
  simpa using hx
theorem lit_grid (w4 : World) : GridAt (litW w4) (.slice (some ⟨w4.heap.size + 1 + 1, 0, none⟩) 2 2) G1 := by
  have e3 : (litW w4).heap[w4.heap.size + 1 + 1]? = some (.cells #[.slice (some ⟨w4.heap.size, 0, none⟩) 3 3, .slice (some ⟨w4.heap.size + 1, 0, none⟩) 2 2] 39 (0, 0)) := by
    have := heap_alloc_new ((w4.alloc (.cells #[.string ⟨#[115, 101, 116]⟩, .string ⟨#[48]⟩, .string ⟨#[53]⟩] 9)).alloc (.cells #[.string ⟨#[110, 101, 119]⟩, .string ⟨#[49]⟩] 9)) (.cells #[.slice (some ⟨w4.heap.size, 0, none⟩) 3 3, .slice (some ⟨w4.heap.size + 1, 0, none⟩) 2 2] 39)
    simpa using this
  have e2 : (litW w4).heap[w4.heap.size + 1]? = some (.cells #[.string ⟨#[110, 101, 119]⟩, .string ⟨#[49]⟩] 9 (0, 0)) := by
    unfold litW
    rw [Below.heap_alloc _ _ _ (by simp)]
    have := heap_alloc_new (w4.alloc (.cells #[.string ⟨#[115, 101, 116]⟩, .string ⟨#[48]⟩, .string ⟨#[53]⟩] 9)) (.cells #[.string ⟨#[110, 101, 119]⟩, .string ⟨#[49]⟩] 9)
    simpa using this
  have e1 : (litW w4).heap[w4.heap.size]? = some (.cells #[.string ⟨#[115, 101, 116]⟩, .string ⟨#[48]⟩, .string ⟨#[53]⟩] 9 (0, 0)) := by
    unfold litW
    rw [Below.heap_alloc _ _ _ (by simp; omega), Below.heap_alloc _ _ _ (by simp)]
    exact heap_alloc_new w4 _
  refine ⟨[.slice (some ⟨w4.heap.size, 0, none⟩) 3 3, .slice (some ⟨w4.heap.size + 1, 0, none⟩) 2 2], rfl, row_lit _ _ [_, _] _ e3 (by simp [maxLen]), ?_⟩
  intro i u x hu hx
  rcases i with _ | _ | i
  · simp [G1] at hu hx; subst hu; subst hx
    exact row_lit _ _ [_, _, _] _ e1 (by decide)
  · simp [G1] at hu hx; subst hu; subst hx
    exact row_lit _ _ [_, _] _ e2 (by decide)
  · simp at hu

set_option maxRecDepth 100000 in
set_option maxHeartbeats 4000000 in
theorem alive_any (w : World) (hm : HasM w) : Calls Tryd.prog 10 #[] w fun e w' => e = .returned (.bool true) ∧ Below w.heap.size w w' := by
  go_enter Tryd.func10, Tryd.ntmps10
  go_wp2_with (first
    | (go_at_call 11; ((with_reducible refine (al1 w hm).mono ?_); rintro e w1 ⟨a1, c1, rfl, hg1, hb1⟩; have hm1 := hm.below hb1))
    | (go_at_call 11; ((with_reducible refine (al2 w1 hm1).mono ?_); rintro e w2 ⟨a2, c2, rfl, hb2⟩; have hm2 := hm1.below hb2))
    | (go_at_call 14; ((with_reducible refine (al3 w2).mono ?_); rintro e w3 ⟨rfl, hb3⟩))
    | (go_at_call 14; ((with_reducible refine (al4 w3).mono ?_); rintro e w4 ⟨rfl, hb4⟩))
    | (go_at_call 13; refine (same_any _ _ G1 (litW w4) ((((hg1.at.below hb2).below hb3).below hb4).below (litW_below w4)) (lit_grid w4)).mono ?_; rintro e w5 ⟨rfl, hd⟩; have hb5 := hd.below; have hg5 := ((((hg1.at.below hb2).below hb3).below hb4).below (litW_below w4)).below hb5; clear hd)
    | (go_at_call 18; refine (al5 _ w5 hg5).mono ?_; rintro e w6 ⟨rfl, hb6⟩))
  go_ret
  refine ⟨rfl, ?_⟩
  have s1 := hb1.size
  have s2 := hb2.size
  have s3 := hb3.size
  have s4 := hb4.size
  have s5 := (litW_below w4).size
  have s6 := hb5.size
  exact ((((((hb1.trans (hb2.mono (by omega))).trans (hb3.mono (by omega))).trans (hb4.mono (by omega))).trans ((litW_below w4).mono (by omega))).trans (hb5.mono (by omega)))).trans (hb6.mono (by omega))
end Go.Proofs.YtpecigjdellpaaaDoor
