/-
  CheckFirst: the walk.
-/
import Derived.Test.YtclkccbihnccgaaDoorHLaw3
import Derived.Test.YtclkccbihnccgaaDoorBApp
namespace Go.Proofs.YtclkccbihnccgaaDoor
open Go.RowKit

theorem insRow_set {w : World} {Q g n c j : Nat} {cs : Array Value} {t : TypeId} {is : List PIns} (h : blk w Q cs t) (hne : g ≠ Q) (hr : InsRow w (.slice (some ⟨g, 0, none⟩) n c) is) (u : Value) : InsRow (w.setCell ⟨Q, j, none⟩ u) (.slice (some ⟨g, 0, none⟩) n c) is := by
  obtain ⟨a, c', e, h1, h2, h3⟩ := hr
  refine ⟨a, c', e, h1, h2, fun k i hk => ?_⟩
  obtain ⟨b, o, rfl, hlt, hrg⟩ := h3 k i hk
  simp only [Value.slice.injEq, Option.some.injEq, Addr.mk.injEq] at e
  obtain ⟨⟨rfl, rfl, _⟩, _⟩ := e
  exact ⟨g, 0, rfl, by rw [setCell_putB h, putB_size]; exact hlt, fun t v hv => by rw [set_ne h hne]; exact hrg t v hv⟩
/-- The code of a program that lies in a block of its own is put anew. -/
theorem code_put {w : World} {Q : Nat} {vt vc v2 : Value} {p q : PProg} (h : blk w Q (progC vt p vc) 25) (ht : RowAt (w.setCell ⟨Q, 3, none⟩ v2) vt (q.types.map str)) (hc : InsRow (w.setCell ⟨Q, 3, none⟩ v2) v2 q.code) (e1 : q.locals = p.locals) (e2 : q.globs = p.globs) : Keep (w.setCell ⟨Q, 3, none⟩ v2) Q vt v2 q := by
  refine ⟨?_, vt, v2, rfl, ht, hc⟩
  rw [setCell_putB h]
  have := putB_at h (progC vt q v2) 25
  have e : (progC vt p vc).setIfInBounds 3 v2 = progC vt q v2 := by unfold progC; rw [e1, e2]; rfl
  rw [e]; exact this
def addP (p : PProg) (more : List PIns) : PProg := { p with code := p.code ++ more }
def takeP (p : PProg) (n : Nat) : PProg := { p with code := p.code.take n }
theorem add_ok {p : PProg} {more : List PIns} (h : OkP p) (hm : ∀ i ∈ more, OkI i) : OkP (addP p more) := ⟨h.ty, h.lo, h.gl, fun i hi => by
  rcases List.mem_append.1 hi with hi | hi
  · exact h.ins i hi
  · exact hm i hi⟩
theorem take_ok {p : PProg} {n : Nat} (h : OkP p) : OkP (takeP p n) := ⟨h.ty, h.lo, h.gl, fun i hi => h.ins i (List.mem_of_mem_take hi)⟩
theorem insRow_take {w : World} {a : Option Addr} {n m c : Nat} {is : List PIns} (h : InsRow w (.slice a n c) is) (hm : m ≤ is.length) : InsRow w (.slice a m c) (is.take m) := by
  obtain ⟨a', c', e, h1, h2, h3⟩ := h
  simp only [Value.slice.injEq] at e
  obtain ⟨rfl, -, rfl⟩ := e
  refine ⟨a, c, by rw [List.length_take, Nat.min_eq_left hm], by rw [List.length_take]; omega, h2, fun j i hj => h3 j i ?_⟩
  rw [List.getElem?_take] at hj
  split at hj
  · exact hj
  · cases hj

set_option maxRecDepth 100000 in
set_option maxHeartbeats 1000000 in
theorem first_no (w W0 : World) (p : PProg) (more : List PIns) (z e : Int) (b : Bool) (x x' xm : Option Addr) (k k' km : Nat)
    (hW0 : W0 = w.alloc (.cells #[.slice x p.types.length k, str p.locals, str p.globs, .slice x' p.code.length k'] 25))
    (KP : Hid (Keep W0 w.heap.size (.slice x p.types.length k) (.slice x' p.code.length k') p)) (HS : Hid (Below w.heap.size w W0)) (hcl : Hid (b = true → p.code.length ≤ 210)) (hml : more.length ≤ 9223372036854775807)
    (HAL : Hid (∀ w1, Below W0.heap.size W0 w1 → Calls Tryd.prog 8 #[] w1 (AggPost w1 (.bool true))))
    (HF : Hid (∀ w1, Below W0.heap.size W0 w1 → Calls Tryd.prog 9 #[.agg #[.slice x p.types.length k, str p.locals, str p.globs, .slice x' p.code.length k']] w1 (AggPost w1 (.bool b))))
    (HC : Hid (∀ w1, Below W0.heap.size W0 w1 → Calls Tryd.prog 10 #[.agg #[.slice x p.types.length k, str p.locals, str p.globs, .slice x' p.code.length k']] w1 (ChkPost w1 z e)))
    (hno : Hid (b = false ∨ 100 < more.length ∨ 200 < p.code.length + more.length ∨ ((e = 0 ∨ z < 0) ∧ z = -1))) :
    Calls Tryd.prog 3 #[.agg #[.slice x p.types.length k, str p.locals, str p.globs, .slice x' p.code.length k'], .slice xm more.length km] w (AggPost w (.bool true)) := by
  have HB := Lib.hid (Below.refl W0.heap.size W0)
  go_enter Tryd.func3, Tryd.ntmps3
  go_wp2_with (fail)
  rw [← hW0]
  clear hW0
  rcases b with _ | _
  · go_wp2_with (first
      | (refine wpList_loadB rfl 25 _ rfl w.heap.size (progC (.slice x p.types.length k) p (.slice x' p.code.length k')) rfl 25 KP.out.blk _ Tryd.underlying25 rfl prog_info ?_)
      | (go_at_call 8; refine (HAL.out _ HB.out).mono ?_; rintro e1 w1 ⟨rfl, hb⟩; have HB := Lib.hid (HB.out.trans (hb.mono HB.out.size)); have KP := Lib.hid (KP.out.below hb); clear hb)
      | (go_at_call 9; refine (HF.out _ HB.out).mono ?_; rintro e1 w1 ⟨rfl, hb⟩; have HB := Lib.hid (HB.out.trans (hb.mono HB.out.size)); clear hb))
    go_ret
    exact ⟨rfl, HS.out.trans (HB.out.mono HS.out.size)⟩
  have hcl := hcl.out rfl
  by_cases h1 : 100 < more.length
  · go_wp2_with (first
      | (refine wpList_loadB rfl 25 _ rfl w.heap.size (progC (.slice x p.types.length k) p (.slice x' p.code.length k')) rfl 25 KP.out.blk _ Tryd.underlying25 rfl prog_info ?_)
      | (go_at_call 8; refine (HAL.out _ HB.out).mono ?_; rintro e1 w1 ⟨rfl, hb⟩; have HB := Lib.hid (HB.out.trans (hb.mono HB.out.size)); have KP := Lib.hid (KP.out.below hb); clear hb)
      | (go_at_call 9; refine (HF.out _ HB.out).mono ?_; rintro e1 w1 ⟨rfl, hb⟩; have HB := Lib.hid (HB.out.trans (hb.mono HB.out.size)); have KP := Lib.hid (KP.out.below hb); clear hb; obtain ⟨p0, p1, p2, p3⟩ := KP.out.cells))
    go_ret
    exact ⟨rfl, HS.out.trans (HB.out.mono HS.out.size)⟩
  by_cases h2 : 200 < p.code.length + more.length
  · go_wp2_with (first
      | (refine wpList_loadB rfl 25 _ rfl w.heap.size (progC (.slice x p.types.length k) p (.slice x' p.code.length k')) rfl 25 KP.out.blk _ Tryd.underlying25 rfl prog_info ?_)
      | (go_at_call 8; refine (HAL.out _ HB.out).mono ?_; rintro e1 w1 ⟨rfl, hb⟩; have HB := Lib.hid (HB.out.trans (hb.mono HB.out.size)); have KP := Lib.hid (KP.out.below hb); clear hb)
      | (go_at_call 9; refine (HF.out _ HB.out).mono ?_; rintro e1 w1 ⟨rfl, hb⟩; have HB := Lib.hid (HB.out.trans (hb.mono HB.out.size)); have KP := Lib.hid (KP.out.below hb); clear hb; obtain ⟨p0, p1, p2, p3⟩ := KP.out.cells))
    go_ret
    exact ⟨rfl, HS.out.trans (HB.out.mono HS.out.size)⟩
  obtain ⟨h3, rfl⟩ : (e = 0 ∨ z < 0) ∧ z = -1 := by
    rcases hno.out with h | h | h | h
    · cases h
    · omega
    · omega
    · exact h
  clear hno h3
  by_cases he : e = 0
  · subst he
    go_wp2_with (first
      | (refine wpList_loadB rfl 25 _ rfl w.heap.size (progC (.slice x p.types.length k) p (.slice x' p.code.length k')) rfl 25 KP.out.blk _ Tryd.underlying25 rfl prog_info ?_)
      | (go_at_call 8; refine (HAL.out _ HB.out).mono ?_; rintro e1 w1 ⟨rfl, hb⟩; have HB := Lib.hid (HB.out.trans (hb.mono HB.out.size)); have KP := Lib.hid (KP.out.below hb); clear hb)
      | (go_at_call 9; refine (HF.out _ HB.out).mono ?_; rintro e1 w1 ⟨rfl, hb⟩; have HB := Lib.hid (HB.out.trans (hb.mono HB.out.size)); have KP := Lib.hid (KP.out.below hb); clear hb; obtain ⟨p0, p1, p2, p3⟩ := KP.out.cells)
      | (go_at_call 10; refine (HC.out _ HB.out).mono ?_; rintro e1 w1 ⟨rfl, hb⟩; have HB := Lib.hid (HB.out.trans (hb.mono HB.out.size)); clear hb))
    go_ret
    exact ⟨rfl, HS.out.trans (HB.out.mono HS.out.size)⟩
  · have e1 : (e == 0) = false := by simp [he]
    clear he
    go_wp2_with (first
      | (refine wpList_loadB rfl 25 _ rfl w.heap.size (progC (.slice x p.types.length k) p (.slice x' p.code.length k')) rfl 25 KP.out.blk _ Tryd.underlying25 rfl prog_info ?_)
      | (go_at_call 8; refine (HAL.out _ HB.out).mono ?_; rintro e1 w1 ⟨rfl, hb⟩; have HB := Lib.hid (HB.out.trans (hb.mono HB.out.size)); have KP := Lib.hid (KP.out.below hb); clear hb)
      | (go_at_call 9; refine (HF.out _ HB.out).mono ?_; rintro e1 w1 ⟨rfl, hb⟩; have HB := Lib.hid (HB.out.trans (hb.mono HB.out.size)); have KP := Lib.hid (KP.out.below hb); clear hb; obtain ⟨p0, p1, p2, p3⟩ := KP.out.cells)
      | (go_at_call 10; refine (HC.out _ HB.out).mono ?_; rintro e1 w1 ⟨rfl, hb⟩; have HB := Lib.hid (HB.out.trans (hb.mono HB.out.size)); clear hb))
    go_ret
    exact ⟨rfl, HS.out.trans (HB.out.mono HS.out.size)⟩
end Go.Proofs.YtclkccbihnccgaaDoor
