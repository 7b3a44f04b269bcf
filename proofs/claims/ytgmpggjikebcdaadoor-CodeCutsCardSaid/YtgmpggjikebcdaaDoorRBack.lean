/-
  CodeBack: the walk.
-/
import Derived.Test.YtgmpggjikebcdaaDoorRSame
import Derived.Test.YtgmpggjikebcdaaDoorCBackP
namespace Go.Proofs.YtgmpggjikebcdaaDoor
open Go.RowKit

theorem same_any (v u : Value) (p q : PProg) (b : Bool) (w : World) (h : ProgAt w v p) (h' : ProgAt w u q) (hb : b = true ↔ p = q) : Calls Tryd.prog 12 #[v, u] w (AggPost w (.bool b)) := by
  obtain ⟨vt, vc, rfl, ht, hc⟩ := h
  obtain ⟨ut, uc, rfl, ht', hc'⟩ := h'
  obtain ⟨a, c, rfl, h1, h2, h3⟩ := ht.elems
  obtain ⟨a', c', rfl, g1, g2, g3⟩ := hc
  obtain ⟨d, f, rfl, k1, k2, k3⟩ := ht'.elems
  obtain ⟨d', f', rfl, m1, m2, m3⟩ := hc'
  unfold maxLen at h2 g2 k2 m2
  exact same_walk a a' d d' c c' f f' p q b w ⟨h1, by omega⟩ ⟨g1, by omega⟩ ⟨k1, by omega⟩ ⟨m1, by omega⟩ (Lib.hid h3) (Lib.hid k3) (Lib.hid g3) (Lib.hid m3) (Lib.hid hb)

/-- What a text is parsed as, out of its rows. -/
def RdPost (w : World) (p : PProg) (n e : Int) (x : Ending) (w' : World) : Prop := ∃ vt vc, x = .returned (.tuple #[.agg #[vt, str p.locals, str p.globs, vc], .int .i64 n, .int .i64 e]) ∧
  Hid (ProgAt w' (.agg #[vt, str p.locals, str p.globs, vc]) p ∧ (#[vt, str p.locals, str p.globs, vc] : Array Value).all (·.oneCell') = true) ∧ Hid (Below w.heap.size w w')
theorem parse_str (x : Bs) (r : PProg × Nat × Nat) (w : World) (hA : HasAll w) (hx : x.length ≤ 140737488355328) (h : parseL x = r) : Calls Tryd.prog 11 #[str x] w (RdPost w r.1 r.2.1 r.2.2) := by
  have hp := parse_any ⟨x.toArray⟩ w (by show x.toArray.size ≤ _; unfold maxLen; simp; omega) hA.m hA.o hA.e
  rw [show (⟨x.toArray⟩ : ByteArray).data.toList = x from rfl, h] at hp
  refine hp.mono ?_
  rintro e w' ⟨pv, rfl, ⟨vt, vc, rfl, h1, h2⟩, hb⟩
  exact ⟨vt, vc, rfl, Lib.hid ⟨⟨vt, vc, rfl, RowAt.of_own h1, insRow_own h2⟩, progC_one (P := r.1) h1 h2⟩, Lib.hid hb⟩
theorem text_eq {p q : PProg} {b : Bool} (hp : OkP p) (hq : OkP q) (h1 : mayP p = true) (h2 : mayP q = true) (hl : (joinL (linesP p)).length ≤ 20000) (hl2 : (joinL (linesP q)).length ≤ 20000) (hb : b = true ↔ p = q) : (joinL (linesP p) == joinL (linesP q)) = b := by
  rcases b with _ | _
  · rw [beq_eq_false_iff_ne]
    intro h
    exact absurd (hb.2 (text_inj hp hq h1 h2 hl hl2 h)) (by simp)
  · rw [hb.1 rfl]; simp

set_option maxRecDepth 100000 in
set_option maxHeartbeats 2000000 in
theorem back_few1 (w W0 : World) (p q : PProg) (a a' d d' : Option Addr) (c c' f f' : Nat) (hW0 : W0 = ((w.alloc (.cells #[.slice a p.types.length c, str p.locals, str p.globs, .slice a' p.code.length c'] 25)).alloc (.cells #[.slice d q.types.length f, str q.locals, str q.globs, .slice d' q.code.length f'] 25)))
    (KP : Hid (∀ w1, Below W0.heap.size W0 w1 → w1.cell? ⟨w.heap.size, 0, none⟩ = some (.slice a p.types.length c) ∧ w1.cell? ⟨w.heap.size, 1, none⟩ = some (str p.locals) ∧ w1.cell? ⟨w.heap.size, 2, none⟩ = some (str p.globs) ∧ w1.cell? ⟨w.heap.size, 3, none⟩ = some (.slice a' p.code.length c')))
    (KQ : Hid (∀ w1, Below W0.heap.size W0 w1 → w1.cell? ⟨w.heap.size + 1, 0, none⟩ = some (.slice d q.types.length f) ∧ w1.cell? ⟨w.heap.size + 1, 1, none⟩ = some (str q.locals) ∧ w1.cell? ⟨w.heap.size + 1, 2, none⟩ = some (str q.globs) ∧ w1.cell? ⟨w.heap.size + 1, 3, none⟩ = some (.slice d' q.code.length f')))
    (HS : Hid (Below w.heap.size w W0))
    (HAL : Hid (∀ w1, Below W0.heap.size W0 w1 → Calls Tryd.prog 8 #[] w1 (AggPost w1 (.bool true))))
    (HF1 : Hid (∀ w1, Below W0.heap.size W0 w1 → Calls Tryd.prog 9 #[.agg #[.slice a p.types.length c, str p.locals, str p.globs, .slice a' p.code.length c']] w1 (AggPost w1 (.bool false))))
    :
    Calls Tryd.prog 3 #[.agg #[.slice a p.types.length c, str p.locals, str p.globs, .slice a' p.code.length c'], .agg #[.slice d q.types.length f, str q.locals, str q.globs, .slice d' q.code.length f']] w (AggPost w (.bool true)) := by
  go_enter Tryd.func3, Tryd.ntmps3
  go_wp2_with (fail)
  rw [← hW0]
  clear hW0
  have HB := Lib.hid (Below.refl W0.heap.size W0)
  obtain ⟨c0, c1, c2, c3⟩ := KP.out _ HB.out
  obtain ⟨d0, d1, d2, d3⟩ := KQ.out _ HB.out
  go_wp2_with (first
    | (go_at_call 8; refine (HAL.out _ HB.out).mono ?_; rintro e wal ⟨rfl, hb⟩; clear HAL; clear c0 c1 c2 c3 d0 d1 d2 d3; have HB := Lib.hid (HB.out.trans (hb.mono HB.out.size)); clear hb; obtain ⟨c0, c1, c2, c3⟩ := KP.out _ HB.out; obtain ⟨d0, d1, d2, d3⟩ := KQ.out _ HB.out)
    | (go_at_call 9; refine (HF1.out _ HB.out).mono ?_; rintro e wf1 ⟨rfl, hb⟩; clear HF1; clear c0 c1 c2 c3 d0 d1 d2 d3; have HB := Lib.hid (HB.out.trans (hb.mono HB.out.size)); clear hb; obtain ⟨c0, c1, c2, c3⟩ := KP.out _ HB.out; obtain ⟨d0, d1, d2, d3⟩ := KQ.out _ HB.out))
  go_ret
  exact ⟨rfl, HS.out.trans (HB.out.mono HS.out.size)⟩

set_option maxRecDepth 100000 in
set_option maxHeartbeats 2000000 in
theorem back_few2 (w W0 : World) (p q : PProg) (a a' d d' : Option Addr) (c c' f f' : Nat) (hW0 : W0 = ((w.alloc (.cells #[.slice a p.types.length c, str p.locals, str p.globs, .slice a' p.code.length c'] 25)).alloc (.cells #[.slice d q.types.length f, str q.locals, str q.globs, .slice d' q.code.length f'] 25)))
    (KP : Hid (∀ w1, Below W0.heap.size W0 w1 → w1.cell? ⟨w.heap.size, 0, none⟩ = some (.slice a p.types.length c) ∧ w1.cell? ⟨w.heap.size, 1, none⟩ = some (str p.locals) ∧ w1.cell? ⟨w.heap.size, 2, none⟩ = some (str p.globs) ∧ w1.cell? ⟨w.heap.size, 3, none⟩ = some (.slice a' p.code.length c')))
    (KQ : Hid (∀ w1, Below W0.heap.size W0 w1 → w1.cell? ⟨w.heap.size + 1, 0, none⟩ = some (.slice d q.types.length f) ∧ w1.cell? ⟨w.heap.size + 1, 1, none⟩ = some (str q.locals) ∧ w1.cell? ⟨w.heap.size + 1, 2, none⟩ = some (str q.globs) ∧ w1.cell? ⟨w.heap.size + 1, 3, none⟩ = some (.slice d' q.code.length f')))
    (HS : Hid (Below w.heap.size w W0))
    (HAL : Hid (∀ w1, Below W0.heap.size W0 w1 → Calls Tryd.prog 8 #[] w1 (AggPost w1 (.bool true))))
    (HF1 : Hid (∀ w1, Below W0.heap.size W0 w1 → Calls Tryd.prog 9 #[.agg #[.slice a p.types.length c, str p.locals, str p.globs, .slice a' p.code.length c']] w1 (AggPost w1 (.bool true))))
    (HF2 : Hid (∀ w1, Below W0.heap.size W0 w1 → Calls Tryd.prog 9 #[.agg #[.slice d q.types.length f, str q.locals, str q.globs, .slice d' q.code.length f']] w1 (AggPost w1 (.bool false))))
    :
    Calls Tryd.prog 3 #[.agg #[.slice a p.types.length c, str p.locals, str p.globs, .slice a' p.code.length c'], .agg #[.slice d q.types.length f, str q.locals, str q.globs, .slice d' q.code.length f']] w (AggPost w (.bool true)) := by
  go_enter Tryd.func3, Tryd.ntmps3
  go_wp2_with (fail)
  rw [← hW0]
  clear hW0
  have HB := Lib.hid (Below.refl W0.heap.size W0)
  obtain ⟨c0, c1, c2, c3⟩ := KP.out _ HB.out
  obtain ⟨d0, d1, d2, d3⟩ := KQ.out _ HB.out
  go_wp2_with (first
    | (go_at_call 8; refine (HAL.out _ HB.out).mono ?_; rintro e wal ⟨rfl, hb⟩; clear HAL; clear c0 c1 c2 c3 d0 d1 d2 d3; have HB := Lib.hid (HB.out.trans (hb.mono HB.out.size)); clear hb; obtain ⟨c0, c1, c2, c3⟩ := KP.out _ HB.out; obtain ⟨d0, d1, d2, d3⟩ := KQ.out _ HB.out)
    | (go_at_call 9; refine (HF1.out _ HB.out).mono ?_; rintro e wf1 ⟨rfl, hb⟩; clear HF1; clear c0 c1 c2 c3 d0 d1 d2 d3; have HB := Lib.hid (HB.out.trans (hb.mono HB.out.size)); clear hb; obtain ⟨c0, c1, c2, c3⟩ := KP.out _ HB.out; obtain ⟨d0, d1, d2, d3⟩ := KQ.out _ HB.out)
    | (go_at_call 9; refine (HF2.out _ HB.out).mono ?_; rintro e wf2 ⟨rfl, hb⟩; clear HF2; clear c0 c1 c2 c3 d0 d1 d2 d3; have HB := Lib.hid (HB.out.trans (hb.mono HB.out.size)); clear hb; obtain ⟨c0, c1, c2, c3⟩ := KP.out _ HB.out; obtain ⟨d0, d1, d2, d3⟩ := KQ.out _ HB.out))
  go_ret
  exact ⟨rfl, HS.out.trans (HB.out.mono HS.out.size)⟩

set_option maxRecDepth 100000 in
set_option maxHeartbeats 2000000 in
theorem back_bad (w W0 : World) (p q : PProg) (a a' d d' : Option Addr) (c c' f f' : Nat) (hW0 : W0 = ((w.alloc (.cells #[.slice a p.types.length c, str p.locals, str p.globs, .slice a' p.code.length c'] 25)).alloc (.cells #[.slice d q.types.length f, str q.locals, str q.globs, .slice d' q.code.length f'] 25)))
    (KP : Hid (∀ w1, Below W0.heap.size W0 w1 → w1.cell? ⟨w.heap.size, 0, none⟩ = some (.slice a p.types.length c) ∧ w1.cell? ⟨w.heap.size, 1, none⟩ = some (str p.locals) ∧ w1.cell? ⟨w.heap.size, 2, none⟩ = some (str p.globs) ∧ w1.cell? ⟨w.heap.size, 3, none⟩ = some (.slice a' p.code.length c')))
    (KQ : Hid (∀ w1, Below W0.heap.size W0 w1 → w1.cell? ⟨w.heap.size + 1, 0, none⟩ = some (.slice d q.types.length f) ∧ w1.cell? ⟨w.heap.size + 1, 1, none⟩ = some (str q.locals) ∧ w1.cell? ⟨w.heap.size + 1, 2, none⟩ = some (str q.globs) ∧ w1.cell? ⟨w.heap.size + 1, 3, none⟩ = some (.slice d' q.code.length f')))
    (HS : Hid (Below w.heap.size w W0))
    (R2 : Bs × Nat) (HAL : Hid (∀ w1, Below W0.heap.size W0 w1 → Calls Tryd.prog 8 #[] w1 (AggPost w1 (.bool true))))
    (HF1 : Hid (∀ w1, Below W0.heap.size W0 w1 → Calls Tryd.prog 9 #[.agg #[.slice a p.types.length c, str p.locals, str p.globs, .slice a' p.code.length c']] w1 (AggPost w1 (.bool true))))
    (HF2 : Hid (∀ w1, Below W0.heap.size W0 w1 → Calls Tryd.prog 9 #[.agg #[.slice d q.types.length f, str q.locals, str q.globs, .slice d' q.code.length f']] w1 (AggPost w1 (.bool true))))
    (HP1 : Hid (∀ w1, Below W0.heap.size W0 w1 → Calls Tryd.prog 10 #[.agg #[.slice a p.types.length c, str p.locals, str p.globs, .slice a' p.code.length c']] w1 (PrintPost w1 ([], 2))))
    (HP2 : Hid (∀ w1, Below W0.heap.size W0 w1 → Calls Tryd.prog 10 #[.agg #[.slice d q.types.length f, str q.locals, str q.globs, .slice d' q.code.length f']] w1 (PrintPost w1 (R2))))
    :
    Calls Tryd.prog 3 #[.agg #[.slice a p.types.length c, str p.locals, str p.globs, .slice a' p.code.length c'], .agg #[.slice d q.types.length f, str q.locals, str q.globs, .slice d' q.code.length f']] w (AggPost w (.bool true)) := by
  go_enter Tryd.func3, Tryd.ntmps3
  go_wp2_with (fail)
  rw [← hW0]
  clear hW0
  have HB := Lib.hid (Below.refl W0.heap.size W0)
  obtain ⟨c0, c1, c2, c3⟩ := KP.out _ HB.out
  obtain ⟨d0, d1, d2, d3⟩ := KQ.out _ HB.out
  go_wp2_with (first
    | (go_at_call 8; refine (HAL.out _ HB.out).mono ?_; rintro e wal ⟨rfl, hb⟩; clear HAL; clear c0 c1 c2 c3 d0 d1 d2 d3; have HB := Lib.hid (HB.out.trans (hb.mono HB.out.size)); clear hb; obtain ⟨c0, c1, c2, c3⟩ := KP.out _ HB.out; obtain ⟨d0, d1, d2, d3⟩ := KQ.out _ HB.out)
    | (go_at_call 9; refine (HF1.out _ HB.out).mono ?_; rintro e wf1 ⟨rfl, hb⟩; clear HF1; clear c0 c1 c2 c3 d0 d1 d2 d3; have HB := Lib.hid (HB.out.trans (hb.mono HB.out.size)); clear hb; obtain ⟨c0, c1, c2, c3⟩ := KP.out _ HB.out; obtain ⟨d0, d1, d2, d3⟩ := KQ.out _ HB.out)
    | (go_at_call 9; refine (HF2.out _ HB.out).mono ?_; rintro e wf2 ⟨rfl, hb⟩; clear HF2; clear c0 c1 c2 c3 d0 d1 d2 d3; have HB := Lib.hid (HB.out.trans (hb.mono HB.out.size)); clear hb; obtain ⟨c0, c1, c2, c3⟩ := KP.out _ HB.out; obtain ⟨d0, d1, d2, d3⟩ := KQ.out _ HB.out)
    | (go_at_call 10; refine (HP1.out _ HB.out).mono ?_; rintro e wp1 ⟨rfl, hb⟩; clear HP1; clear c0 c1 c2 c3 d0 d1 d2 d3; have HB := Lib.hid (HB.out.trans (hb.mono HB.out.size)); clear hb; obtain ⟨c0, c1, c2, c3⟩ := KP.out _ HB.out; obtain ⟨d0, d1, d2, d3⟩ := KQ.out _ HB.out)
    | (go_at_call 10; refine (HP2.out _ HB.out).mono ?_; rintro e wp2 ⟨rfl, hb⟩; clear HP2; clear c0 c1 c2 c3 d0 d1 d2 d3; have HB := Lib.hid (HB.out.trans (hb.mono HB.out.size)); clear hb; obtain ⟨c0, c1, c2, c3⟩ := KP.out _ HB.out; obtain ⟨d0, d1, d2, d3⟩ := KQ.out _ HB.out))
  go_ret
  exact ⟨rfl, HS.out.trans (HB.out.mono HS.out.size)⟩

set_option maxRecDepth 100000 in
set_option maxHeartbeats 2000000 in
theorem back_half (w W0 : World) (p q : PProg) (a a' d d' : Option Addr) (c c' f f' : Nat) (hW0 : W0 = ((w.alloc (.cells #[.slice a p.types.length c, str p.locals, str p.globs, .slice a' p.code.length c'] 25)).alloc (.cells #[.slice d q.types.length f, str q.locals, str q.globs, .slice d' q.code.length f'] 25)))
    (KP : Hid (∀ w1, Below W0.heap.size W0 w1 → w1.cell? ⟨w.heap.size, 0, none⟩ = some (.slice a p.types.length c) ∧ w1.cell? ⟨w.heap.size, 1, none⟩ = some (str p.locals) ∧ w1.cell? ⟨w.heap.size, 2, none⟩ = some (str p.globs) ∧ w1.cell? ⟨w.heap.size, 3, none⟩ = some (.slice a' p.code.length c')))
    (KQ : Hid (∀ w1, Below W0.heap.size W0 w1 → w1.cell? ⟨w.heap.size + 1, 0, none⟩ = some (.slice d q.types.length f) ∧ w1.cell? ⟨w.heap.size + 1, 1, none⟩ = some (str q.locals) ∧ w1.cell? ⟨w.heap.size + 1, 2, none⟩ = some (str q.globs) ∧ w1.cell? ⟨w.heap.size + 1, 3, none⟩ = some (.slice d' q.code.length f')))
    (HS : Hid (Below w.heap.size w W0))
    (tp : Bs) (HAL : Hid (∀ w1, Below W0.heap.size W0 w1 → Calls Tryd.prog 8 #[] w1 (AggPost w1 (.bool true))))
    (HF1 : Hid (∀ w1, Below W0.heap.size W0 w1 → Calls Tryd.prog 9 #[.agg #[.slice a p.types.length c, str p.locals, str p.globs, .slice a' p.code.length c']] w1 (AggPost w1 (.bool true))))
    (HF2 : Hid (∀ w1, Below W0.heap.size W0 w1 → Calls Tryd.prog 9 #[.agg #[.slice d q.types.length f, str q.locals, str q.globs, .slice d' q.code.length f']] w1 (AggPost w1 (.bool true))))
    (HP1 : Hid (∀ w1, Below W0.heap.size W0 w1 → Calls Tryd.prog 10 #[.agg #[.slice a p.types.length c, str p.locals, str p.globs, .slice a' p.code.length c']] w1 (PrintPost w1 (tp, 0))))
    (HP2 : Hid (∀ w1, Below W0.heap.size W0 w1 → Calls Tryd.prog 10 #[.agg #[.slice d q.types.length f, str q.locals, str q.globs, .slice d' q.code.length f']] w1 (PrintPost w1 ([], 2))))
    (HPA : Hid (∀ w1, Below W0.heap.size W0 w1 → Calls Tryd.prog 11 #[str tp] w1 (RdPost w1 p 0 0)))
    (HS1 : Hid (∀ w1 v, Below W0.heap.size W0 w1 → ProgAt w1 v p → Calls Tryd.prog 12 #[v, .agg #[.slice a p.types.length c, str p.locals, str p.globs, .slice a' p.code.length c']] w1 (AggPost w1 (.bool true))))
    :
    Calls Tryd.prog 3 #[.agg #[.slice a p.types.length c, str p.locals, str p.globs, .slice a' p.code.length c'], .agg #[.slice d q.types.length f, str q.locals, str q.globs, .slice d' q.code.length f']] w (AggPost w (.bool true)) := by
  go_enter Tryd.func3, Tryd.ntmps3
  go_wp2_with (fail)
  rw [← hW0]
  clear hW0
  have HB := Lib.hid (Below.refl W0.heap.size W0)
  obtain ⟨c0, c1, c2, c3⟩ := KP.out _ HB.out
  obtain ⟨d0, d1, d2, d3⟩ := KQ.out _ HB.out
  go_wp2_with (first
    | (go_at_call 8; refine (HAL.out _ HB.out).mono ?_; rintro e wal ⟨rfl, hb⟩; clear HAL; clear c0 c1 c2 c3 d0 d1 d2 d3; have HB := Lib.hid (HB.out.trans (hb.mono HB.out.size)); clear hb; obtain ⟨c0, c1, c2, c3⟩ := KP.out _ HB.out; obtain ⟨d0, d1, d2, d3⟩ := KQ.out _ HB.out)
    | (go_at_call 9; refine (HF1.out _ HB.out).mono ?_; rintro e wf1 ⟨rfl, hb⟩; clear HF1; clear c0 c1 c2 c3 d0 d1 d2 d3; have HB := Lib.hid (HB.out.trans (hb.mono HB.out.size)); clear hb; obtain ⟨c0, c1, c2, c3⟩ := KP.out _ HB.out; obtain ⟨d0, d1, d2, d3⟩ := KQ.out _ HB.out)
    | (go_at_call 9; refine (HF2.out _ HB.out).mono ?_; rintro e wf2 ⟨rfl, hb⟩; clear HF2; clear c0 c1 c2 c3 d0 d1 d2 d3; have HB := Lib.hid (HB.out.trans (hb.mono HB.out.size)); clear hb; obtain ⟨c0, c1, c2, c3⟩ := KP.out _ HB.out; obtain ⟨d0, d1, d2, d3⟩ := KQ.out _ HB.out)
    | (go_at_call 10; refine (HP1.out _ HB.out).mono ?_; rintro e wp1 ⟨rfl, hb⟩; clear HP1; clear c0 c1 c2 c3 d0 d1 d2 d3; have HB := Lib.hid (HB.out.trans (hb.mono HB.out.size)); clear hb; obtain ⟨c0, c1, c2, c3⟩ := KP.out _ HB.out; obtain ⟨d0, d1, d2, d3⟩ := KQ.out _ HB.out)
    | (go_at_call 10; refine (HP2.out _ HB.out).mono ?_; rintro e wp2 ⟨rfl, hb⟩; clear HP2; clear c0 c1 c2 c3 d0 d1 d2 d3; have HB := Lib.hid (HB.out.trans (hb.mono HB.out.size)); clear hb; obtain ⟨c0, c1, c2, c3⟩ := KP.out _ HB.out; obtain ⟨d0, d1, d2, d3⟩ := KQ.out _ HB.out)
    | (go_at_call 11; refine (HPA.out _ HB.out).mono ?_; rintro e wpa ⟨vx, vcx, rfl, HX, hb0⟩; clear HPA; have hb := hb0.out; clear hb0; clear c0 c1 c2 c3 d0 d1 d2 d3; have HB := Lib.hid (HB.out.trans (hb.mono HB.out.size)); clear hb; obtain ⟨c0, c1, c2, c3⟩ := KP.out _ HB.out; obtain ⟨d0, d1, d2, d3⟩ := KQ.out _ HB.out)
    | (refine wpList_putB rfl 25 _ _ rfl wpa.heap.size #[vx, str p.locals, str p.globs, vcx] rfl rfl 25 _ (blk_new _ _ _) prog_info rfl HX.out.2 ?_; have hb := put_new wpa #[vx, str p.locals, str p.globs, vcx]; have hk := putB_at (blk_new wpa zeroP 25) #[vx, str p.locals, str p.globs, vcx] 25; generalize putB (wpa.alloc (.cells zeroP 25)) wpa.heap.size #[vx, str p.locals, str p.globs, vcx] 25 = W7 at *; have hx := HX.out.1.below hb; have x0 := blk_cell hk 0 _ rfl; have x1 := blk_cell hk 1 _ rfl; have x2 := blk_cell hk 2 _ rfl; have x3 := blk_cell hk 3 _ rfl; clear hk; have HX2 := Lib.hid hx; clear hx; clear c0 c1 c2 c3 d0 d1 d2 d3; have HB := Lib.hid (HB.out.trans (hb.mono HB.out.size)); clear hb; obtain ⟨c0, c1, c2, c3⟩ := KP.out _ HB.out; obtain ⟨d0, d1, d2, d3⟩ := KQ.out _ HB.out)
    | (go_at_call 12; refine (HS1.out _ _ HB.out HX2.out).mono ?_; rintro e w8 ⟨rfl, hb⟩; clear HS1; clear c0 c1 c2 c3 d0 d1 d2 d3; have HB := Lib.hid (HB.out.trans (hb.mono HB.out.size)); clear hb; obtain ⟨c0, c1, c2, c3⟩ := KP.out _ HB.out; obtain ⟨d0, d1, d2, d3⟩ := KQ.out _ HB.out))
  go_ret
  exact ⟨rfl, HS.out.trans (HB.out.mono HS.out.size)⟩

set_option maxRecDepth 100000 in
set_option maxHeartbeats 2000000 in
theorem back_full (w W0 : World) (p q : PProg) (a a' d d' : Option Addr) (c c' f f' : Nat) (hW0 : W0 = ((w.alloc (.cells #[.slice a p.types.length c, str p.locals, str p.globs, .slice a' p.code.length c'] 25)).alloc (.cells #[.slice d q.types.length f, str q.locals, str q.globs, .slice d' q.code.length f'] 25)))
    (KP : Hid (∀ w1, Below W0.heap.size W0 w1 → w1.cell? ⟨w.heap.size, 0, none⟩ = some (.slice a p.types.length c) ∧ w1.cell? ⟨w.heap.size, 1, none⟩ = some (str p.locals) ∧ w1.cell? ⟨w.heap.size, 2, none⟩ = some (str p.globs) ∧ w1.cell? ⟨w.heap.size, 3, none⟩ = some (.slice a' p.code.length c')))
    (KQ : Hid (∀ w1, Below W0.heap.size W0 w1 → w1.cell? ⟨w.heap.size + 1, 0, none⟩ = some (.slice d q.types.length f) ∧ w1.cell? ⟨w.heap.size + 1, 1, none⟩ = some (str q.locals) ∧ w1.cell? ⟨w.heap.size + 1, 2, none⟩ = some (str q.globs) ∧ w1.cell? ⟨w.heap.size + 1, 3, none⟩ = some (.slice d' q.code.length f')))
    (HS : Hid (Below w.heap.size w W0))
    (tp tq : Bs) (b : Bool) (HAL : Hid (∀ w1, Below W0.heap.size W0 w1 → Calls Tryd.prog 8 #[] w1 (AggPost w1 (.bool true))))
    (HF1 : Hid (∀ w1, Below W0.heap.size W0 w1 → Calls Tryd.prog 9 #[.agg #[.slice a p.types.length c, str p.locals, str p.globs, .slice a' p.code.length c']] w1 (AggPost w1 (.bool true))))
    (HF2 : Hid (∀ w1, Below W0.heap.size W0 w1 → Calls Tryd.prog 9 #[.agg #[.slice d q.types.length f, str q.locals, str q.globs, .slice d' q.code.length f']] w1 (AggPost w1 (.bool true))))
    (HP1 : Hid (∀ w1, Below W0.heap.size W0 w1 → Calls Tryd.prog 10 #[.agg #[.slice a p.types.length c, str p.locals, str p.globs, .slice a' p.code.length c']] w1 (PrintPost w1 (tp, 0))))
    (HP2 : Hid (∀ w1, Below W0.heap.size W0 w1 → Calls Tryd.prog 10 #[.agg #[.slice d q.types.length f, str q.locals, str q.globs, .slice d' q.code.length f']] w1 (PrintPost w1 (tq, 0))))
    (HPA : Hid (∀ w1, Below W0.heap.size W0 w1 → Calls Tryd.prog 11 #[str tp] w1 (RdPost w1 p 0 0)))
    (HS1 : Hid (∀ w1 v, Below W0.heap.size W0 w1 → ProgAt w1 v p → Calls Tryd.prog 12 #[v, .agg #[.slice a p.types.length c, str p.locals, str p.globs, .slice a' p.code.length c']] w1 (AggPost w1 (.bool true))))
    (HS2 : Hid (∀ w1, Below W0.heap.size W0 w1 → Calls Tryd.prog 12 #[.agg #[.slice a p.types.length c, str p.locals, str p.globs, .slice a' p.code.length c'], .agg #[.slice d q.types.length f, str q.locals, str q.globs, .slice d' q.code.length f']] w1 (AggPost w1 (.bool b))))
    (hx : (tp == tq) = b) :
    Calls Tryd.prog 3 #[.agg #[.slice a p.types.length c, str p.locals, str p.globs, .slice a' p.code.length c'], .agg #[.slice d q.types.length f, str q.locals, str q.globs, .slice d' q.code.length f']] w (AggPost w (.bool true)) := by
  go_enter Tryd.func3, Tryd.ntmps3
  go_wp2_with (fail)
  rw [← hW0]
  clear hW0
  have HB := Lib.hid (Below.refl W0.heap.size W0)
  obtain ⟨c0, c1, c2, c3⟩ := KP.out _ HB.out
  obtain ⟨d0, d1, d2, d3⟩ := KQ.out _ HB.out
  go_wp2_with (first
    | (go_at_call 8; refine (HAL.out _ HB.out).mono ?_; rintro e wal ⟨rfl, hb⟩; clear HAL; clear c0 c1 c2 c3 d0 d1 d2 d3; have HB := Lib.hid (HB.out.trans (hb.mono HB.out.size)); clear hb; obtain ⟨c0, c1, c2, c3⟩ := KP.out _ HB.out; obtain ⟨d0, d1, d2, d3⟩ := KQ.out _ HB.out)
    | (go_at_call 9; refine (HF1.out _ HB.out).mono ?_; rintro e wf1 ⟨rfl, hb⟩; clear HF1; clear c0 c1 c2 c3 d0 d1 d2 d3; have HB := Lib.hid (HB.out.trans (hb.mono HB.out.size)); clear hb; obtain ⟨c0, c1, c2, c3⟩ := KP.out _ HB.out; obtain ⟨d0, d1, d2, d3⟩ := KQ.out _ HB.out)
    | (go_at_call 9; refine (HF2.out _ HB.out).mono ?_; rintro e wf2 ⟨rfl, hb⟩; clear HF2; clear c0 c1 c2 c3 d0 d1 d2 d3; have HB := Lib.hid (HB.out.trans (hb.mono HB.out.size)); clear hb; obtain ⟨c0, c1, c2, c3⟩ := KP.out _ HB.out; obtain ⟨d0, d1, d2, d3⟩ := KQ.out _ HB.out)
    | (go_at_call 10; refine (HP1.out _ HB.out).mono ?_; rintro e wp1 ⟨rfl, hb⟩; clear HP1; clear c0 c1 c2 c3 d0 d1 d2 d3; have HB := Lib.hid (HB.out.trans (hb.mono HB.out.size)); clear hb; obtain ⟨c0, c1, c2, c3⟩ := KP.out _ HB.out; obtain ⟨d0, d1, d2, d3⟩ := KQ.out _ HB.out)
    | (go_at_call 10; refine (HP2.out _ HB.out).mono ?_; rintro e wp2 ⟨rfl, hb⟩; clear HP2; clear c0 c1 c2 c3 d0 d1 d2 d3; have HB := Lib.hid (HB.out.trans (hb.mono HB.out.size)); clear hb; obtain ⟨c0, c1, c2, c3⟩ := KP.out _ HB.out; obtain ⟨d0, d1, d2, d3⟩ := KQ.out _ HB.out)
    | (go_at_call 11; refine (HPA.out _ HB.out).mono ?_; rintro e wpa ⟨vx, vcx, rfl, HX, hb0⟩; clear HPA; have hb := hb0.out; clear hb0; clear c0 c1 c2 c3 d0 d1 d2 d3; have HB := Lib.hid (HB.out.trans (hb.mono HB.out.size)); clear hb; obtain ⟨c0, c1, c2, c3⟩ := KP.out _ HB.out; obtain ⟨d0, d1, d2, d3⟩ := KQ.out _ HB.out)
    | (refine wpList_putB rfl 25 _ _ rfl wpa.heap.size #[vx, str p.locals, str p.globs, vcx] rfl rfl 25 _ (blk_new _ _ _) prog_info rfl HX.out.2 ?_; have hb := put_new wpa #[vx, str p.locals, str p.globs, vcx]; have hk := putB_at (blk_new wpa zeroP 25) #[vx, str p.locals, str p.globs, vcx] 25; generalize putB (wpa.alloc (.cells zeroP 25)) wpa.heap.size #[vx, str p.locals, str p.globs, vcx] 25 = W7 at *; have hx := HX.out.1.below hb; have x0 := blk_cell hk 0 _ rfl; have x1 := blk_cell hk 1 _ rfl; have x2 := blk_cell hk 2 _ rfl; have x3 := blk_cell hk 3 _ rfl; clear hk; have HX2 := Lib.hid hx; clear hx; clear c0 c1 c2 c3 d0 d1 d2 d3; have HB := Lib.hid (HB.out.trans (hb.mono HB.out.size)); clear hb; obtain ⟨c0, c1, c2, c3⟩ := KP.out _ HB.out; obtain ⟨d0, d1, d2, d3⟩ := KQ.out _ HB.out)
    | (go_at_call 12; refine (HS1.out _ _ HB.out HX2.out).mono ?_; rintro e w8 ⟨rfl, hb⟩; clear HS1; clear c0 c1 c2 c3 d0 d1 d2 d3; have HB := Lib.hid (HB.out.trans (hb.mono HB.out.size)); clear hb; obtain ⟨c0, c1, c2, c3⟩ := KP.out _ HB.out; obtain ⟨d0, d1, d2, d3⟩ := KQ.out _ HB.out)
    | (go_at_call 12; refine (HS2.out _ HB.out).mono ?_; rintro e ws2 ⟨rfl, hb⟩; clear HS2; clear c0 c1 c2 c3 d0 d1 d2 d3; have HB := Lib.hid (HB.out.trans (hb.mono HB.out.size)); clear hb; obtain ⟨c0, c1, c2, c3⟩ := KP.out _ HB.out; obtain ⟨d0, d1, d2, d3⟩ := KQ.out _ HB.out))
  go_ret
  exact ⟨rfl, HS.out.trans (HB.out.mono HS.out.size)⟩

theorem back_walk (v u : Value) (p q : PProg) (w : World) (h : ProgAt w v p) (h' : ProgAt w u q) (hs : OkP p) (hs' : OkP q) (hl : p.types.length ≤ 8796093022208) (hl' : q.types.length ≤ 8796093022208) (hA : HasAll w) : Calls Tryd.prog 3 #[v, u] w fun e w' => e = .returned (.bool true) ∧ Below w.heap.size w w' := by
  obtain ⟨vt, vc, rfl, ht, hc⟩ := h
  obtain ⟨ut, uc, rfl, ht', hc'⟩ := h'
  obtain ⟨a, c, rfl, -, -, -⟩ := id ht.elems
  obtain ⟨a', c', rfl, -, -, -⟩ := id hc
  obtain ⟨d, f, rfl, -, -, -⟩ := id ht'.elems
  obtain ⟨d', f', rfl, -, -, -⟩ := id hc'
  have hp0 : ProgAt w (.agg (#[.slice a p.types.length c, str p.locals, str p.globs, .slice a' p.code.length c'] : Array Value)) p := ⟨_, _, rfl, ht, hc⟩
  have hq0 : ProgAt w (.agg (#[.slice d q.types.length f, str q.locals, str q.globs, .slice d' q.code.length f'] : Array Value)) q := ⟨_, _, rfl, ht', hc'⟩
  have hsz1 : (w.alloc (.cells (#[.slice a p.types.length c, str p.locals, str p.globs, .slice a' p.code.length c'] : Array Value) 25)).heap.size = w.heap.size + 1 := by simp
  have hwb : Below w.heap.size w ((w.alloc (.cells #[.slice a p.types.length c, str p.locals, str p.globs, .slice a' p.code.length c'] 25)).alloc (.cells #[.slice d q.types.length f, str q.locals, str q.globs, .slice d' q.code.length f'] 25)) := ((Below.refl _ _).alloc (Nat.le_refl _) _).alloc (by omega) _
  have kp : blk ((w.alloc (.cells #[.slice a p.types.length c, str p.locals, str p.globs, .slice a' p.code.length c'] 25)).alloc (.cells #[.slice d q.types.length f, str q.locals, str q.globs, .slice d' q.code.length f'] 25)) w.heap.size (#[.slice a p.types.length c, str p.locals, str p.globs, .slice a' p.code.length c'] : Array Value) 25 := blk_alloc (blk_new w _ 25) _
  have kq : blk ((w.alloc (.cells #[.slice a p.types.length c, str p.locals, str p.globs, .slice a' p.code.length c'] 25)).alloc (.cells #[.slice d q.types.length f, str q.locals, str q.globs, .slice d' q.code.length f'] 25)) (w.heap.size + 1) (#[.slice d q.types.length f, str q.locals, str q.globs, .slice d' q.code.length f'] : Array Value) 25 := by rw [← hsz1]; exact blk_new _ _ _
  generalize hW0 : ((w.alloc (.cells #[.slice a p.types.length c, str p.locals, str p.globs, .slice a' p.code.length c'] 25)).alloc (.cells #[.slice d q.types.length f, str q.locals, str q.globs, .slice d' q.code.length f'] 25)) = W0 at hwb kp kq
  have KP := Lib.hid (fun w1 (hb : Below W0.heap.size W0 w1) => (⟨blk_cell (blk_below kp hb) 0 _ rfl, blk_cell (blk_below kp hb) 1 _ rfl, blk_cell (blk_below kp hb) 2 _ rfl, blk_cell (blk_below kp hb) 3 _ rfl⟩ : w1.cell? ⟨w.heap.size, 0, none⟩ = some (.slice a p.types.length c) ∧ w1.cell? ⟨w.heap.size, 1, none⟩ = some (str p.locals) ∧ w1.cell? ⟨w.heap.size, 2, none⟩ = some (str p.globs) ∧ w1.cell? ⟨w.heap.size, 3, none⟩ = some (.slice a' p.code.length c')))
  have KQ := Lib.hid (fun w1 (hb : Below W0.heap.size W0 w1) => (⟨blk_cell (blk_below kq hb) 0 _ rfl, blk_cell (blk_below kq hb) 1 _ rfl, blk_cell (blk_below kq hb) 2 _ rfl, blk_cell (blk_below kq hb) 3 _ rfl⟩ : w1.cell? ⟨w.heap.size + 1, 0, none⟩ = some (.slice d q.types.length f) ∧ w1.cell? ⟨w.heap.size + 1, 1, none⟩ = some (str q.locals) ∧ w1.cell? ⟨w.heap.size + 1, 2, none⟩ = some (str q.globs) ∧ w1.cell? ⟨w.heap.size + 1, 3, none⟩ = some (.slice d' q.code.length f')))
  have HS := Lib.hid hwb
  have hp := hp0.below hwb
  have hq := hq0.below hwb
  have hA0 := hA.below hwb
  have HAL := Lib.hid (fun w1 (hb : Below W0.heap.size W0 w1) => alive_any w1 (hA0.below hb))
  have hf1 := fun w1 (hb : Below W0.heap.size W0 w1) (x : Bool) (hx : fewP p = x) => few_b _ p x w1 (hp.below hb) hs hx
  have hf2 := fun w1 (hb : Below W0.heap.size W0 w1) (x : Bool) (hx : fewP q = x) => few_b _ q x w1 (hq.below hb) hs' hx
  rcases e1 : fewP p with _ | _
  · exact back_few1 w W0 p q a a' d d' c c' f f' hW0.symm KP KQ HS HAL (Lib.hid fun w1 hb => hf1 w1 hb _ e1)
  rcases e2 : fewP q with _ | _
  · exact back_few2 w W0 p q a a' d d' c c' f f' hW0.symm KP KQ HS HAL (Lib.hid fun w1 hb => hf1 w1 hb _ e1) (Lib.hid fun w1 hb => hf2 w1 hb _ e2)
  have HF1 := Lib.hid fun w1 hb => hf1 w1 hb _ e1
  have HF2 := Lib.hid fun w1 hb => hf2 w1 hb _ e2
  have hpr1 := fun w1 (hb : Below W0.heap.size W0 w1) => print_few _ p w1 (hp.below hb) hs (hA0.below hb) e1 hl
  have hpr2 := fun w1 (hb : Below W0.heap.size W0 w1) => print_few _ q w1 (hq.below hb) hs' (hA0.below hb) e2 hl'
  rcases m1 : mayP p with _ | _
  · have e : printL p = ([], 2) := by unfold printL; rw [m1]; rfl
    rw [e] at hpr1
    exact back_bad w W0 p q a a' d d' c c' f f' hW0.symm KP KQ HS _ HAL HF1 HF2 (Lib.hid hpr1) (Lib.hid hpr2)
  have e : printL p = (joinL (linesP p), 0) := by unfold printL; rw [m1]; rfl
  rw [e] at hpr1
  obtain ⟨t1, t2⟩ := text_short hs m1 e1 hl
  have hpt := parse_text hs m1 t1
  have HPA := Lib.hid (fun w1 (hb : Below W0.heap.size W0 w1) => parse_str (joinL (linesP p)) (p, 0, 0) w1 (hA0.below hb) (by omega) hpt)
  have HS1 := Lib.hid (fun w1 v (hb : Below W0.heap.size W0 w1) (hv : ProgAt w1 v p) => same_any v _ p p true w1 hv (hp.below hb) (by simp))
  rcases m2 : mayP q with _ | _
  · have e' : printL q = ([], 2) := by unfold printL; rw [m2]; rfl
    rw [e'] at hpr2
    exact back_half w W0 p q a a' d d' c c' f f' hW0.symm KP KQ HS _ HAL HF1 HF2 (Lib.hid hpr1) (Lib.hid hpr2) HPA HS1
  have e' : printL q = (joinL (linesP q), 0) := by unfold printL; rw [m2]; rfl
  rw [e'] at hpr2
  obtain ⟨u1, u2⟩ := text_short hs' m2 e2 hl'
  obtain ⟨b, hb⟩ : ∃ b : Bool, b = true ↔ p = q := by
    rcases Classical.em (p = q) with h | h
    · exact ⟨true, by simp [h]⟩
    · exact ⟨false, by simp [h]⟩
  exact back_full w W0 p q a a' d d' c c' f f' hW0.symm KP KQ HS _ _ b HAL HF1 HF2 (Lib.hid hpr1) (Lib.hid hpr2) HPA HS1 (Lib.hid fun w1 hb' => same_any _ _ p q b w1 (hp.below hb') (hq.below hb') hb) (text_eq hs hs' m1 m2 t1 u1 hb)
end Go.Proofs.YtgmpggjikebcdaaDoor
