/-
  The program's live: its Uses, Sets and In do what they are to do.
  LiveTells: the walk.
  What the statements of layer 9 share: answers of In at their places, beside the program.
-/
import Derived.Test.YtfnoldopjnegfaaDoorVBI
import Derived.Test.YtfnoldopjnegfaaDoorFPg
import Derived.Laws.Shifts
import Derived.Laws.ShiftsVarLaws
import Derived.Deep.LoopGhost
import Derived.WalkMore
import Derived.ScopeJumps
import Derived.Deep.RegionHeld3
import Derived.Deep.CutRange
import Derived.Deep.QuietTactic
import Derived.Test.YtfnoldopjnegfaaDoorYPr

/- The program's live: its Uses, Sets and In do what they are to do. -/
namespace Go.Proofs.YtfnoldopjnegfaaDoor
set_option linter.unusedSimpArgs false
set_option linter.unusedVariables false
open Go.RowKit

/-! ### ahead: what matters at a place, by what is known of those behind it -/
structure AhW (w wr : World) (H : Nat) (C : Array Value) (out : List Nat) : Prop where
  below : Below w.heap.size w wr
  prog : blk wr w.heap.size C 25
  ar : blk wr H (u8Arr out) 5
theorem AhW.next {w wr w' : World} {H : Nat} {C : Array Value} {out : List Nat} (h : AhW w wr H C out) (hb : Below wr.heap.size wr w') : AhW w w' H C out :=
  ⟨h.below.trans (hb.mono h.below.size), blk_below h.prog hb, blk_below h.ar hb⟩
/-! ### In -/
/-- What a turn has found: nothing yet, or more than there was. -/
def TurnR (q : PProg) (out0 out : List Nat) (ch : Bool) (k : Nat) : Prop :=
  (ch = false → out = out0 ∧ ∀ j, k ≤ j → j < q.code.length → out.getD j 0 = flowN q out j) ∧ (ch = true → totN out0 < totN out)
theorem TurnR.start (q : PProg) (out : List Nat) : TurnR q out out false q.code.length := ⟨fun _ => ⟨rfl, fun j h1 h2 => by omega⟩, fun h => by cases h⟩
theorem TurnR.same {q : PProg} {out0 out : List Nat} {ch : Bool} {k : Nat} (h : TurnR q out0 out ch (k + 1)) (he : out.getD k 0 = flowN q out k) : TurnR q out0 out ch k :=
  ⟨fun e => ⟨(h.1 e).1, fun j h1 h2 => (by
    rcases Nat.lt_or_ge k j with h3 | h3
    · exact (h.1 e).2 j h3 h2
    · obtain rfl : j = k := by omega
      exact he)⟩, h.2⟩
theorem TurnR.less {q : PProg} {out0 out : List Nat} {ch : Bool} {k : Nat} (h : TurnR q out0 out ch k) : totN out0 ≤ totN out := by
  cases ch with
  | false => rw [(h.1 rfl).1]; exact Nat.le_refl _
  | true => exact Nat.le_of_lt (h.2 rfl)
theorem TurnR.more {q : PProg} {out0 out : List Nat} {ch : Bool} {k : Nat} (h : TurnR q out0 out ch (k + 1)) (hp : PartN q out) (hk : k ≤ q.code.length) (hne : out.getD k 0 ≠ flowN q out k) : TurnR q out0 (sweepN q out k) true k :=
  ⟨fun e => (by cases e), fun _ => Nat.lt_of_le_of_lt h.less (hp.more hk hne)⟩
theorem TurnR.done {q : PProg} {out0 out : List Nat} (h : TurnR q out0 out false 0) (hp : PartN q out) : out = liveL q := hp.done fun k hk => (h.1 rfl).2 k (Nat.zero_le _) hk
end Go.Proofs.YtfnoldopjnegfaaDoor

/- LiveTells: the walk. -/
namespace Go.Proofs.YtfnoldopjnegfaaDoor
set_option linter.unusedSimpArgs false
set_option linter.unusedVariables false
open Go.RowKit

theorem ins_cells {w : World} {I : Nat} {op a b c n : Int} (h : blk w I (insC ⟨op, a, b, c, n⟩) 47) : w.cell? ⟨I, 0, none⟩ = some (.int .u8 op) ∧ w.cell? ⟨I, 1, none⟩ = some (.int .u8 a) ∧ w.cell? ⟨I, 2, none⟩ = some (.int .u8 b) ∧ w.cell? ⟨I, 3, none⟩ = some (.int .u8 c) ∧ w.cell? ⟨I, 4, none⟩ = some (.int .i64 n) :=
  ⟨blk_cell h 0 _ rfl, blk_cell h 1 _ rfl, blk_cell h 2 _ rfl, blk_cell h 3 _ rfl, blk_cell h 4 _ rfl⟩
/-- Two answers of In, at their places. -/
structure TwoR (w wx : World) (n b4 o4 c4 b5 o5 c5 : Nat) (l4 l5 : List Nat) : Prop where
  below : Below w.heap.size w wx
  h4 : U8At wx b4 o4 n l4
  h5 : U8At wx b5 o5 n l5
  g4 : n + 1 ≤ c4
  g5 : n + 1 ≤ c5
  g6 : c4 ≤ 9223372036854775807
  g7 : c5 ≤ 9223372036854775807
theorem below8_draws {B : Nat} {w w' : World} (h : Below B w w') (n : Nat) : Below B w (w'.drewN n) := ⟨h.os, h.tape, h.output, h.size, h.block⟩
end Go.Proofs.YtfnoldopjnegfaaDoor

/- What the statements of layer 9 share: answers of In at their places, beside the program. -/
namespace Go.Proofs.YtfnoldopjnegfaaDoor
set_option linter.unusedSimpArgs false
set_option linter.unusedVariables false
open Go.RowKit

theorem fresh_n1 {p : PProg} : (freshL p).length = p.code.length + 1 := fresh_len
/-- Two answers of In, and the program. -/
structure TwoK (w wx : World) (b4 o4 c4 b5 o5 c5 : Nat) (l4 l5 : List Nat) (x x' : Option Addr) (kx kx' : Nat) (p : PProg) : Prop where
  keep : Keep wx w.heap.size (.slice x p.types.length kx) (.slice x' p.code.length kx') p
  two : TwoR w wx p.code.length b4 o4 c4 b5 o5 c5 l4 l5
theorem TwoK.next {w wx w' : World} {b4 o4 c4 b5 o5 c5 : Nat} {l4 l5 : List Nat} {x x' : Option Addr} {kx kx' : Nat} {p : PProg} (h : TwoK w wx b4 o4 c4 b5 o5 c5 l4 l5 x x' kx kx' p) (hb : Below wx.heap.size wx w') : TwoK w w' b4 o4 c4 b5 o5 c5 l4 l5 x x' kx kx' p :=
  ⟨h.keep.below hb, ⟨h.two.below.trans (hb.mono h.two.below.size), h.two.h4.next hb, h.two.h5.next hb, h.two.g4, h.two.g5, h.two.g6, h.two.g7⟩⟩
/-- One. -/
structure OneK (w wx : World) (b4 o4 : Nat) (l : List Nat) (x x' : Option Addr) (kx kx' : Nat) (p : PProg) : Prop where
  keep : Keep wx w.heap.size (.slice x p.types.length kx) (.slice x' p.code.length kx') p
  below : Below w.heap.size w wx
  row : U8At wx b4 o4 p.code.length l
theorem OneK.next {w wx w' : World} {b4 o4 : Nat} {l : List Nat} {x x' : Option Addr} {kx kx' : Nat} {p : PProg} (h : OneK w wx b4 o4 l x x' kx kx' p) (hb : Below wx.heap.size wx w') : OneK w w' b4 o4 l x x' kx kx' p :=
  ⟨h.keep.below hb, h.below.trans (hb.mono h.below.size), h.row.next hb⟩
theorem OneK.facts {w wx : World} {b4 o4 k z : Nat} {l : List Nat} {x x' : Option Addr} {kx kx' : Nat} {p : PProg} (h : OneK w wx b4 o4 l x x' kx kx' p) (hk : k ≤ p.code.length) (hz : l.getD k 0 = z) :
    wx.cell? ⟨b4, o4 + k, none⟩ = some (.int .u8 (z : Int)) ∧ wx.cell? ⟨w.heap.size, 0, none⟩ = some (.slice x p.types.length kx) ∧ wx.cell? ⟨w.heap.size, 1, none⟩ = some (str p.locals) ∧ wx.cell? ⟨w.heap.size, 2, none⟩ = some (str p.globs) ∧ wx.cell? ⟨w.heap.size, 3, none⟩ = some (.slice x' p.code.length kx') := by
  obtain ⟨p0, p1, p2, p3⟩ := h.keep.cells
  exact ⟨by rw [← hz]; exact h.row.c k hk, p0, p1, p2, p3⟩
end Go.Proofs.YtfnoldopjnegfaaDoor
