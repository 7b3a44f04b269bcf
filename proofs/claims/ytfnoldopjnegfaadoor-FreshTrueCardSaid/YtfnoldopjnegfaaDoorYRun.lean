/-
  The world while a run goes, beside an answer of In.
-/
import Derived.Test.YtfnoldopjnegfaaDoorVPU
import Derived.Test.YtfnoldopjnegfaaDoorQSt
import Derived.Test.YtfnoldopjnegfaaDoorMLa
import Derived.Test.YtfnoldopjnegfaaDoorMNS
import Derived.Test.YtfnoldopjnegfaaDoorVPa
namespace Go.Proofs.YtfnoldopjnegfaaDoor
set_option linter.unusedSimpArgs false
set_option linter.unusedVariables false
open Go.RowKit

theorem U8At.putY {w : World} {b b4 o n : Nat} {l : List Nat} {C : Array Value} {t : TypeId} (h : U8At w b4 o n l) (hne : b4 ≠ b) : U8At (putB w b C t) b4 o n l :=
  ⟨by rw [putB_size]; exact h.lt, fun j hj => by rw [World.cell?_of_block (a := ⟨b4, o + j, none⟩) (putB_ne w hne _ _)]; exact h.c j hj⟩
structure TrW (w wr : World) (b b4 o4 n : Nat) (l : List Nat) (C : Array Value) (s : PSt) (vo vt : Value) : Prop where
  below : Below w.heap.size w wr
  prog : blk wr w.heap.size C 25
  st : blk wr b (stC s vo vt) 38
  at' : StN wr vo vt s
  row : U8At wr b4 o4 n l
  h0 : w.heap.size < b
  h1 : b4 < b
section
variable {w wr w' : World} {b b4 o4 n : Nat} {l : List Nat} {C : Array Value} {s t : PSt} {vo vt vo2 vt2 : Value}
theorem TrW.next (h : TrW w wr b b4 o4 n l C s vo vt) (hb : Below wr.heap.size wr w') : TrW w w' b b4 o4 n l C s vo vt :=
  ⟨h.below.trans (hb.mono h.below.size), blk_below h.prog hb, blk_below h.st hb, h.at'.below hb, h.row.next hb, h.h0, h.h1⟩
theorem TrW.put (h : TrW w wr b b4 o4 n l C s vo vt) (ht : StN wr vo2 vt2 t) : TrW w (putB wr b (stC t vo2 vt2) 38) b b4 o4 n l C t vo2 vt2 := by
  have h0 := h.h0
  have h1 := h.h1
  exact ⟨h.below.trans (putB_below _ (by omega) _ _), by unfold blk; rw [putB_ne _ (by omega)]; exact h.prog, putB_at h.st _ _, ht.putT h.st (by decide), h.row.putY (by omega), h0, h1⟩
theorem TrW.start {w1 : World} (hB : Below w.heap.size w w1) (hp : blk w1 w.heap.size C 25) (hr : U8At w1 b4 o4 n l) : TrW w (w1.alloc (.cells zeroS 38)) w1.heap.size b4 o4 n l C st0 (.slice none 0 0) (.slice none 0 0) := by
  have b1 : Below w1.heap.size w1 (w1.alloc (.cells zeroS 38)) := (Below.refl _ _).alloc (Nat.le_refl _) _
  exact ⟨hB.trans (b1.mono hB.size), blk_below hp b1, blk_new w1 zeroS 38, st0_n _, hr.next b1, blk_lt hp, hr.lt⟩
theorem TrW.p (h : TrW w wr b b4 o4 n l C s vo vt) {k : Nat} (hk : k < 8) : wr.cell? ⟨b, 8 + k, none⟩ = some (.int .i64 (s.p.getD k 0)) :=
  (range_x h.st h.at'.len).2.1 k _ (i64s_get (by rw [List.getD_eq_getElem?_getD, List.getElem?_eq_getElem (show k < s.p.length by rw [h.at'.len.p]; exact hk)]; rfl))
end
end Go.Proofs.YtfnoldopjnegfaaDoor
