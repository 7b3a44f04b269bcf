/-
  The document's Reach and Loops: contracts.
  What the document's numbers and lines take: texts of bytes, decimal digits, a call's own row of texts, the library's FormatInt.
-/
import Derived.Test.YtapjgobkpehgfaaDoorFNext
import Derived.Test.YtapjgobkpehgfaaDoorUAV
import Derived.Deep.LoopGhost
import Derived.Test.YtapjgobkpehgfaaDoorUAE
import Derived.Lib.LaidTab
import Derived.Lib.AppendIntMem
import Derived.WalkSpells

/- The document's Reach and Loops: contracts. -/
namespace Go.Proofs.YtapjgobkpehgfaaDoor
set_option linter.unusedSimpArgs false
set_option linter.unusedVariables false
open Go.RowKit

abbrev boolsV (l : List Bool) : List Value := l.map Value.bool
abbrev bArr (l : List Bool) : Array Value := (boolsV l).toArray
theorem infoBool : (Tryd.prog.info? 4).map (fun i => (i.zero, i.size, i.bytes)) = some (some (.bool false), 1, 1) := by kernel_rfl
theorem bArr_get {l : List Bool} {k : Nat} (h : k < l.length) : (bArr l)[k]? = some (.bool (l.getD k false)) := by
  have e : l[k]? = some (l.getD k false) := by rw [List.getD_eq_getElem?_getD, List.getElem?_eq_getElem h]; rfl
  show ((boolsV l).toArray)[k]? = _
  rw [List.getElem?_toArray, List.getElem?_map, e]; rfl
theorem bArr_set (l : List Bool) (k : Nat) (v : Bool) : (bArr l).setIfInBounds k (.bool v) = bArr (l.set k v) := by simp [boolsV]
theorem bArr_zeros (n : Nat) : madeCells #[.bool false] n = bArr (List.replicate n false) := by
  rw [made_rep]
  apply Array.ext'
  simp
/-- The world in Reach. -/
structure RcW (w wr : World) (H : Nat) (C : Array Value) (had : List Bool) : Prop where
  below : Below w.heap.size w wr
  prog : blk wr w.heap.size C 32
  hd : blk wr H (bArr had) 4
  hH : w.heap.size < H
theorem RcW.next {w wr w' : World} {H : Nat} {C : Array Value} {had : List Bool} (h : RcW w wr H C had) (hb : Below wr.heap.size wr w') : RcW w w' H C had :=
  ⟨h.below.trans (hb.mono h.below.size), blk_below h.prog hb, blk_below h.hd hb, h.hH⟩
theorem RcW.mark {w wr : World} {H : Nat} {C : Array Value} {had : List Bool} (h : RcW w wr H C had) (n : Nat) : RcW w (wr.setCell ⟨H, n, none⟩ (.bool true)) H C (markK had n) := by
  have hH := h.hH
  rw [setCell_putB h.hd, bArr_set]
  exact ⟨h.below.trans (putB_below _ (by omega) _ _), by unfold blk; rw [putB_ne _ (by omega)]; exact h.prog, putB_at h.hd _ _, h.hH⟩
def BoolsPost (w : World) (l : List Bool) (e : Ending) (w' : World) : Prop := ∃ v, e = .returned v ∧ w'.ownsRow w.heap.size 4 1 v l.length (boolsV l) ∧ Below w.heap.size w w'
theorem RcW.post {w wr : World} {H : Nat} {C : Array Value} {had : List Bool} (h : RcW w wr H C had) (hl : had.length ≤ 1000000) : BoolsPost w had (.returned (.slice (some ⟨H, 0, none⟩) had.length had.length)) wr :=
  ⟨_, rfl, ⟨by simp, .inr ⟨H, had.length, bArr had, rfl, by have := h.hH; omega, h.hd, Nat.le_refl _, by unfold maxLen; omega, by simp, by rw [Nat.mul_one]; exact List.take_of_length_le (by simp)⟩⟩, h.below⟩
theorem nextL_cast (q : PProg) (k : Nat) : nextV q k = (nextL q k).map (fun n : Nat => (n : Int)) := by unfold nextV; rw [if_pos (by omega), Int.toNat_natCast]
end Go.Proofs.YtapjgobkpehgfaaDoor

/- What the document's numbers and lines take: texts of bytes, decimal digits, a call's own row of texts, the library's FormatInt. -/
namespace Go.Proofs.YtapjgobkpehgfaaDoor
set_option linter.unusedSimpArgs false
set_option linter.unusedVariables false
open Go.RowKit

theorem take_snoc (s : ByteArray) (k : Nat) (h : k < s.size) : s.data.toList.take (k + 1) = s.data.toList.take k ++ [s[k]] := by
  rw [List.take_succ_eq_append_getElem (by simpa using h)]; rfl
/-- The first k bytes are digits. -/
def DigTo (s : ByteArray) (k : Nat) : Prop := ∀ c ∈ s.data.toList.take k, digC c = true
theorem DigTo.next {s : ByteArray} {k : Nat} (h : DigTo s k) (hk : k < s.size) (hc : digC s[k] = true) : DigTo s (k + 1) := by
  intro c hm
  rw [take_snoc s k hk] at hm
  rcases List.mem_append.1 hm with h' | h'
  · exact h c h'
  · simp at h'; subst h'; exact hc
theorem DigTo.all {s : ByteArray} (h : DigTo s s.size) : s.data.toList.all digC = true := by
  have e : s.data.toList.take s.size = s.data.toList := List.take_of_length_le (by rw [len_size]; exact Nat.le_refl _)
  rw [DigTo, e] at h
  exact List.all_eq_true.2 h
end Go.Proofs.YtapjgobkpehgfaaDoor
