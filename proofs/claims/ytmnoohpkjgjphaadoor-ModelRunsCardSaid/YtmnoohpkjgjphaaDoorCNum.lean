/-
  The contract of numbersOf.
-/
import Derived.Test.YtmnoohpkjgjphaaDoorCOps
import Derived.IntWalk
import Derived.Laws.RangeString
namespace Go.Proofs.YtmnoohpkjgjphaaDoor
set_option linter.unusedSimpArgs false
set_option linter.unusedVariables false
open Go.RowKit

abbrev insC (i : PIns) : Array Value := #[.int .u8 i.op, .int .u8 i.a, .int .u8 i.b, .int .u8 i.c, .int .i64 i.n]
abbrev insV (i : PIns) : Value := .agg (insC i)
abbrev numC (i : PIns) : Array Value := #[.int .i64 i.a, .int .i64 i.b, .int .i64 i.c, .int .i64 i.n]
theorem nums_info : (Tryd.prog.info? 108).map (·.size) = some 4 := by kernel_rfl
theorem ins_info : (Tryd.prog.info? 55).map (·.size) = some 5 := by kernel_rfl
def AggPost (w : World) (v : Value) (e : Ending) (w' : World) : Prop := e = .returned v ∧ Below w.heap.size w w'

set_option maxRecDepth 100000 in
theorem numbersOf_any (i : PIns) (w : World) (hi : OkI i) : Calls Tryd.prog 76 #[insV i] w (AggPost w (.agg (numC i))) := by
  obtain ⟨x, a, b, c, n⟩ := i
  obtain ⟨o0, o1, a0, a1, b0, b1, c0, c1, n0, n1⟩ := hi
  simp only at *
  go_enter Tryd.func76, Tryd.ntmps76
  go_wp2
  refine bodyPost_ret (v := .agg #[.int .i64 a, .int .i64 b, .int .i64 c, .int .i64 n]) ?_ rfl ⟨rfl, ((Below.refl _ _).alloc (Nat.le_refl _) _).alloc (by simp) _⟩
  have hb := blk_new (w.alloc (.cells (insC { op := x, a := a, b := b, c := c, n := n }) 55)) #[.int .i64 a, .int .i64 b, .int .i64 c, .int .i64 n] 108
  rw [World.size_alloc] at hb
  rw [res_cell0 (p := 2) rfl _ _ (w.heap.size + 1) #[.int .i64 a, .int .i64 b, .int .i64 c, .int .i64 n] 108 _ rfl hb Tryd.underlying108 rfl nums_info]

/-! ### A range over a text that lies in a block of its own -/
theorem next_at (w : World) (r : Nat) (s : ByteArray) (k : Nat) (ty : TypeId) (hb : w.heap[r]? = some (.stringIter s k)) (h : k < s.size) (ha : (s[k]'h).toNat < 128) :
    (Instr.next (.pointer (some ⟨r, 0, none⟩)) true ty).run Tryd.prog w = .ok (.tuple #[.bool true, .int .i64 k, .int .i32 (s[k]'h).toNat]) (putO w r (.stringIter s (k + 1))) := by
  have hlt := (Array.getElem?_eq_some_iff.1 hb).1
  simp only [Instr.next, getObj, setObj, Sem.run_bind, Sem.run, hb, Result.andThen, h, if_true, decode_ascii s k h ha]
  simp [goInt, putO]
theorem next_none (w : World) (r : Nat) (s : ByteArray) (k : Nat) (ty : TypeId) (hb : w.heap[r]? = some (.stringIter s k)) (h : ¬ k < s.size) :
    (Instr.next (.pointer (some ⟨r, 0, none⟩)) true ty).run Tryd.prog w = .ok (.tuple #[.bool false]) w := by
  simp [Instr.next, getObj, Sem.run, hb, h]

theorem next_l (w : World) (r : Nat) (hs : Bs) (k : Nat) (c : UInt8) (ty : TypeId) (hb : w.heap[r]? = some (.stringIter ⟨hs.toArray⟩ k)) (h : hs[k]? = some c) (hc : c.toNat < 128) :
    (Instr.next (.pointer (some ⟨r, 0, none⟩)) true ty).run Tryd.prog w = .ok (.tuple #[.bool true, .int .i64 k, .int .i32 c.toNat]) (putO w r (.stringIter ⟨hs.toArray⟩ (k + 1))) := by
  obtain ⟨hlt, rfl⟩ := List.getElem?_eq_some_iff.1 h
  exact next_at w r ⟨hs.toArray⟩ k ty hb (show k < (⟨hs.toArray⟩ : ByteArray).size from hlt) hc
theorem next_end (w : World) (r : Nat) (hs : Bs) (ty : TypeId) (hb : w.heap[r]? = some (.stringIter ⟨hs.toArray⟩ hs.length)) :
    (Instr.next (.pointer (some ⟨r, 0, none⟩)) true ty).run Tryd.prog w = .ok (.tuple #[.bool false]) w :=
  next_none w r ⟨hs.toArray⟩ hs.length ty hb (by show ¬ hs.length < hs.length; omega)
end Go.Proofs.YtmnoohpkjgjphaaDoor
