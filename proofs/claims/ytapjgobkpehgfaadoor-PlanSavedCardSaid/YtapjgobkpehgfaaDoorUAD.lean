/-
  The contract of numbersOf.
  A program as it lies; the contract of Few.
-/
import Derived.Test.YtapjgobkpehgfaaDoorUAC
import Derived.IntWalk
import Derived.Laws.RangeString

/- The contract of numbersOf. -/
namespace Go.Proofs.YtapjgobkpehgfaaDoor
set_option linter.unusedSimpArgs false
set_option linter.unusedVariables false
open Go.RowKit

abbrev insC (i : PIns) : Array Value := #[.int .u8 i.op, .int .u8 i.a, .int .u8 i.b, .int .u8 i.c, .int .i64 i.n]
abbrev insV (i : PIns) : Value := .agg (insC i)
abbrev numC (i : PIns) : Array Value := #[.int .i64 i.a, .int .i64 i.b, .int .i64 i.c, .int .i64 i.n]
theorem nums_info : (Tryd.prog.info? 94).map (·.size) = some 4 := by kernel_rfl
theorem ins_info : (Tryd.prog.info? 29).map (·.size) = some 5 := by kernel_rfl
def AggPost (w : World) (v : Value) (e : Ending) (w' : World) : Prop := e = .returned v ∧ Below w.heap.size w w'

set_option maxRecDepth 100000 in
theorem numbersOf_any (i : PIns) (w : World) (hi : OkI i) : Calls Tryd.prog 61 #[insV i] w (AggPost w (.agg (numC i))) := by
  obtain ⟨x, a, b, c, n⟩ := i
  obtain ⟨o0, o1, a0, a1, b0, b1, c0, c1, n0, n1⟩ := hi
  simp only at *
  go_enter Tryd.func61, Tryd.ntmps61
  go_wp2
  refine bodyPost_ret (v := .agg #[.int .i64 a, .int .i64 b, .int .i64 c, .int .i64 n]) ?_ rfl ⟨rfl, ((Below.refl _ _).alloc (Nat.le_refl _) _).alloc (by simp) _⟩
  have hb := blk_new (w.alloc (.cells (insC { op := x, a := a, b := b, c := c, n := n }) 29)) #[.int .i64 a, .int .i64 b, .int .i64 c, .int .i64 n] 94
  rw [World.size_alloc] at hb
  rw [res_cell0 (p := 2) rfl _ _ (w.heap.size + 1) #[.int .i64 a, .int .i64 b, .int .i64 c, .int .i64 n] 94 _ rfl hb Tryd.underlying94 rfl nums_info]

/-! ### A range over a text that lies in a block of its own -/
theorem next_at (w : World) (r : Nat) (s : ByteArray) (k : Nat) (ty : TypeId) (hb : w.heap[r]? = some (.stringIter s k)) (h : k < s.size) (ha : (s[k]'h).toNat < 128) :
    (Instr.next (.pointer (some ⟨r, 0, none⟩)) true ty).run Tryd.prog w = .ok (.tuple #[.bool true, .int .i64 k, .int .i32 (s[k]'h).toNat]) (putO w r (.stringIter s (k + 1))) := by
  have hlt := (Array.getElem?_eq_some_iff.1 hb).1
  simp only [Instr.next, getObj, setObj, Sem.run_bind, Sem.run, hb, Result.andThen, h, if_true, decode_ascii s k h ha]
  simp [goInt, putO]
theorem next_none (w : World) (r : Nat) (s : ByteArray) (k : Nat) (ty : TypeId) (hb : w.heap[r]? = some (.stringIter s k)) (h : ¬ k < s.size) :
    (Instr.next (.pointer (some ⟨r, 0, none⟩)) true ty).run Tryd.prog w = .ok (.tuple #[.bool false]) w := by
  simp [Instr.next, getObj, Sem.run, hb, h]

theorem next_l (w : World) (r : Nat) (hs : Bs) (k : Nat) (c : UInt8) (ty : TypeId) (hb : w.heap[r]? = some (.stringIter ⟨hs.toArray⟩ k)) (h : hs[k]? = some c) (hc : c.toNat < 128) :
    (Instr.next (.pointer (some ⟨r, 0, none⟩)) true ty).run Tryd.prog w = .ok (.tuple #[.bool true, .int .i64 k, .int .i32 c.toNat]) (putO w r (.stringIter ⟨hs.toArray⟩ (k + 1))) := by
  obtain ⟨hlt, rfl⟩ := List.getElem?_eq_some_iff.1 h
  exact next_at w r ⟨hs.toArray⟩ k ty hb (show k < (⟨hs.toArray⟩ : ByteArray).size from hlt) hc
theorem next_end (w : World) (r : Nat) (hs : Bs) (ty : TypeId) (hb : w.heap[r]? = some (.stringIter ⟨hs.toArray⟩ hs.length)) :
    (Instr.next (.pointer (some ⟨r, 0, none⟩)) true ty).run Tryd.prog w = .ok (.tuple #[.bool false]) w :=
  next_none w r ⟨hs.toArray⟩ hs.length ty hb (by show ¬ hs.length < hs.length; omega)
end Go.Proofs.YtapjgobkpehgfaaDoor

/- A program as it lies; the contract of Few. -/
namespace Go.Proofs.YtapjgobkpehgfaaDoor
set_option linter.unusedSimpArgs false
set_option linter.unusedVariables false
open Go.RowKit

/-- A slice of instructions, wherever it lies. -/
def InsRow (w : World) (v : Value) (code : List PIns) : Prop :=
  ∃ a c, v = .slice a code.length c ∧ code.length ≤ c ∧ c ≤ maxLen ∧ ∀ j i, code[j]? = some i → ∃ b o, a = some ⟨b, o, none⟩ ∧ b < w.heap.size ∧ w.rangeAt b (o + j * 5) (insC i).toList
theorem rangeAt_below {w w' : World} {b o : Nat} {cs : List Value} (h : w.rangeAt b o cs) (hlt : b < w.heap.size) (hb : Below w.heap.size w w') : w'.rangeAt b o cs := fun j v hv => by
  rw [(bcell hb).1 b _ hlt]; exact h j v hv
theorem InsRow.below {w w' : World} {v : Value} {code : List PIns} (h : InsRow w v code) (hb : Below w.heap.size w w') : InsRow w' v code := by
  obtain ⟨a, c, rfl, h1, h2, h3⟩ := h
  refine ⟨a, c, rfl, h1, h2, fun j i hj => ?_⟩
  obtain ⟨b, o, rfl, hlt, hr⟩ := h3 j i hj
  exact ⟨b, o, rfl, Nat.lt_of_lt_of_le hlt hb.size, rangeAt_below hr hlt hb⟩
def codeCells (is : List PIns) : List Value := is.flatMap (fun i => (insC i).toList)
theorem flat_get : ∀ (is : List PIns) (j : Nat) (i : PIns) (t : Nat) (v : Value), is[j]? = some i → (insC i).toList[t]? = some v → (codeCells is)[j * 5 + t]? = some v
  | [], _, _, _, _, h, _ => by simp at h
  | a :: r, 0, i, t, v, h, hv => by
    simp at h; subst h
    unfold codeCells; rw [List.flatMap_cons, Nat.zero_mul, Nat.zero_add]
    have ht : t < (insC a).toList.length := (List.getElem?_eq_some_iff.1 hv).1
    rw [List.getElem?_append_left ht]; exact hv
  | a :: r, j + 1, i, t, v, h, hv => by
    have ih := flat_get r j i t v (by simpa using h) hv
    unfold codeCells at ih ⊢
    have hl : (insC a).toList.length = 5 := rfl
    rw [List.flatMap_cons, List.getElem?_append_right (by rw [hl]; omega), hl, show (j + 1) * 5 + t - 5 = j * 5 + t by omega]
    exact ih
/-- Instructions in a block of their own. -/
theorem insRow_blk {w : World} {g : Nat} {cs : Array Value} {is : List PIns} (h : blk w g cs 29) (hc : cs.toList = codeCells is) (hl : is.length ≤ maxLen) : InsRow w (.slice (some ⟨g, 0, none⟩) is.length is.length) is := by
  refine ⟨some ⟨g, 0, none⟩, is.length, rfl, Nat.le_refl _, hl, fun j i hj => ⟨g, 0, rfl, blk_lt h, fun t v hv => ?_⟩⟩
  have := flat_get is j i t v hj hv
  rw [← hc] at this
  rw [Nat.zero_add]
  exact blk_cell h _ v (by simpa using this)
/-- One-cell values in a block of their own. -/
theorem row_blk {w : World} {g : Nat} {cs : Array Value} {t : TypeId} (h : blk w g cs t) (hl : cs.size ≤ maxLen) : RowAt w (.slice (some ⟨g, 0, none⟩) cs.size cs.size) cs.toList := by
  refine ⟨some ⟨g, 0, none⟩, cs.size, by simp, by simp, hl, .inr ⟨g, 0, rfl, blk_lt h, fun j x hx => ?_⟩⟩
  rw [Nat.zero_add]
  exact blk_cell h j x (by simpa using hx)
abbrev progC (vt : Value) (p : PProg) (vc : Value) : Array Value := #[vt, str p.locals, str p.globs, vc]
/-- A program, wherever it lies. -/
def ProgAt (w : World) (v : Value) (p : PProg) : Prop := ∃ vt vc, v = .agg (progC vt p vc) ∧ RowAt w vt (p.types.map str) ∧ InsRow w vc p.code
theorem ProgAt.below {w w' : World} {v : Value} {p : PProg} (h : ProgAt w v p) (hb : Below w.heap.size w w') : ProgAt w' v p := by
  obtain ⟨vt, vc, rfl, h1, h2⟩ := h
  exact ⟨vt, vc, rfl, h1.below hb, h2.below hb⟩
/-- What is so of any program. -/
structure OkP (p : PProg) : Prop where
  ty : ∀ t ∈ p.types, t.length ≤ maxLen
  lo : p.locals.length ≤ maxLen
  gl : p.globs.length ≤ maxLen
  ins : ∀ i ∈ p.code, OkI i
theorem prog_info : (Tryd.prog.info? 32).map (·.size) = some 4 := by kernel_rfl
end Go.Proofs.YtapjgobkpehgfaaDoor
