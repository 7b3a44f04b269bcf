/-
  Plain lists: texts as lines of words, as the document says them. No program is named here.
  Plain lists: what Join tells comes back from Lines; lengths; texts one behind the other.
  Plain lists: decimal words.
  Plain lists: decimal numbers and their texts.
  Programs as texts, in plain lists: what an operation is called, what a program's lines are, and what is read from lines.
  Layer 3, in plain words: types as texts, their fields, what one comes to by them.
  The letters of operations.
-/

/- Plain lists: texts as lines of words, as the document says them. No program is named here. -/
import Derived.Lib.SplitLaws
import Derived.Lib.Join
import Derived.Lib.IndexBytes
import Derived.Lib.ItoaNum
import Derived.Lib.ParseIntB
import Derived.Lib.ParseIntBTie
import Derived.Lib.ItoaMem
import Derived.Lib.ItoaLen
import Derived.Lib.Hide
namespace Go.Proofs.Ytdnhlahecmfhdaa

abbrev Bs := List UInt8

end Go.Proofs.Ytdnhlahecmfhdaa

/- Plain lists: what Join tells comes back from Lines; lengths; texts one behind the other. -/
namespace Go.Proofs.Ytdnhlahecmfhdaa

end Go.Proofs.Ytdnhlahecmfhdaa

/- Plain lists: decimal words. -/
namespace Go.Proofs.Ytdnhlahecmfhdaa

end Go.Proofs.Ytdnhlahecmfhdaa

/- Plain lists: decimal numbers and their texts. -/
namespace Go.Proofs.Ytdnhlahecmfhdaa

end Go.Proofs.Ytdnhlahecmfhdaa

/- Programs as texts, in plain lists: what an operation is called, what a program's lines are, and what is read from lines. -/
namespace Go.Proofs.Ytdnhlahecmfhdaa

structure PIns where
  op : Int
  a : Int
  b : Int
  c : Int
  n : Int

structure PProg where
  types : List Bs
  locals : Bs
  globs : Bs
  code : List PIns
end Go.Proofs.Ytdnhlahecmfhdaa

/- Layer 3, in plain words: types as texts, their fields, what one comes to by them. -/
namespace Go.Proofs.Ytdnhlahecmfhdaa

/-- The byte at k, as a number. -/
def byt (s : ByteArray) (k : Nat) : Nat := (s.data.toList.getD k 0).toNat
def ty (ts : List ByteArray) (t : Nat) : ByteArray := ts.getD t ByteArray.empty
/-- One field of a points to b. -/
def Edge (ts : List ByteArray) (a b : Nat) : Prop := a < ts.length ∧ ∃ k, k < (ty ts a).size ∧ byt (ty ts a) k ≠ 105 ∧ byt (ty ts a) k = b + 48
inductive Rch (ts : List ByteArray) (t : Nat) : Nat → Prop
  | here : Rch ts t t
  | more {a b : Nat} : Rch ts t a → Edge ts a b → Rch ts t b
theorem Rch.trans {ts : List ByteArray} {a b c : Nat} (h1 : Rch ts a b) (h2 : Rch ts b c) : Rch ts a c := by
  induction h2 with
  | here => exact h1
  | more _ he ih => exact ih.more he

end Go.Proofs.Ytdnhlahecmfhdaa

/- The letters of operations. -/
namespace Go.Proofs.Ytdnhlahecmfhdaa
end Go.Proofs.Ytdnhlahecmfhdaa
