/-
  How a program may go, in plain lists: the next places, safepoints, what can be reached, by rounds and by ways.
-/
import Derived.Test.YtdnhlahecmfhdaaBPure
namespace Go.Proofs.Ytdnhlahecmfhdaa

/-- The next places of one instruction at a place. -/
def nextI (i : PIns) (k : Nat) : List Nat :=
  if i.op = 3 then [i.n.toNat]
  else if i.op = 4 then (if i.n < (k : Int) + 1 then [i.n.toNat, k + 1] else if (k : Int) + 1 < i.n then [k + 1, i.n.toNat] else [k + 1])
  else [k + 1]
def nextL (q : PProg) (k : Nat) : List Nat := match q.code[k]? with
  | some i => nextI i k
  | none => []
section
variable {q : PProg}
/-- A way of so many steps and one. -/
def WayN (q : PProg) : Nat → Nat → Nat → Prop
  | 0, a, b => b ∈ nextL q a
  | m + 1, a, b => ∃ c, WayN q m a c ∧ b ∈ nextL q c
def Way (q : PProg) (a b : Nat) : Prop := ∃ m, WayN q m a b
theorem Way.step {a b c : Nat} (h : Way q a b) (hn : c ∈ nextL q b) : Way q a c := by
  obtain ⟨m, hm⟩ := h
  exact ⟨m + 1, b, hm, hn⟩
theorem Way.trans {a b c : Nat} (h : Way q a b) (h2 : Way q b c) : Way q a c := by
  obtain ⟨m, hm⟩ := h2
  induction m generalizing c with
  | zero => exact h.step hm
  | succ m ih =>
    obtain ⟨d, hd, hn⟩ := hm
    exact (ih hd).step hn
def leB (x y : List Bool) : Prop := x.length = y.length ∧ ∀ k, x.getD k false = true → y.getD k false = true
theorem leB.trans {x y z : List Bool} (h : leB x y) (h2 : leB y z) : leB x z := ⟨h.1.trans h2.1, fun k hk => h2.2 k (h.2 k hk)⟩
end
end Go.Proofs.Ytdnhlahecmfhdaa
