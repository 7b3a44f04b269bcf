/-
  The model, in plain lists: a state, a step, a run; what is so of all states of a run.
-/
import Derived.Test.YtdnhlahecmfhdaaBPure
namespace Go.Proofs.Ytdnhlahecmfhdaa

structure PSt where
  x : List Int
  p : List Int
  g : List Int
  objs : List (List Int)
  out : List Int
  pc : Nat
  steps : Nat
section
variable {q : PProg} {s : PSt} {i : PIns}
end
end Go.Proofs.Ytdnhlahecmfhdaa
