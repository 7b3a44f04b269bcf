/-
  Contracts of check: named, Local, Glob.
-/
import Derived.Test.YtcenjphpdgadmaaDoorKK
import Derived.Test.YtcenjphpdgadmaaDoorBFew
import Derived.Test.YtcenjphpdgadmaaDoorMPu
namespace Go.Proofs.YtcenjphpdgadmaaDoor
set_option linter.unusedSimpArgs false
set_option linter.unusedVariables false
open Go.RowKit

theorem ts_of {w : World} {v : Value} {ts : List Bs} (h : RowAt w v (ts.map str)) (hs : ∀ t ∈ ts, t.length ≤ maxLen) : TsAt w v (tsP ts) := by
  refine ⟨?_, fun s hs' => ?_⟩
  · have e : (tsP ts).map Value.string = ts.map str := by unfold tsP; rw [List.map_map]; rfl
    rw [e]; exact h
  · unfold tsP at hs'
    obtain ⟨t, ht, rfl⟩ := List.mem_map.1 hs'
    have := hs t ht
    unfold maxLen at this; exact this
theorem names_le {ts : List Bs} {s : Bs} {a : Int} : -1 ≤ namesI ts s a ∧ namesI ts s a ≤ 207 := by
  unfold namesI
  split
  · next h =>
    have h1 := ((refs_list.1 h.2.2).2 (s.getD a.toNat 0) (by simp)).1
    have h2 := UInt8.toNat_lt (s.getD a.toNat 0)
    have e : (2 : Nat) ^ 8 = 256 := rfl
    omega
  · omega

end Go.Proofs.YtcenjphpdgadmaaDoor
