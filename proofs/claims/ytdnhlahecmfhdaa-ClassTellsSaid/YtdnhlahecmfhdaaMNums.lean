/-
  The document's Nums: two slices of numbers, wherever they lie.
-/
import Derived.Test.YtdnhlahecmfhdaaBFew
import Derived.WalkSpells
import Derived.Laws.AppendOwnNone
import Derived.BigFrame
namespace Go.Proofs.Ytdnhlahecmfhdaa
open Go.RowKit

theorem belowDrewN (w : World) (n : Nat) : Below w.heap.size w (w.drewN n) := ⟨rfl, rfl, rfl, Nat.le_refl _, fun _ _ => rfl⟩
abbrev i64s (xs : List Int) : List Value := xs.map (Value.int .i64)
theorem i64s_get {xs : List Int} {j : Nat} {x : Int} (h : xs[j]? = some x) : (i64s xs)[j]? = some (.int .i64 x) := by simp [h]
theorem take_eq_next {a b : List Int} {j : Nat} {x : Int} (h : a.take j = b.take j) (ha : a[j]? = some x) (hb : b[j]? = some x) : a.take (j + 1) = b.take (j + 1) := by
  rw [List.take_add_one, List.take_add_one, h, ha, hb]
theorem ne_at {a b : List Int} {j : Nat} {x y : Int} (ha : a[j]? = some x) (hb : b[j]? = some y) (h : x ≠ y) : a ≠ b := by
  rintro rfl
  rw [ha] at hb
  exact h (Option.some.inj hb)
end Go.Proofs.Ytdnhlahecmfhdaa
