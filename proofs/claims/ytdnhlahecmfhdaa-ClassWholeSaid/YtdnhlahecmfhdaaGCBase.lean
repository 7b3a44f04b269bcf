/-
  What the texts of layer 13 stand on.
-/
import Derived.Test.YtdnhlahecmfhdaaMNums
import Derived.Test.YtdnhlahecmfhdaaFNext
import Derived.Test.YtdnhlahecmfhdaaFUse
import Derived.Test.YtdnhlahecmfhdaaCNum
import Derived.Test.YtdnhlahecmfhdaaGCPure
import Derived.WalkKit
import Derived.Laws.AppendOwn
import Derived.Deep.LoopGhost
import Derived.Deep.Cut
import Derived.Deep.CutRange
import Derived.Deep.CutBlock
import Derived.Deep.QuietTactic
import Derived.Deep.RegionHeld3
namespace Go.Proofs.Ytdnhlahecmfhdaa
open Go.RowKit

theorem rowPost_at {w : World} {l : List Int} {e : Ending} {w' : World} (h : RowPost w l e w') : RowAPost w l e w' := by
  obtain ⟨v, rfl, h1, h2⟩ := h
  exact ⟨v, rfl, RowAt.of_own h1, h2⟩
/-- The cells of a row of numbers. -/
theorem rowA_cells {w : World} {v : Value} {l : List Int} {n : Nat} (h : RowAt w v (i64s l)) (hn : l.length = n) (h0 : 0 < n) : ∃ b o c, v = .slice (some ⟨b, o, none⟩) n c ∧ n ≤ c ∧ c ≤ 9223372036854775807 ∧ b < w.heap.size ∧ ∀ j x, l[j]? = some x → w.cell? ⟨b, o + j, none⟩ = some (.int .i64 x) := by
  obtain ⟨a, c, rfl, h1, h2, h3⟩ := h
  unfold maxLen at h2
  have hl : (i64s l).length = n := by simp [hn]
  rw [hl] at h1 ⊢
  rcases h3 with h3 | ⟨b, o, rfl, hb, hc⟩
  · rw [h3] at hl; simp at hl; omega
  · exact ⟨b, o, c, rfl, h1, by omega, hb, fun j x hx => hc j _ (i64s_get hx)⟩
/-- One number more, at the end of a row of the call's own. -/
theorem own_some {w : World} {B : Nat} {v : Value} {l : List Int} {n : Nat} (h : w.ownsRow B 3 1 v n (i64s l)) (hp : 0 < n) : ∃ g c, v = .slice (some ⟨g, 0, none⟩) n c ∧ w.ownsRow B 3 1 (.slice (some ⟨g, 0, none⟩) n c) n (i64s l) := by
  rcases ownsRow_forms h with ⟨-, h0⟩ | ⟨g, c, rfl⟩
  · omega
  · exact ⟨g, c, rfl, h⟩
theorem intOne_cell {w : World} (x : Int) : ∀ j u, [Value.int .i64 x][j]? = some u → (w.alloc (.cells #[.int .i64 x] 3)).cell? ((⟨w.heap.size, 0, none⟩ : Addr).add j) = some u := by
  intro j u hu
  rcases j with _ | j
  · simp at hu; subst hu
    exact blk_cell (blk_new w #[.int .i64 x] 3) 0 _ rfl
  · simp at hu
theorem infoZ : (Try.prog.info? 3).map (fun i => (i.zero, i.size, i.bytes)) = some (some (.int .i64 0), 1, 8) := by kernel_rfl
/-- 'append(l, m)': l a row of the call's own. -/
theorem wpList_append_int {ops : Array Oper} {rest : List Oper} {o : Oper} {a : Act} {Q : Exit → Act → World → Prop} (hgd : o.guard = none) (s x : Operand)
    (ho : o.op = .call { callee := .builtin .append, args := #[s, x], argTypes := #[26, 26] }) {w : World} (base : Nat) (v : Value) (l : List Int) (m : Int) (hs : a.eval s = v) (hx : a.eval x = .slice (some ⟨w.heap.size, 0, none⟩) 1 1)
    (hown : w.ownsRow base 3 1 v l.length (i64s l)) (hb : base ≤ w.heap.size) (hl : l.length ≤ 1000000)
    (h : ∀ v' w', w'.ownsRow base 3 1 v' (l ++ [m]).length (i64s (l ++ [m])) → Below base w w' → wpList Try.prog ops Q rest (a.put o.dst v') w') :
    wpList Try.prog ops Q (o :: rest) a (w.alloc (.cells #[.int .i64 m] 3)) := by
  obtain ⟨i0, hi0, hz0, hz1, hz2⟩ := info_parts infoZ
  have hb1 : Below base w (w.alloc (.cells #[.int .i64 m] 3)) := (Below.refl _ _).alloc hb _
  refine wpList_append_own _ hgd s x 26 ho base 3 i0 (.int .i64 0) 1 8 Try.underlying26 hi0 hz0 hz1 hz2 rfl (by decide) v l.length (i64s l) hs (own_below hown (((Below.refl _ _).alloc (Nat.le_refl _) _))) ⟨w.heap.size, 0, none⟩ 1 1 [.int .i64 m] hx rfl (intOne_cell m) (by intro u hu; simp at hu; subst hu; rfl) (by unfold maxLen; omega) (by omega) (by simp; omega) ?_
  intro v' w' h1 h2 _
  refine h v' w' (by simpa [i64s] using h1) (hb1.grown h2 (by simp; omega) (fun k hk => ?_))
  rcases hown.2 with ⟨rfl, _⟩ | ⟨g, cap, cur, rfl, hg, _⟩
  · simp [Value.ownBlock] at hk
  · simp [Value.ownBlock] at hk; omega
end Go.Proofs.Ytdnhlahecmfhdaa
