/-
  The program's newObject: its contract.
  The program's apart: its contract.
-/
import Derived.Test.YtjkpbajojgdooaaDoorPA
import Derived.Test.YtjkpbajojgdooaaDoorHCh
import Derived.Deep.RegionLaw
import Derived.Deep.AppendLies
import Derived.Deep.OwnRows
import Derived.Deep.RegionHeld3
import Derived.StillTailTactics
import Derived.Lib.SliceRun
import Derived.Deep.CutRange

/- The program's newObject: its contract. -/
namespace Go.Proofs.YtjkpbajojgdooaaDoor
set_option linter.unusedSimpArgs false
set_option linter.unusedVariables false
open Go.RowKit

theorem one_cellV {w : World} (v : Value) (t : TypeId) : ∀ j u, [v][j]? = some u → (w.alloc (.cells #[v] t)).cell? ((⟨w.heap.size, 0, none⟩ : Addr).add j) = some u := by
  intro j u hu
  rcases j with _ | j
  · simp at hu; subst hu
    exact blk_cell (blk_new w #[v] t) 0 _ rfl
  · simp at hu
theorem made_rep (k : Nat) (v : Value) : madeCells #[v] k = Array.replicate k v := by
  unfold madeCells
  apply Array.ext
  · simp
  · intro i h1 h2
    simp [Nat.mod_one]
theorem zeros_own (w : World) {B k : Nat} (hB : B ≤ w.heap.size) (hk : k ≤ maxLen) : (w.alloc (.cells (madeCells #[.int .i64 0] k) 2)).ownsRow B 2 1 (.slice (some ⟨w.heap.size, 0, none⟩) k k) k (i64s (List.replicate k 0)) := by
  rw [made_rep]
  refine ⟨by simp, .inr ⟨w.heap.size, k, _, rfl, hB, blk_new _ _ _, Nat.le_refl _, hk, by simp, ?_⟩⟩
  simp [i64s]
end Go.Proofs.YtjkpbajojgdooaaDoor

/- The program's apart: its contract. -/
namespace Go.Proofs.YtjkpbajojgdooaaDoor
set_option linter.unusedSimpArgs false
set_option linter.unusedVariables false
open Go.RowKit

abbrev zeroS : Array Value := #[.int .i64 0, .int .i64 0, .int .i64 0, .int .i64 0, .int .i64 0, .int .i64 0, .int .i64 0, .int .i64 0, .int .i64 0, .int .i64 0, .int .i64 0, .int .i64 0, .int .i64 0, .int .i64 0, .int .i64 0, .int .i64 0, .int .i64 0, .int .i64 0, .int .i64 0, .int .i64 0, .slice none 0 0, .slice none 0 0, .int .i64 0, .int .i64 0]
/-- What the first k rounds leave. -/
structure ApK (B : Nat) (s : PSt) (vo' : Value) (rows : List Value) (k : Nat) (wr : World) : Prop where
  ex : ∃ (rows' : List Value) (gs : List Nat), wr.ownsRow B 34 1 vo' s.objs.length rows' ∧ gs.length = k ∧ gs.Nodup ∧
    (∀ (j : Nat) (r : Value) (xs : List Int) (g : Nat), rows'[j]? = some r → s.objs[j]? = some xs → gs[j]? = some g → wr.ownsRow B 2 1 r xs.length (i64s xs) ∧ r.ownBlock = some g) ∧
    (∀ j : Nat, k ≤ j → rows'[j]? = rows[j]?)
theorem gs_old {B : Nat} {s : PSt} {rows' : List Value} {gs : List Nat} {wr : World} (h : ∀ (j : Nat) (r : Value) (xs : List Int) (g : Nat), rows'[j]? = some r → s.objs[j]? = some xs → gs[j]? = some g → wr.ownsRow B 2 1 r xs.length (i64s xs) ∧ r.ownBlock = some g)
    (hl : rows'.length = s.objs.length) (hg : gs.length ≤ s.objs.length) : ∀ g ∈ gs, B ≤ g ∧ g < wr.heap.size := by
  intro g hm
  obtain ⟨j, hj⟩ := List.getElem?_of_mem hm
  have hlt := (List.getElem?_eq_some_iff.1 hj).1
  obtain ⟨a, b⟩ := h j _ _ g (List.getElem?_eq_getElem (show j < rows'.length by omega)) (List.getElem?_eq_getElem (show j < s.objs.length by omega)) hj
  exact own_lt a g b
theorem ApK.start {B : Nat} {s : PSt} {vo' : Value} {rows : List Value} {wr : World} (h : wr.ownsRow B 34 1 vo' s.objs.length rows) : ApK B s vo' rows 0 wr :=
  ⟨⟨rows, [], h, rfl, List.nodup_nil, fun j r xs g _ _ hg => by simp at hg, fun j _ => rfl⟩⟩
theorem ApK.below {B : Nat} {s : PSt} {vo' : Value} {rows : List Value} {k : Nat} {wr w' : World} (h : ApK B s vo' rows k wr) (hb : Below wr.heap.size wr w') : ApK B s vo' rows k w' := by
  obtain ⟨rows', gs, h1, h2, h3, h4, h5⟩ := h.ex
  exact ⟨⟨rows', gs, own_below h1 hb, h2, h3, fun j r xs g a b c => ⟨own_below (h4 j r xs g a b c).1 hb, (h4 j r xs g a b c).2⟩, h5⟩⟩
/-- A round: the row k is cloned, and put. -/
theorem ApK.next {B : Nat} {s : PSt} {go co : Nat} {rows : List Value} {k : Nat} {wr w2 : World} {r : Value} {xs : List Int} (h : ApK B s (.slice (some ⟨go, 0, none⟩) s.objs.length co) rows k wr) (hx : s.objs[k]? = some xs) (hne : xs ≠ []) (hB : B ≤ wr.heap.size)
    (hb : Below wr.heap.size wr w2) (ho : w2.ownsRow wr.heap.size 2 1 r xs.length (i64s xs)) : ApK B s (.slice (some ⟨go, 0, none⟩) s.objs.length co) rows (k + 1) (w2.setCell ⟨go, k, none⟩ r) := by
  obtain ⟨rows', gs, h1, h2, h3, h4, h5⟩ := h.ex
  have hl : rows'.length = s.objs.length := by have := h1.1; omega
  have hk : k < s.objs.length := (List.getElem?_eq_some_iff.1 hx).1
  have hgs := gs_old h4 hl (by omega)
  obtain ⟨cap, cur, hv, k1, k2, k3, k4, k5, k6⟩ := own_cell (own_below h1 hb) rfl
  have hcap : cap = co := by simpa using hv.symm
  subst hcap
  rcases ho.2 with ⟨_, h0⟩ | ⟨g, cp, cr, rfl, hg, hcg, hrest⟩
  · exact absurd (List.length_eq_zero_iff.1 h0) hne
  rw [setCell_putB k3]
  have far : ∀ {v : Value} {n : Nat} {ys : List Value}, w2.ownsRow B 2 1 v n ys → (putB w2 go (cur.setIfInBounds k (.slice (some ⟨g, 0, none⟩) xs.length cp)) 34).ownsRow B 2 1 v n ys := fun ho' => own_same ho' (fun g' hg' _ => putB_ne w2 (own_ne ho' k3 (by decide) g' hg') _ _)
  refine ⟨⟨rows'.set k (.slice (some ⟨g, 0, none⟩) xs.length cp), gs ++ [g], ?_, by simp [h2], ?_, ?_, ?_⟩⟩
  · exact own_putC k3 k6 k1 k2 k4 k _ k5
  · refine List.nodup_append.2 ⟨h3, by simp, fun a ha b' hb' => ?_⟩
    obtain rfl := List.mem_singleton.1 hb'
    have := (hgs a ha).2
    omega
  · intro j r' ys g' e1 e2 e3
    by_cases hj : j = k
    · subst hj
      rw [List.getElem?_set, if_pos rfl, if_pos (by omega)] at e1
      rw [List.getElem?_append_right (by omega), h2] at e3
      simp at e1 e3
      rw [hx] at e2
      obtain rfl := Option.some.inj e2
      subst e1 e3
      exact ⟨far (ownsRow_le ho hB), rfl⟩
    · rw [List.getElem?_set_ne (fun e => hj e.symm)] at e1
      by_cases hjk : j < k
      · rw [List.getElem?_append_left (by omega)] at e3
        obtain ⟨a, b'⟩ := h4 j r' ys g' e1 e2 e3
        exact ⟨far (own_below a hb), b'⟩
      · rw [List.getElem?_append_right (by omega)] at e3
        have := (List.getElem?_eq_some_iff.1 e3).1
        simp at this; omega
  · intro j hj
    rw [List.getElem?_set_ne (by omega)]
    exact h5 j (by omega)
/-- All rounds. -/
theorem ApK.all {B : Nat} {s : PSt} {vo' vt' : Value} {rows : List Value} {wr w' : World} (h : ApK B s vo' rows s.objs.length wr) (hnil : s.objs = [] → vo' = .slice none 0 0) (hne : ∀ xs ∈ s.objs, xs ≠ []) (hb : Below wr.heap.size wr w') (ho : w'.ownsRow wr.heap.size 2 1 vt' s.out.length (i64s s.out))
    (hn : s.out = [] → vt' = .slice none 0 0) (hl : LenS s) (hB : B ≤ wr.heap.size) : Parts w' B s vo' vt' := by
  obtain ⟨rows', gs, h1, h2, h3, h4, h5⟩ := h.ex
  have hl' : rows'.length = s.objs.length := by have := h1.1; omega
  have hgs := gs_old h4 hl' (by omega)
  refine ⟨hl, ⟨rows', gs, ⟨own_below h1 hb, hnil, h2, h3, hne, fun j r xs g a b c => ?_⟩⟩, ownsRow_le ho hB, hn⟩
  obtain ⟨q1, q2⟩ := h4 j r xs g a b c
  refine ⟨own_below q1 hb, q2, fun e => ?_⟩
  have := (own_lt ho g e).1
  have := (hgs g (List.mem_of_getElem? c)).2
  omega
end Go.Proofs.YtjkpbajojgdooaaDoor
