/-
  A state's cells; what reads them: isDone, object, hasField, nextPlace, oneIf.
  The document's Same of a state with itself, wherever the two lie.
  A state in a block of its own: a cell is set; a slice is appended to.
  The program's newObject: its contract.
  The program's apart: its contract.
  The document's state in a block of a call's own; its arrays out of it and back into it.
-/
import Derived.Test.YtapjgobkpehgfaaGreatDoorUAP
import Derived.StillTailTactics
import Derived.Deep.CutRange
import Derived.Deep.RegionLaw
import Derived.Deep.AppendLies
import Derived.Deep.OwnRows
import Derived.Deep.RegionHeld3
import Derived.Lib.SliceRun
import Derived.Laws.IdiomCopy

/- A state's cells; what reads them: isDone, object, hasField, nextPlace, oneIf. -/
namespace Go.Proofs.YtapjgobkpehgfaaGreatDoor
set_option linter.unusedSimpArgs false
set_option linter.unusedVariables false
open Go.RowKit

section
variable {s : PSt} {vo vt : Value}
theorem stC_x (h : LenS s) (k : Nat) (hk : k < 8) : (stC s vo vt)[k]? = some (.int .i64 (s.x.getD k 0)) := by
  obtain ⟨x0, x1, x2, x3, x4, x5, x6, x7, p0, p1, p2, p3, p4, p5, p6, p7, g0, g1, g2, g3, e⟩ := h.lists
  rw [e, stC_list]
  match k, hk with
  | 0, _ => rfl
  | 1, _ => rfl
  | 2, _ => rfl
  | 3, _ => rfl
  | 4, _ => rfl
  | 5, _ => rfl
  | 6, _ => rfl
  | 7, _ => rfl
theorem stC_p (h : LenS s) (k : Nat) (hk : k < 8) : (stC s vo vt)[8 + k]? = some (.int .i64 (s.p.getD k 0)) := by
  obtain ⟨x0, x1, x2, x3, x4, x5, x6, x7, p0, p1, p2, p3, p4, p5, p6, p7, g0, g1, g2, g3, e⟩ := h.lists
  rw [e, stC_list]
  match k, hk with
  | 0, _ => rfl
  | 1, _ => rfl
  | 2, _ => rfl
  | 3, _ => rfl
  | 4, _ => rfl
  | 5, _ => rfl
  | 6, _ => rfl
  | 7, _ => rfl
theorem stC_g (h : LenS s) (k : Nat) (hk : k < 4) : (stC s vo vt)[16 + k]? = some (.int .i64 (s.g.getD k 0)) := by
  obtain ⟨x0, x1, x2, x3, x4, x5, x6, x7, p0, p1, p2, p3, p4, p5, p6, p7, g0, g1, g2, g3, e⟩ := h.lists
  rw [e, stC_list]
  match k, hk with
  | 0, _ => rfl
  | 1, _ => rfl
  | 2, _ => rfl
  | 3, _ => rfl
theorem stC_rest (h : LenS s) : (stC s vo vt)[20]? = some vo ∧ (stC s vo vt)[21]? = some vt ∧ (stC s vo vt)[22]? = some (.int .i64 s.pc) ∧ (stC s vo vt)[23]? = some (.int .i64 s.steps) := by
  obtain ⟨x0, x1, x2, x3, x4, x5, x6, x7, p0, p1, p2, p3, p4, p5, p6, p7, g0, g1, g2, g3, e⟩ := h.lists
  rw [e, stC_list]
  exact ⟨rfl, rfl, rfl, rfl⟩
theorem stC_setO (h : LenS s) (objs : List (List Int)) (vo' : Value) : (stC s vo vt).setIfInBounds 20 vo' = stC { s with objs := objs } vo' vt := by
  obtain ⟨x0, x1, x2, x3, x4, x5, x6, x7, p0, p1, p2, p3, p4, p5, p6, p7, g0, g1, g2, g3, e⟩ := h.lists
  rw [e, stC_list]; rfl
theorem stC_setT (h : LenS s) (out : List Int) (vt' : Value) : (stC s vo vt).setIfInBounds 21 vt' = stC { s with out := out } vo vt' := by
  obtain ⟨x0, x1, x2, x3, x4, x5, x6, x7, p0, p1, p2, p3, p4, p5, p6, p7, g0, g1, g2, g3, e⟩ := h.lists
  rw [e, stC_list]; rfl
theorem stC_setA (h : LenS s) (n : Nat) : (stC s vo vt).setIfInBounds 22 (.int .i64 n) = stC { s with pc := n } vo vt := by
  obtain ⟨x0, x1, x2, x3, x4, x5, x6, x7, p0, p1, p2, p3, p4, p5, p6, p7, g0, g1, g2, g3, e⟩ := h.lists
  rw [e, stC_list]; rfl
theorem stC_setS (h : LenS s) (n : Nat) : (stC s vo vt).setIfInBounds 23 (.int .i64 n) = stC { s with steps := n } vo vt := by
  obtain ⟨x0, x1, x2, x3, x4, x5, x6, x7, p0, p1, p2, p3, p4, p5, p6, p7, g0, g1, g2, g3, e⟩ := h.lists
  rw [e, stC_list]; rfl
end
theorem stC_one (s : PSt) {vo vt : Value} (ho : vo.oneCell' = true) (ht : vt.oneCell' = true) : (stC s vo vt).all (·.oneCell') = true := by
  refine all_oneCell_toArray (fun v hv => ?_)
  rcases List.mem_append.1 hv with h | h
  · obtain ⟨x, _, rfl⟩ := List.mem_map.1 h; rfl
  · simp at h
    rcases h with rfl | rfl | rfl | rfl
    · exact ho
    · exact ht
    · rfl
    · rfl
theorem own_form {w : World} {B n sz : Nat} {e : TypeId} {v : Value} {cs : List Value} (h : w.ownsRow B e sz v n cs) : ∃ a c, v = .slice a n c ∧ n ≤ c ∧ c ≤ 9223372036854775807 := by
  rcases h.2 with ⟨rfl, rfl⟩ | ⟨g, cap, cur, rfl, _, _, h3, h4, _⟩
  · exact ⟨none, 0, rfl, Nat.le_refl _, by omega⟩
  · exact ⟨_, cap, rfl, h3, by unfold maxLen at h4; omega⟩
section
variable {w : World} {B b : Nat} {s : PSt} {vo vt : Value}
end
end Go.Proofs.YtapjgobkpehgfaaGreatDoor

/- The document's Same of a state with itself, wherever the two lie. -/
namespace Go.Proofs.YtapjgobkpehgfaaGreatDoor
set_option linter.unusedSimpArgs false
set_option linter.unusedVariables false
open Go.RowKit

theorem range_x {w : World} {b : Nat} {s : PSt} {vo vt : Value} {t : TypeId} (h : blk w b (stC s vo vt) t) (hl : LenS s) : w.rangeAt b 0 (i64s s.x) ∧ w.rangeAt b 8 (i64s s.p) ∧ w.rangeAt b 16 (i64s s.g) := by
  have key : ∀ (l : List Int) (j : Nat) (v : Value), (i64s l)[j]? = some v → v = .int .i64 (l.getD j 0) ∧ j < l.length := fun l j v hv => by
    have hj := (List.getElem?_eq_some_iff.1 hv).1
    rw [i64s_len] at hj
    refine ⟨?_, hj⟩
    have e : l[j]? = some (l.getD j 0) := by rw [List.getD_eq_getElem?_getD, List.getElem?_eq_getElem hj]; rfl
    rw [i64s_get e] at hv
    exact (Option.some.inj hv).symm
  refine ⟨fun j v hv => ?_, fun j v hv => ?_, fun j v hv => ?_⟩
  · obtain ⟨rfl, hj⟩ := key _ _ _ hv
    rw [Nat.zero_add]; exact blk_cell h _ _ (stC_x hl j (by have := hl.x; omega))
  · obtain ⟨rfl, hj⟩ := key _ _ _ hv
    exact blk_cell h _ _ (stC_p hl j (by have := hl.p; omega))
  · obtain ⟨rfl, hj⟩ := key _ _ _ hv
    exact blk_cell h _ _ (stC_g hl j (by have := hl.g; omega))
end Go.Proofs.YtapjgobkpehgfaaGreatDoor

/- A state in a block of its own: a cell is set; a slice is appended to. -/
namespace Go.Proofs.YtapjgobkpehgfaaGreatDoor
set_option linter.unusedSimpArgs false
set_option linter.unusedVariables false
open Go.RowKit

section
variable {w : World} {B b : Nat} {s : PSt} {vo vt : Value}
/-- Blocks that are neither the state's nor of numbers, nor of slices of them, stay. -/
def FarB (w w' : World) (b : Nat) : Prop := ∀ (g : Nat) (cs : Array Value) (t : TypeId), Proofs.YtapjgobkpehgfaaGreatDoor.blk w g cs t → g ≠ b → t ≠ 42 → t ≠ 2 → Proofs.YtapjgobkpehgfaaGreatDoor.blk w' g cs t
theorem FarB.of_below {w w' : World} (hb : Below w.heap.size w w') (b : Nat) : FarB w w' b := fun _ _ _ hg _ _ _ => blk_below hg hb
theorem FarB.trans {w w1 w' : World} {b : Nat} (h : FarB w w1 b) (h' : FarB w1 w' b) : FarB w w' b := fun g cs t hg h1 h2 h3 => h' g cs t (h g cs t hg h1 h2 h3) h1 h2 h3
theorem FarB.drew {w w' : World} {b : Nat} (h : FarB w w' b) : FarB w w'.drew b := h.trans (FarB.of_below (Below.refl _ _).drew b)
end
end Go.Proofs.YtapjgobkpehgfaaGreatDoor

/- The program's newObject: its contract. -/
namespace Go.Proofs.YtapjgobkpehgfaaGreatDoor
set_option linter.unusedSimpArgs false
set_option linter.unusedVariables false
open Go.RowKit

theorem one_cellV {w : World} (v : Value) (t : TypeId) : ∀ j u, [v][j]? = some u → (w.alloc (.cells #[v] t)).cell? ((⟨w.heap.size, 0, none⟩ : Addr).add j) = some u := by
  intro j u hu
  rcases j with _ | j
  · simp at hu; subst hu
    exact blk_cell (blk_new w #[v] t) 0 _ rfl
  · simp at hu
theorem made_rep (k : Nat) (v : Value) : madeCells #[v] k = Array.replicate k v := by
  unfold madeCells
  apply Array.ext
  · simp
  · intro i h1 h2
    simp [Nat.mod_one]
theorem zeros_own (w : World) {B k : Nat} (hB : B ≤ w.heap.size) (hk : k ≤ maxLen) : (w.alloc (.cells (madeCells #[.int .i64 0] k) 2)).ownsRow B 2 1 (.slice (some ⟨w.heap.size, 0, none⟩) k k) k (i64s (List.replicate k 0)) := by
  rw [made_rep]
  refine ⟨by simp, .inr ⟨w.heap.size, k, _, rfl, hB, blk_new _ _ _, Nat.le_refl _, hk, by simp, ?_⟩⟩
  simp [i64s]
end Go.Proofs.YtapjgobkpehgfaaGreatDoor

/- The program's apart: its contract. -/
namespace Go.Proofs.YtapjgobkpehgfaaGreatDoor
set_option linter.unusedSimpArgs false
set_option linter.unusedVariables false
open Go.RowKit

abbrev zeroS : Array Value := #[.int .i64 0, .int .i64 0, .int .i64 0, .int .i64 0, .int .i64 0, .int .i64 0, .int .i64 0, .int .i64 0, .int .i64 0, .int .i64 0, .int .i64 0, .int .i64 0, .int .i64 0, .int .i64 0, .int .i64 0, .int .i64 0, .int .i64 0, .int .i64 0, .int .i64 0, .int .i64 0, .slice none 0 0, .slice none 0 0, .int .i64 0, .int .i64 0]
/-- What the first k rounds leave. -/
structure ApK (B : Nat) (s : PSt) (vo' : Value) (rows : List Value) (k : Nat) (wr : World) : Prop where
  ex : ∃ (rows' : List Value) (gs : List Nat), wr.ownsRow B 42 1 vo' s.objs.length rows' ∧ gs.length = k ∧ gs.Nodup ∧
    (∀ (j : Nat) (r : Value) (xs : List Int) (g : Nat), rows'[j]? = some r → s.objs[j]? = some xs → gs[j]? = some g → wr.ownsRow B 2 1 r xs.length (i64s xs) ∧ r.ownBlock = some g) ∧
    (∀ j : Nat, k ≤ j → rows'[j]? = rows[j]?)
theorem gs_old {B : Nat} {s : PSt} {rows' : List Value} {gs : List Nat} {wr : World} (h : ∀ (j : Nat) (r : Value) (xs : List Int) (g : Nat), rows'[j]? = some r → s.objs[j]? = some xs → gs[j]? = some g → wr.ownsRow B 2 1 r xs.length (i64s xs) ∧ r.ownBlock = some g)
    (hl : rows'.length = s.objs.length) (hg : gs.length ≤ s.objs.length) : ∀ g ∈ gs, B ≤ g ∧ g < wr.heap.size := by
  intro g hm
  obtain ⟨j, hj⟩ := List.getElem?_of_mem hm
  have hlt := (List.getElem?_eq_some_iff.1 hj).1
  obtain ⟨a, b⟩ := h j _ _ g (List.getElem?_eq_getElem (show j < rows'.length by omega)) (List.getElem?_eq_getElem (show j < s.objs.length by omega)) hj
  exact own_lt a g b
theorem ApK.start {B : Nat} {s : PSt} {vo' : Value} {rows : List Value} {wr : World} (h : wr.ownsRow B 42 1 vo' s.objs.length rows) : ApK B s vo' rows 0 wr :=
  ⟨⟨rows, [], h, rfl, List.nodup_nil, fun j r xs g _ _ hg => by simp at hg, fun j _ => rfl⟩⟩
theorem ApK.below {B : Nat} {s : PSt} {vo' : Value} {rows : List Value} {k : Nat} {wr w' : World} (h : ApK B s vo' rows k wr) (hb : Below wr.heap.size wr w') : ApK B s vo' rows k w' := by
  obtain ⟨rows', gs, h1, h2, h3, h4, h5⟩ := h.ex
  exact ⟨⟨rows', gs, own_below h1 hb, h2, h3, fun j r xs g a b c => ⟨own_below (h4 j r xs g a b c).1 hb, (h4 j r xs g a b c).2⟩, h5⟩⟩
/-- A round: the row k is cloned, and put. -/
theorem ApK.next {B : Nat} {s : PSt} {go co : Nat} {rows : List Value} {k : Nat} {wr w2 : World} {r : Value} {xs : List Int} (h : ApK B s (.slice (some ⟨go, 0, none⟩) s.objs.length co) rows k wr) (hx : s.objs[k]? = some xs) (hne : xs ≠ []) (hB : B ≤ wr.heap.size)
    (hb : Below wr.heap.size wr w2) (ho : w2.ownsRow wr.heap.size 2 1 r xs.length (i64s xs)) : ApK B s (.slice (some ⟨go, 0, none⟩) s.objs.length co) rows (k + 1) (w2.setCell ⟨go, k, none⟩ r) := by
  obtain ⟨rows', gs, h1, h2, h3, h4, h5⟩ := h.ex
  have hl : rows'.length = s.objs.length := by have := h1.1; omega
  have hk : k < s.objs.length := (List.getElem?_eq_some_iff.1 hx).1
  have hgs := gs_old h4 hl (by omega)
  obtain ⟨cap, cur, hv, k1, k2, k3, k4, k5, k6⟩ := own_cell (own_below h1 hb) rfl
  have hcap : cap = co := by simpa using hv.symm
  subst hcap
  rcases ho.2 with ⟨_, h0⟩ | ⟨g, cp, cr, rfl, hg, hcg, hrest⟩
  · exact absurd (List.length_eq_zero_iff.1 h0) hne
  rw [setCell_putB k3]
  have far : ∀ {v : Value} {n : Nat} {ys : List Value}, w2.ownsRow B 2 1 v n ys → (putB w2 go (cur.setIfInBounds k (.slice (some ⟨g, 0, none⟩) xs.length cp)) 42).ownsRow B 2 1 v n ys := fun ho' => own_same ho' (fun g' hg' _ => putB_ne w2 (own_ne ho' k3 (by decide) g' hg') _ _)
  refine ⟨⟨rows'.set k (.slice (some ⟨g, 0, none⟩) xs.length cp), gs ++ [g], ?_, by simp [h2], ?_, ?_, ?_⟩⟩
  · exact own_putC k3 k6 k1 k2 k4 k _ k5
  · refine List.nodup_append.2 ⟨h3, by simp, fun a ha b' hb' => ?_⟩
    obtain rfl := List.mem_singleton.1 hb'
    have := (hgs a ha).2
    omega
  · intro j r' ys g' e1 e2 e3
    by_cases hj : j = k
    · subst hj
      rw [List.getElem?_set, if_pos rfl, if_pos (by omega)] at e1
      rw [List.getElem?_append_right (by omega), h2] at e3
      simp at e1 e3
      rw [hx] at e2
      obtain rfl := Option.some.inj e2
      subst e1 e3
      exact ⟨far (ownsRow_le ho hB), rfl⟩
    · rw [List.getElem?_set_ne (fun e => hj e.symm)] at e1
      by_cases hjk : j < k
      · rw [List.getElem?_append_left (by omega)] at e3
        obtain ⟨a, b'⟩ := h4 j r' ys g' e1 e2 e3
        exact ⟨far (own_below a hb), b'⟩
      · rw [List.getElem?_append_right (by omega)] at e3
        have := (List.getElem?_eq_some_iff.1 e3).1
        simp at this; omega
  · intro j hj
    rw [List.getElem?_set_ne (by omega)]
    exact h5 j (by omega)
/-- All rounds. -/
theorem ApK.all {B : Nat} {s : PSt} {vo' vt' : Value} {rows : List Value} {wr w' : World} (h : ApK B s vo' rows s.objs.length wr) (hnil : s.objs = [] → vo' = .slice none 0 0) (hne : ∀ xs ∈ s.objs, xs ≠ []) (hb : Below wr.heap.size wr w') (ho : w'.ownsRow wr.heap.size 2 1 vt' s.out.length (i64s s.out))
    (hn : s.out = [] → vt' = .slice none 0 0) (hl : LenS s) (hB : B ≤ wr.heap.size) : Parts w' B s vo' vt' := by
  obtain ⟨rows', gs, h1, h2, h3, h4, h5⟩ := h.ex
  have hl' : rows'.length = s.objs.length := by have := h1.1; omega
  have hgs := gs_old h4 hl' (by omega)
  refine ⟨hl, ⟨rows', gs, ⟨own_below h1 hb, hnil, h2, h3, hne, fun j r xs g a b c => ?_⟩⟩, ownsRow_le ho hB, hn⟩
  obtain ⟨q1, q2⟩ := h4 j r xs g a b c
  refine ⟨own_below q1 hb, q2, fun e => ?_⟩
  have := (own_lt ho g e).1
  have := (hgs g (List.mem_of_getElem? c)).2
  omega
end Go.Proofs.YtapjgobkpehgfaaGreatDoor

/- The document's state in a block of a call's own; its arrays out of it and back into it. -/
namespace Go.Proofs.YtapjgobkpehgfaaGreatDoor
set_option linter.unusedSimpArgs false
set_option linter.unusedVariables false
open Go.RowKit

abbrev xC (l : List Int) : Array Value := (i64s l).toArray
theorem xC_size (l : List Int) : (xC l).size = l.length := by simp [xC]
theorem xC_one (l : List Int) : (xC l).all (·.oneCell') = true := all_oneCell_toArray (fun v hv => by obtain ⟨x, _, rfl⟩ := List.mem_map.1 hv; rfl)
theorem xC_get {l : List Int} {k : Nat} (h : k < l.length) : (xC l)[k]? = some (.int .i64 (l.getD k 0)) := by
  have e : l[k]? = some (l.getD k 0) := by rw [List.getD_eq_getElem?_getD, List.getElem?_eq_getElem h]; rfl
  have := i64s_get e
  simpa [xC] using this
theorem xC_set (l : List Int) (k : Nat) (v : Int) : (xC l).setIfInBounds k (.int .i64 v) = xC (l.set k v) := by simp [xC, i64s]
/-- Cells of a block, one behind another. -/
def setA : Array Value → Nat → List Value → Array Value
  | C, _, [] => C
  | C, o, v :: vs => setA (C.setIfInBounds o v) (o + 1) vs
theorem putB_putB (w : World) (b : Nat) (C D : Array Value) (t t' : TypeId) : putB (putB w b C t) b D t' = putB w b D t' := by unfold putB putO; simp
theorem putB_same {w : World} {b : Nat} {C : Array Value} {t : TypeId} (h : blk w b C t) : putB w b C t = w := by
  have e : w.heap.setIfInBounds b (.cells C t (0, 0)) = w.heap := by
    obtain ⟨hlt, he⟩ := Array.getElem?_eq_some_iff.1 h
    refine Array.ext (by simp) fun i h1 h2 => ?_
    rw [Array.getElem_setIfInBounds]
    split
    · next e => subst e; exact he.symm
    · rfl
  unfold putB putO
  rw [e]
theorem setCells_blk {b : Nat} {t : TypeId} : ∀ (vs : List Value) (o : Nat) (w : World) (C : Array Value), blk w b C t → w.setCells b o vs = putB w b (setA C o vs) t
  | [], o, w, C, h => by
    unfold World.setCells setA
    exact (putB_same h).symm
  | v :: vs, o, w, C, h => by
    rw [World.setCells, setCell_putB h, setCells_blk vs (o + 1) _ _ (putB_at h _ _), putB_putB]
    rfl
theorem there_blk {w : World} {b : Nat} {C : Array Value} {t : TypeId} (h : blk w b C t) (o n : Nat) (hn : o + n ≤ C.size) : w.there b o n := fun j hj => by
  refine ⟨?_, blk_frozen h _⟩
  rw [blk_cell h (o + j) _ (Array.getElem?_eq_getElem (by omega))]; rfl
def setVL : List Value → Nat → List Value → List Value
  | C, _, [] => C
  | C, o, v :: vs => setVL (C.set o v) (o + 1) vs
theorem setA_toArray : ∀ (vs : List Value) (o : Nat) (L : List Value), setA L.toArray o vs = (setVL L o vs).toArray
  | [], o, L => rfl
  | v :: vs, o, L => by
    unfold setA setVL
    rw [List.setIfInBounds_toArray]
    exact setA_toArray vs (o + 1) _
theorem setA_x {s : PSt} (h : LenS s) (vo vt : Value) {l : List Int} (hl : l.length = 8) : setA (stC s vo vt) 0 (i64s l) = stC { s with x := l } vo vt := by
  obtain ⟨x0, x1, x2, x3, x4, x5, x6, x7, p0, p1, p2, p3, p4, p5, p6, p7, g0, g1, g2, g3, e⟩ := h.lists
  match l, hl with
  | [y0, y1, y2, y3, y4, y5, y6, y7], _ => rw [e, stC_list, stC_list, setA_toArray]; rfl
theorem setA_p {s : PSt} (h : LenS s) (vo vt : Value) {l : List Int} (hl : l.length = 8) : setA (stC s vo vt) 8 (i64s l) = stC { s with p := l } vo vt := by
  obtain ⟨x0, x1, x2, x3, x4, x5, x6, x7, p0, p1, p2, p3, p4, p5, p6, p7, g0, g1, g2, g3, e⟩ := h.lists
  match l, hl with
  | [y0, y1, y2, y3, y4, y5, y6, y7], _ => rw [e, stC_list, stC_list, setA_toArray]; rfl
theorem setA_g {s : PSt} (h : LenS s) (vo vt : Value) {l : List Int} (hl : l.length = 4) : setA (stC s vo vt) 16 (i64s l) = stC { s with g := l } vo vt := by
  obtain ⟨x0, x1, x2, x3, x4, x5, x6, x7, p0, p1, p2, p3, p4, p5, p6, p7, g0, g1, g2, g3, e⟩ := h.lists
  match l, hl with
  | [y0, y1, y2, y3], _ => rw [e, stC_list, stC_list, setA_toArray]; rfl
section
variable {ops : Array Oper} {rest : List Oper} {o : Oper} {a : Act} {w : World} {Q : Exit → Act → World → Prop} {s : PSt} {vo vt : Value} {b : Nat} {t : TypeId} {l : List Int}
theorem wpList_putX (hgd : o.guard = none) (x y : Operand) (ho : o.op = .store 38 x y) (hx : a.eval x = .pointer (some ⟨b, 0, none⟩)) (hy : a.eval y = .agg (xC l)) (hb : blk w b (stC s vo vt) t) (hs : LenS s) (hl : l.length = 8)
    (h : wpList Tryz.prog ops Q rest (a.put o.dst undef) (putB w b (stC { s with x := l } vo vt) t)) : wpList Tryz.prog ops Q (o :: rest) a w := by
  refine wpList_store_mid hgd 38 x y ho b 0 (xC l) hx hy (there_blk hb 0 _ (by rw [xC_size, stC_size hs]; omega)) (by rw [xC_size, hl]; exact infoX) (xC_one l) ?_
  rw [show (xC l).toList = i64s l from rfl, setCells_blk _ _ _ _ hb, setA_x hs vo vt hl]; exact h
theorem wpList_putP (hgd : o.guard = none) (x y : Operand) (ho : o.op = .store 39 x y) (hx : a.eval x = .pointer (some ⟨b, 8, none⟩)) (hy : a.eval y = .agg (xC l)) (hb : blk w b (stC s vo vt) t) (hs : LenS s) (hl : l.length = 8)
    (h : wpList Tryz.prog ops Q rest (a.put o.dst undef) (putB w b (stC { s with p := l } vo vt) t)) : wpList Tryz.prog ops Q (o :: rest) a w := by
  refine wpList_store_mid hgd 39 x y ho b 8 (xC l) hx hy (there_blk hb 8 _ (by rw [xC_size, stC_size hs]; omega)) (by rw [xC_size, hl]; exact infoP) (xC_one l) ?_
  rw [show (xC l).toList = i64s l from rfl, setCells_blk _ _ _ _ hb, setA_p hs vo vt hl]; exact h
theorem wpList_putG (hgd : o.guard = none) (x y : Operand) (ho : o.op = .store 40 x y) (hx : a.eval x = .pointer (some ⟨b, 16, none⟩)) (hy : a.eval y = .agg (xC l)) (hb : blk w b (stC s vo vt) t) (hs : LenS s) (hl : l.length = 4)
    (h : wpList Tryz.prog ops Q rest (a.put o.dst undef) (putB w b (stC { s with g := l } vo vt) t)) : wpList Tryz.prog ops Q (o :: rest) a w := by
  refine wpList_store_mid hgd 40 x y ho b 16 (xC l) hx hy (there_blk hb 16 _ (by rw [xC_size, stC_size hs]; omega)) (by rw [xC_size, hl]; exact infoG) (xC_one l) ?_
  rw [show (xC l).toList = i64s l from rfl, setCells_blk _ _ _ _ hb, setA_g hs vo vt hl]; exact h
theorem wpList_ldX (hgd : o.guard = none) (x : Operand) (ho : o.op = .load 38 x) (hx : a.eval x = .pointer (some ⟨b, 0, none⟩)) (hb : blk w b (stC s vo vt) t) (hs : LenS s)
    (h : wpList Tryz.prog ops Q rest (a.put o.dst (.agg (xC s.x))) w) : wpList Tryz.prog ops Q (o :: rest) a w :=
  wpList_load_mid hgd 38 x ho b 0 hx (i64s s.x) _ (range_x hb hs).1 Tryz.underlying38 rfl (by rw [i64s_len, hs.x]; exact infoX) h
theorem wpList_ldP (hgd : o.guard = none) (x : Operand) (ho : o.op = .load 39 x) (hx : a.eval x = .pointer (some ⟨b, 8, none⟩)) (hb : blk w b (stC s vo vt) t) (hs : LenS s)
    (h : wpList Tryz.prog ops Q rest (a.put o.dst (.agg (xC s.p))) w) : wpList Tryz.prog ops Q (o :: rest) a w :=
  wpList_load_mid hgd 39 x ho b 8 hx (i64s s.p) _ (range_x hb hs).2.1 Tryz.underlying39 rfl (by rw [i64s_len, hs.p]; exact infoP) h
theorem wpList_ldG (hgd : o.guard = none) (x : Operand) (ho : o.op = .load 40 x) (hx : a.eval x = .pointer (some ⟨b, 16, none⟩)) (hb : blk w b (stC s vo vt) t) (hs : LenS s)
    (h : wpList Tryz.prog ops Q rest (a.put o.dst (.agg (xC s.g))) w) : wpList Tryz.prog ops Q (o :: rest) a w :=
  wpList_load_mid hgd 40 x ho b 16 hx (i64s s.g) _ (range_x hb hs).2.2 Tryz.underlying40 rfl (by rw [i64s_len, hs.g]; exact infoG) h
end
theorem rstate_info : (Tryz.prog.info? 44).map (·.size) = some 24 := by kernel_rfl
theorem rstate_size {s : PSt} {vo vt : Value} (h : LenS s) : (Tryz.prog.info? 44).map (·.size) = some (stC s vo vt).size := by rw [stC_size h]; exact rstate_info
/-- An array of its own. -/
abbrev zero8 : Array Value := #[.int .i64 0, .int .i64 0, .int .i64 0, .int .i64 0, .int .i64 0, .int .i64 0, .int .i64 0, .int .i64 0]
/-- The world in one of the document's parts of a step. -/
structure RfW (w wr : World) (B : Nat) (s : PSt) (vo vt : Value) (i : PIns) : Prop where
  below : Below w.heap.size w wr
  hB : w.heap.size ≤ B
  st : blk wr B (stC s vo vt) 44
  ins : blk wr (B + 1) (insC i) 46
  res : blk wr (B + 2) zeroS 44
  at' : StN wr vo vt s
theorem RfW.next {w wr w' : World} {B : Nat} {s : PSt} {vo vt : Value} {i : PIns} (h : RfW w wr B s vo vt i) (hb : Below wr.heap.size wr w') : RfW w w' B s vo vt i :=
  ⟨h.below.trans (hb.mono h.below.size), h.hB, blk_below h.st hb, blk_below h.ins hb, blk_below h.res hb, h.at'.below hb⟩
theorem RfW.size {w wr : World} {B : Nat} {s : PSt} {vo vt : Value} {i : PIns} (h : RfW w wr B s vo vt i) : B + 2 < wr.heap.size := blk_lt h.res
/-- The state's own block changes. -/
theorem RfW.put {w wr : World} {B : Nat} {s t : PSt} {vo vt vo' vt' : Value} {i : PIns} (h : RfW w wr B s vo vt i) (ht : StN wr vo' vt' t) : RfW w (putB wr B (stC t vo' vt') 44) B t vo' vt' i :=
  ⟨h.below.trans (putB_below _ h.hB _ _), h.hB, putB_at h.st _ _, by unfold blk; rw [putB_ne _ (by omega)]; exact h.ins, by unfold blk; rw [putB_ne _ (by omega)]; exact h.res, ht.putT h.st (by decide)⟩
/-- Another block of the call's own changes: no row's. -/
theorem RfW.other {w wr : World} {B X : Nat} {s : PSt} {vo vt : Value} {i : PIns} {C D : Array Value} {t t' : TypeId} (h : RfW w wr B s vo vt i) (hX : B + 2 < X) (hb : blk wr X C t) (ht : t ≠ 2 ∧ t ≠ 42) : RfW w (putB wr X D t') B s vo vt i :=
  ⟨h.below.trans (putB_below _ (by have := h.hB; omega) _ _), h.hB, by unfold blk; rw [putB_ne _ (by omega)]; exact h.st, by unfold blk; rw [putB_ne _ (by omega)]; exact h.ins, by unfold blk; rw [putB_ne _ (by omega)]; exact h.res, h.at'.putT hb ht⟩
/-- What a part of a step answers. -/
def PartPost (w : World) (t : PSt) (r : Value) (e : Ending) (w' : World) : Prop := ∃ vo vt, e = .returned (.tuple #[.agg (stC t vo vt), r]) ∧ StN w' vo vt t ∧ Below w.heap.size w w'
theorem RfW.post {w wr : World} {B : Nat} {s : PSt} {vo vt : Value} {i : PIns} {r : Value} (h : RfW w wr B s vo vt i) : PartPost w s r (.returned (.tuple #[.agg (stC s vo vt), r])) (putB wr (B + 2) (stC s vo vt) 44) :=
  ⟨vo, vt, rfl, h.at'.putT h.res (by decide), h.below.trans (putB_below _ (by have := h.hB; omega) _ _)⟩
end Go.Proofs.YtapjgobkpehgfaaGreatDoor
