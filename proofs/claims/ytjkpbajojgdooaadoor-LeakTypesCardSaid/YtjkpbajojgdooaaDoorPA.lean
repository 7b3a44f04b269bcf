/-
  States in memory of the call's own: objects in rows that do not meet.
  A state's cells; what reads them: isDone, object, hasField, nextPlace, oneIf.
  The document's Same of a state with itself, wherever the two lie.
  A state in a block of its own: a cell is set; a slice is appended to.
-/
import Derived.Test.YtjkpbajojgdooaaDoorMNS
import Derived.Test.YtjkpbajojgdooaaDoorHNF
import Derived.Maps.AppendAt
import Derived.Deep.AppendLies
import Derived.StillTailTactics
import Derived.Deep.CutRange

/- States in memory of the call's own: objects in rows that do not meet. -/
namespace Go.Proofs.YtjkpbajojgdooaaDoor
set_option linter.unusedSimpArgs false
set_option linter.unusedVariables false
open Go.RowKit

theorem own_same {w w' : World} {base size n : Nat} {e : TypeId} {v : Value} {xs : List Value} (h : w.ownsRow base e size v n xs) (hb : ∀ g, v.ownBlock = some g → g < w.heap.size → w'.heap[g]? = w.heap[g]?) : w'.ownsRow base e size v n xs := by
  obtain ⟨h1, h2⟩ := h
  refine ⟨h1, h2.imp id ?_⟩
  rintro ⟨g, cap, cur, rfl, hg, hc, rest⟩
  exact ⟨g, cap, cur, rfl, hg, by rw [hb g rfl (Array.getElem?_eq_some_iff.1 hc).1]; exact hc, rest⟩
/-- Two blocks of unlike types are not one. -/
theorem blk_ne {w : World} {b g : Nat} {cs cs' : Array Value} {t t' : TypeId} {fr fr' : Nat × Nat} (h : w.heap[b]? = some (.cells cs t fr)) (h' : w.heap[g]? = some (.cells cs' t' fr')) (hne : t ≠ t') : b ≠ g := by
  rintro rfl
  rw [h] at h'
  simp only [Option.some.injEq, Obj.cells.injEq] at h'
  exact hne h'.2.1
theorem own_ne {w : World} {b base size n : Nat} {e t : TypeId} {v : Value} {xs : List Value} {cs : Array Value} (h : w.ownsRow base e size v n xs) (hb : blk w b cs t) (hne : t ≠ e) : ∀ g, v.ownBlock = some g → g ≠ b := by
  intro g hg
  rcases h.2 with ⟨rfl, _⟩ | ⟨g', cap, cur, rfl, _, hc, _⟩
  · cases hg
  · obtain rfl := Option.some.inj hg
    exact fun e => blk_ne hb hc hne e.symm
theorem own_lt {w : World} {base size n : Nat} {e : TypeId} {v : Value} {xs : List Value} (h : w.ownsRow base e size v n xs) : ∀ g, v.ownBlock = some g → base ≤ g ∧ g < w.heap.size := by
  intro g hg
  rcases h.2 with ⟨rfl, _⟩ | ⟨g', cap, cur, rfl, hb, hc, _⟩
  · cases hg
  · obtain rfl := Option.some.inj hg
    exact ⟨hb, (Array.getElem?_eq_some_iff.1 hc).1⟩
/-- A slice of one-cell values; the empty one is nil. -/
def RowN (w : World) (v : Value) (cs : List Value) : Prop := RowAt w v cs ∧ (cs = [] → v = .slice none 0 0) ∧ ∀ (a : Addr) (n c : Nat), v = .slice (some a) n c → ∃ xs e fr, w.heap[a.block]? = some (.cells xs e fr) ∧ (e = 2 ∨ e = 34)
theorem RowN.below {w w' : World} {v : Value} {cs : List Value} (h : RowN w v cs) (hb : Below w.heap.size w w') : RowN w' v cs := ⟨h.1.below hb, h.2.1, fun a n c e => by
  obtain ⟨xs, t, fr, h1, h2⟩ := h.2.2 a n c e
  exact ⟨xs, t, fr, by rw [hb.block _ (Array.getElem?_eq_some_iff.1 h1).1]; exact h1, h2⟩⟩
theorem rowN_nil (w : World) : RowN w (.slice none 0 0) [] := ⟨rowAt_nil w, fun _ => rfl, fun a n c e => by simp at e⟩
theorem RowN.cases {w : World} {v : Value} {cs : List Value} (h : RowN w v cs) : (cs = [] ∧ v = .slice none 0 0) ∨ (cs ≠ [] ∧ ∃ b o c, v = .slice (some ⟨b, o, none⟩) cs.length c ∧ cs.length ≤ c ∧ c ≤ maxLen ∧ b < w.heap.size ∧ ∀ j x, cs[j]? = some x → w.cell? ⟨b, o + j, none⟩ = some x) := by
  obtain ⟨⟨a, c, rfl, h1, h2, h3⟩, h4, -⟩ := h
  by_cases h0 : cs = []
  · exact .inl ⟨h0, h4 h0⟩
  · obtain ⟨b, o, rfl, hb, hc⟩ := h3.resolve_left h0
    exact .inr ⟨h0, b, o, c, rfl, h1, h2, hb, hc⟩
/-- Objects, wherever they lie; none of them is empty. -/
def GridN (w : World) (v : Value) (xss : List (List Int)) : Prop :=
  ∃ rows : List Value, rows.length = xss.length ∧ RowN w v rows ∧ (∀ xs ∈ xss, xs ≠ []) ∧ ∀ (j : Nat) (r : Value) (xs : List Int), rows[j]? = some r → xss[j]? = some xs → RowN w r (i64s xs)
theorem GridN.below {w w' : World} {v : Value} {xss : List (List Int)} (h : GridN w v xss) (hb : Below w.heap.size w w') : GridN w' v xss := by
  obtain ⟨rows, h1, h2, h3, h4⟩ := h
  exact ⟨rows, h1, h2.below hb, h3, fun j r xs hr hx => (h4 j r xs hr hx).below hb⟩
theorem GridN.grid {w : World} {v : Value} {xss : List (List Int)} (h : GridN w v xss) : GridI w v xss := by
  obtain ⟨rows, h1, h2, h3, h4⟩ := h
  exact ⟨rows, h1, h2.1, fun j r xs hr hx => (h4 j r xs hr hx).1⟩
/-- A state, wherever its parts lie. -/
structure StN (w : World) (vo vt : Value) (s : PSt) : Prop where
  len : LenS s
  objs : GridN w vo s.objs
  out : RowN w vt (i64s s.out)
theorem StN.below {w w' : World} {vo vt : Value} {s : PSt} (h : StN w vo vt s) (hb : Below w.heap.size w w') : StN w' vo vt s := ⟨h.len, h.objs.below hb, h.out.below hb⟩
theorem StN.at' {w : World} {vo vt : Value} {s : PSt} (h : StN w vo vt s) : StAt w (.agg (stC s vo vt)) s := ⟨vo, vt, rfl, h.objs.grid, h.out.1, h.len⟩
theorem gridN_nil (w : World) : GridN w (.slice none 0 0) [] := ⟨[], rfl, rowN_nil w, by simp, fun j r xs hr => by simp at hr⟩
theorem st0_n (w : World) : StN w (.slice none 0 0) (.slice none 0 0) st0 := ⟨len_st0, gridN_nil w, rowN_nil w⟩

/-- The parts of a state in memory of the call's own. -/
structure ObjsOwn (w : World) (B : Nat) (vo vt : Value) (objs : List (List Int)) (rows : List Value) (gs : List Nat) : Prop where
  outer : w.ownsRow B 34 1 vo objs.length rows
  nil : objs = [] → vo = .slice none 0 0
  lg : gs.length = objs.length
  nd : gs.Nodup
  ne : ∀ xs ∈ objs, xs ≠ []
  row : ∀ (j : Nat) (r : Value) (xs : List Int) (g : Nat), rows[j]? = some r → objs[j]? = some xs → gs[j]? = some g → w.ownsRow B 2 1 r xs.length (i64s xs) ∧ r.ownBlock = some g ∧ vt.ownBlock ≠ some g
structure Parts (w : World) (B : Nat) (s : PSt) (vo vt : Value) : Prop where
  len : LenS s
  objs : ∃ rows gs, ObjsOwn w B vo vt s.objs rows gs
  out : w.ownsRow B 2 1 vt s.out.length (i64s s.out)
  onil : s.out = [] → vt = .slice none 0 0
theorem ObjsOwn.lr {w : World} {B : Nat} {vo vt : Value} {objs : List (List Int)} {rows : List Value} {gs : List Nat} (h : ObjsOwn w B vo vt objs rows gs) : rows.length = objs.length := by have := h.outer.1; omega
theorem i64s_len (xs : List Int) : (i64s xs).length = xs.length := by simp
theorem ObjsOwn.same {w w' : World} {B : Nat} {vo vt : Value} {objs : List (List Int)} {rows : List Value} {gs : List Nat} (h : ObjsOwn w B vo vt objs rows gs)
    (h1 : ∀ g, vo.ownBlock = some g → g < w.heap.size → w'.heap[g]? = w.heap[g]?) (h2 : ∀ g ∈ gs, g < w.heap.size → w'.heap[g]? = w.heap[g]?) : ObjsOwn w' B vo vt objs rows gs := by
  refine ⟨own_same h.outer h1, h.nil, h.lg, h.nd, h.ne, fun j r xs g hr hx hg => ?_⟩
  obtain ⟨a, b, c⟩ := h.row j r xs g hr hx hg
  refine ⟨own_same a (fun g' hg' hlt => ?_), b, c⟩
  rw [b] at hg'
  obtain rfl := Option.some.inj hg'
  exact h2 g (List.mem_of_getElem? hg) hlt
theorem Parts.below {w w' : World} {B : Nat} {s : PSt} {vo vt : Value} (h : Parts w B s vo vt) (hb : Below w.heap.size w w') : Parts w' B s vo vt := by
  obtain ⟨rows, gs, ho⟩ := h.objs
  exact ⟨h.len, ⟨rows, gs, ho.same (fun g _ hlt => hb.block g hlt) (fun g _ hlt => hb.block g hlt)⟩, own_below h.out hb, h.onil⟩
/-- A field of an object is put. -/
theorem own_cell {w : World} {B n g : Nat} {e : TypeId} {v : Value} {xs : List Value} (h : w.ownsRow B e 1 v n xs) (hg : v.ownBlock = some g) : ∃ cap cur, v = .slice (some ⟨g, 0, none⟩) n cap ∧ n ≤ cap ∧ cap ≤ maxLen ∧ blk w g cur e ∧ cur.size = cap ∧ cur.toList.take n = xs ∧ B ≤ g := by
  rcases h.2 with ⟨rfl, _⟩ | ⟨g', cap, cur, rfl, hb, hc, h3, h4, h5, h6⟩
  · cases hg
  · obtain rfl := Option.some.inj hg
    exact ⟨cap, cur, rfl, h3, h4, hc, by omega, by rw [Nat.mul_one] at h6; exact h6, hb⟩
theorem own_putC {w : World} {B n g : Nat} {e : TypeId} {cap : Nat} {cur : Array Value} (hb : blk w g cur e) (hB : B ≤ g) (h3 : n ≤ cap) (h4 : cap ≤ maxLen) (h5 : cur.size = cap) (k : Nat) (x : Value) {xs : List Value} (h6 : cur.toList.take n = xs) :
    (putB w g (cur.setIfInBounds k x) e).ownsRow B e 1 (.slice (some ⟨g, 0, none⟩) n cap) n (xs.set k x) := by
  have hl : xs.length = n := by rw [← h6, List.length_take, Array.length_toList]; omega
  refine ⟨by rw [List.length_set]; omega, .inr ⟨g, cap, _, rfl, hB, putB_at hb _ _, h3, h4, by rw [Array.size_setIfInBounds]; omega, ?_⟩⟩
  rw [Nat.mul_one, Array.toList_setIfInBounds, ← h6, List.take_set]
theorem nodup_inj {gs : List Nat} (h : gs.Nodup) {i j g : Nat} (hi : gs[i]? = some g) (hj : gs[j]? = some g) : i = j := by
  obtain ⟨hi1, hi2⟩ := List.getElem?_eq_some_iff.1 hi
  obtain ⟨hj1, hj2⟩ := List.getElem?_eq_some_iff.1 hj
  rcases Nat.lt_trichotomy i j with hlt | rfl | hlt
  · exact absurd (hi2.trans hj2.symm) (List.pairwise_iff_getElem.1 h i j hi1 hj1 hlt)
  · rfl
  · exact absurd (hj2.trans hi2.symm) (List.pairwise_iff_getElem.1 h j i hj1 hi1 hlt)
theorem Parts.put {w : World} {B : Nat} {s : PSt} {vo vt : Value} (h : Parts w B s vo vt) {o n v : Int} (h1 : 1 ≤ o) (h2 : o ≤ s.objs.length) {rows : List Value} {gs : List Nat} (hr : ObjsOwn w B vo vt s.objs rows gs) {g : Nat} (hg : gs[o.toNat - 1]? = some g) {cur : Array Value} (hb : blk w g cur 2) :
    Parts (putB w g (cur.setIfInBounds n.toNat (.int .i64 v)) 2) B (setO s o n v) vo vt := by
  have hlr := hr.lr
  have hj : o.toNat - 1 < s.objs.length := by omega
  have e1 : rows[o.toNat - 1]? = some (rows[o.toNat - 1]'(by omega)) := List.getElem?_eq_getElem (by omega)
  have e2 : s.objs[o.toNat - 1]? = some (objA s.objs o) := by
    unfold objA; rw [List.getD_eq_getElem?_getD, List.getElem?_eq_getElem hj]; rfl
  obtain ⟨a, b, c⟩ := hr.row _ _ _ g e1 e2 hg
  obtain ⟨cap, cur', hv, k1, k2, k3, k4, k5, k6⟩ := own_cell a b
  have hcc : cur' = cur := by
    have := k3.symm.trans hb
    simpa using this
  subst hcc
  refine ⟨⟨h.len.x, h.len.p, h.len.g⟩, ⟨rows, gs, ⟨?_, ?_, ?_, hr.nd, ?_, ?_⟩⟩, ?_, h.onil⟩
  · show (putB w g _ _).ownsRow B _ 1 vo (putA s.objs o n v).length rows
    rw [show (putA s.objs o n v).length = s.objs.length by unfold putA; simp]
    refine own_same hr.outer (fun g' hg' _ => putB_ne w ?_ _ _)
    exact own_ne hr.outer hb (by decide) g' hg'
  · intro h0
    have : (putA s.objs o n v).length = 0 := by rw [show putA s.objs o n v = [] from h0]; rfl
    rw [show (putA s.objs o n v).length = s.objs.length by unfold putA; simp] at this
    omega
  · show gs.length = (putA s.objs o n v).length
    rw [show (putA s.objs o n v).length = s.objs.length by unfold putA; simp]; exact hr.lg
  · intro xs hxs
    rcases mem_set_or (show xs ∈ s.objs.set (o.toNat - 1) ((objA s.objs o).set n.toNat v) from hxs) with hm | rfl
    · exact hr.ne xs hm
    · have := hr.ne _ (List.mem_of_getElem? e2)
      intro h0
      have hz : ((objA s.objs o).set n.toNat v).length = 0 := by rw [h0]; rfl
      rw [List.length_set] at hz
      exact this (List.length_eq_zero_iff.1 hz)
  · intro j r xs g' hr' hx hg'
    have hx' : (s.objs.set (o.toNat - 1) ((objA s.objs o).set n.toNat v))[j]? = some xs := hx
    by_cases hjo : o.toNat - 1 = j
    · subst hjo
      rw [List.getElem?_set, if_pos rfl, if_pos hj] at hx'
      obtain rfl := Option.some.inj hx'
      rw [hr'] at e1
      rw [hg] at hg'
      obtain rfl := Option.some.inj hg'
      obtain rfl := Option.some.inj e1
      refine ⟨?_, b, c⟩
      rw [List.length_set, hv]
      have := own_putC (n := (objA s.objs o).length) k3 k6 k1 k2 k4 n.toNat (.int .i64 v) k5
      rw [show i64s ((objA s.objs o).set n.toNat v) = (i64s (objA s.objs o)).set n.toNat (.int .i64 v) by simp]
      exact this
    · rw [List.getElem?_set_ne hjo] at hx'
      obtain ⟨a', b', c'⟩ := hr.row j r xs g' hr' hx' hg'
      refine ⟨own_same a' (fun g2 hg2 _ => putB_ne w ?_ _ _), b', c'⟩
      rw [b'] at hg2
      obtain rfl := Option.some.inj hg2
      rintro rfl
      exact hjo (nodup_inj hr.nd hg hg')
  · exact own_same h.out (fun g' hg' _ => putB_ne w (fun e => c (by rw [hg', e])) _ _)
/-- As they lie for whoever only reads them. -/
theorem own_rowN {w : World} {B n : Nat} {e : TypeId} {v : Value} {cs : List Value} (h : w.ownsRow B e 1 v n cs) (he : e = 2 ∨ e = 34) (h0 : cs = [] → v = .slice none 0 0) : RowN w v cs := ⟨RowAt.of_own h, h0, fun a m c hv => by
  rcases h.2 with ⟨rfl, _⟩ | ⟨g, cap, cur, rfl, _, hg, _⟩
  · simp at hv
  · simp only [Value.slice.injEq, Option.some.injEq] at hv
    obtain ⟨rfl, -, -⟩ := hv
    exact ⟨cur, e, (0, 0), hg, he⟩⟩
/-- A state's block changes; the rows stay. -/
theorem RowN.putT {w : World} {b : Nat} {v : Value} {cs : List Value} {xs xs' : Array Value} {t t' : TypeId} (h : RowN w v cs) (hb : blk w b xs t) (ht : t ≠ 2 ∧ t ≠ 34) : RowN (putB w b xs' t') v cs := by
  have hne : ∀ (a : Addr) (n c : Nat), v = .slice (some a) n c → a.block ≠ b := fun a n c e => by
    obtain ⟨ys, e', fr, h1, h2⟩ := h.2.2 a n c e
    exact blk_ne h1 hb (h2.elim (fun e => by rw [e]; exact ht.1.symm) (fun e => by rw [e]; exact ht.2.symm))
  refine ⟨?_, h.2.1, fun a n c e => ?_⟩
  · obtain ⟨a, c, rfl, h1, h2, h3⟩ := h.1
    refine ⟨a, c, rfl, h1, h2, h3.imp id ?_⟩
    rintro ⟨b0, o, rfl, hlt, hc⟩
    have := hne ⟨b0, o, none⟩ _ _ rfl
    refine ⟨b0, o, rfl, by rw [putB_size]; exact hlt, fun j x hx => ?_⟩
    rw [World.cell?_of_block (a := ⟨b0, o + j, none⟩) (putB_ne w this _ _)]
    exact hc j x hx
  · obtain ⟨ys, e', fr, h1, h2⟩ := h.2.2 a n c e
    exact ⟨ys, e', fr, by rw [putB_ne w (hne a n c e)]; exact h1, h2⟩
theorem GridN.putT {w : World} {b : Nat} {v : Value} {xss : List (List Int)} {xs xs' : Array Value} {t t' : TypeId} (h : GridN w v xss) (hb : blk w b xs t) (ht : t ≠ 2 ∧ t ≠ 34) : GridN (putB w b xs' t') v xss := by
  obtain ⟨rows, h1, h2, h3, h4⟩ := h
  exact ⟨rows, h1, h2.putT hb ht, h3, fun j r xs hr hx => (h4 j r xs hr hx).putT hb ht⟩
theorem StN.putT {w : World} {b : Nat} {vo vt : Value} {s : PSt} {xs xs' : Array Value} {t t' : TypeId} (h : StN w vo vt s) (hb : blk w b xs t) (ht : t ≠ 2 ∧ t ≠ 34) : StN (putB w b xs' t') vo vt s := ⟨h.len, h.objs.putT hb ht, h.out.putT hb ht⟩
theorem info64 : (Tryd.prog.info? 2).map (fun i => (i.zero, i.size, i.bytes)) = some (some (.int .i64 0), 1, 8) := by kernel_rfl
theorem infoO : (Tryd.prog.info? 34).map (fun i => (i.zero, i.size, i.bytes)) = some (some (.slice none 0 0), 1, 24) := by kernel_rfl
end Go.Proofs.YtjkpbajojgdooaaDoor

/- A state's cells; what reads them: isDone, object, hasField, nextPlace, oneIf. -/
namespace Go.Proofs.YtjkpbajojgdooaaDoor
set_option linter.unusedSimpArgs false
set_option linter.unusedVariables false
open Go.RowKit

section
variable {s : PSt} {vo vt : Value}
theorem stC_x (h : LenS s) (k : Nat) (hk : k < 8) : (stC s vo vt)[k]? = some (.int .i64 (s.x.getD k 0)) := by
  obtain ⟨x0, x1, x2, x3, x4, x5, x6, x7, p0, p1, p2, p3, p4, p5, p6, p7, g0, g1, g2, g3, e⟩ := h.lists
  rw [e, stC_list]
  match k, hk with
  | 0, _ => rfl
  | 1, _ => rfl
  | 2, _ => rfl
  | 3, _ => rfl
  | 4, _ => rfl
  | 5, _ => rfl
  | 6, _ => rfl
  | 7, _ => rfl
theorem stC_p (h : LenS s) (k : Nat) (hk : k < 8) : (stC s vo vt)[8 + k]? = some (.int .i64 (s.p.getD k 0)) := by
  obtain ⟨x0, x1, x2, x3, x4, x5, x6, x7, p0, p1, p2, p3, p4, p5, p6, p7, g0, g1, g2, g3, e⟩ := h.lists
  rw [e, stC_list]
  match k, hk with
  | 0, _ => rfl
  | 1, _ => rfl
  | 2, _ => rfl
  | 3, _ => rfl
  | 4, _ => rfl
  | 5, _ => rfl
  | 6, _ => rfl
  | 7, _ => rfl
theorem stC_g (h : LenS s) (k : Nat) (hk : k < 4) : (stC s vo vt)[16 + k]? = some (.int .i64 (s.g.getD k 0)) := by
  obtain ⟨x0, x1, x2, x3, x4, x5, x6, x7, p0, p1, p2, p3, p4, p5, p6, p7, g0, g1, g2, g3, e⟩ := h.lists
  rw [e, stC_list]
  match k, hk with
  | 0, _ => rfl
  | 1, _ => rfl
  | 2, _ => rfl
  | 3, _ => rfl
theorem stC_rest (h : LenS s) : (stC s vo vt)[20]? = some vo ∧ (stC s vo vt)[21]? = some vt ∧ (stC s vo vt)[22]? = some (.int .i64 s.pc) ∧ (stC s vo vt)[23]? = some (.int .i64 s.steps) := by
  obtain ⟨x0, x1, x2, x3, x4, x5, x6, x7, p0, p1, p2, p3, p4, p5, p6, p7, g0, g1, g2, g3, e⟩ := h.lists
  rw [e, stC_list]
  exact ⟨rfl, rfl, rfl, rfl⟩
theorem stC_setO (h : LenS s) (objs : List (List Int)) (vo' : Value) : (stC s vo vt).setIfInBounds 20 vo' = stC { s with objs := objs } vo' vt := by
  obtain ⟨x0, x1, x2, x3, x4, x5, x6, x7, p0, p1, p2, p3, p4, p5, p6, p7, g0, g1, g2, g3, e⟩ := h.lists
  rw [e, stC_list]; rfl
theorem stC_setT (h : LenS s) (out : List Int) (vt' : Value) : (stC s vo vt).setIfInBounds 21 vt' = stC { s with out := out } vo vt' := by
  obtain ⟨x0, x1, x2, x3, x4, x5, x6, x7, p0, p1, p2, p3, p4, p5, p6, p7, g0, g1, g2, g3, e⟩ := h.lists
  rw [e, stC_list]; rfl
theorem stC_setA (h : LenS s) (n : Nat) : (stC s vo vt).setIfInBounds 22 (.int .i64 n) = stC { s with pc := n } vo vt := by
  obtain ⟨x0, x1, x2, x3, x4, x5, x6, x7, p0, p1, p2, p3, p4, p5, p6, p7, g0, g1, g2, g3, e⟩ := h.lists
  rw [e, stC_list]; rfl
theorem stC_setS (h : LenS s) (n : Nat) : (stC s vo vt).setIfInBounds 23 (.int .i64 n) = stC { s with steps := n } vo vt := by
  obtain ⟨x0, x1, x2, x3, x4, x5, x6, x7, p0, p1, p2, p3, p4, p5, p6, p7, g0, g1, g2, g3, e⟩ := h.lists
  rw [e, stC_list]; rfl
end
theorem stC_one (s : PSt) {vo vt : Value} (ho : vo.oneCell' = true) (ht : vt.oneCell' = true) : (stC s vo vt).all (·.oneCell') = true := by
  refine all_oneCell_toArray (fun v hv => ?_)
  rcases List.mem_append.1 hv with h | h
  · obtain ⟨x, _, rfl⟩ := List.mem_map.1 h; rfl
  · simp at h
    rcases h with rfl | rfl | rfl | rfl
    · exact ho
    · exact ht
    · rfl
    · rfl
theorem own_form {w : World} {B n sz : Nat} {e : TypeId} {v : Value} {cs : List Value} (h : w.ownsRow B e sz v n cs) : ∃ a c, v = .slice a n c ∧ n ≤ c ∧ c ≤ 9223372036854775807 := by
  rcases h.2 with ⟨rfl, rfl⟩ | ⟨g, cap, cur, rfl, _, _, h3, h4, _⟩
  · exact ⟨none, 0, rfl, Nat.le_refl _, by omega⟩
  · exact ⟨_, cap, rfl, h3, by unfold maxLen at h4; omega⟩
section
variable {w : World} {B b : Nat} {s : PSt} {vo vt : Value}
end
end Go.Proofs.YtjkpbajojgdooaaDoor

/- The document's Same of a state with itself, wherever the two lie. -/
namespace Go.Proofs.YtjkpbajojgdooaaDoor
set_option linter.unusedSimpArgs false
set_option linter.unusedVariables false
open Go.RowKit

theorem range_x {w : World} {b : Nat} {s : PSt} {vo vt : Value} {t : TypeId} (h : blk w b (stC s vo vt) t) (hl : LenS s) : w.rangeAt b 0 (i64s s.x) ∧ w.rangeAt b 8 (i64s s.p) ∧ w.rangeAt b 16 (i64s s.g) := by
  have key : ∀ (l : List Int) (j : Nat) (v : Value), (i64s l)[j]? = some v → v = .int .i64 (l.getD j 0) ∧ j < l.length := fun l j v hv => by
    have hj := (List.getElem?_eq_some_iff.1 hv).1
    rw [i64s_len] at hj
    refine ⟨?_, hj⟩
    have e : l[j]? = some (l.getD j 0) := by rw [List.getD_eq_getElem?_getD, List.getElem?_eq_getElem hj]; rfl
    rw [i64s_get e] at hv
    exact (Option.some.inj hv).symm
  refine ⟨fun j v hv => ?_, fun j v hv => ?_, fun j v hv => ?_⟩
  · obtain ⟨rfl, hj⟩ := key _ _ _ hv
    rw [Nat.zero_add]; exact blk_cell h _ _ (stC_x hl j (by have := hl.x; omega))
  · obtain ⟨rfl, hj⟩ := key _ _ _ hv
    exact blk_cell h _ _ (stC_p hl j (by have := hl.p; omega))
  · obtain ⟨rfl, hj⟩ := key _ _ _ hv
    exact blk_cell h _ _ (stC_g hl j (by have := hl.g; omega))
end Go.Proofs.YtjkpbajojgdooaaDoor

/- A state in a block of its own: a cell is set; a slice is appended to. -/
namespace Go.Proofs.YtjkpbajojgdooaaDoor
set_option linter.unusedSimpArgs false
set_option linter.unusedVariables false
open Go.RowKit

section
variable {w : World} {B b : Nat} {s : PSt} {vo vt : Value}
/-- Blocks that are neither the state's nor of numbers, nor of slices of them, stay. -/
def FarB (w w' : World) (b : Nat) : Prop := ∀ (g : Nat) (cs : Array Value) (t : TypeId), Proofs.YtjkpbajojgdooaaDoor.blk w g cs t → g ≠ b → t ≠ 34 → t ≠ 2 → Proofs.YtjkpbajojgdooaaDoor.blk w' g cs t
theorem FarB.of_below {w w' : World} (hb : Below w.heap.size w w') (b : Nat) : FarB w w' b := fun _ _ _ hg _ _ _ => blk_below hg hb
theorem FarB.trans {w w1 w' : World} {b : Nat} (h : FarB w w1 b) (h' : FarB w1 w' b) : FarB w w' b := fun g cs t hg h1 h2 h3 => h' g cs t (h g cs t hg h1 h2 h3) h1 h2 h3
theorem FarB.drew {w w' : World} {b : Nat} (h : FarB w w' b) : FarB w w'.drew b := h.trans (FarB.of_below (Below.refl _ _).drew b)
end
end Go.Proofs.YtjkpbajojgdooaaDoor
