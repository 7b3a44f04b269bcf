/-
  States in memory of the call's own: objects in rows that do not meet.
  A state's cells; what reads them: isDone, object, hasField, nextPlace, oneIf.
  A state in a block of its own: a cell is set; a slice is appended to.
-/
import Derived.Test.YtmnoohpkjgjphaaDoorMNS
import Derived.Test.YtmnoohpkjgjphaaDoorHFld
import Derived.Maps.AppendAt
import Derived.Deep.AppendLies

/- States in memory of the call's own: objects in rows that do not meet. -/
namespace Go.Proofs.YtmnoohpkjgjphaaDoor
set_option linter.unusedSimpArgs false
set_option linter.unusedVariables false
open Go.RowKit

theorem own_same {w w' : World} {base size n : Nat} {e : TypeId} {v : Value} {xs : List Value} (h : w.ownsRow base e size v n xs) (hb : ∀ g, v.ownBlock = some g → g < w.heap.size → w'.heap[g]? = w.heap[g]?) : w'.ownsRow base e size v n xs := by
  obtain ⟨h1, h2⟩ := h
  refine ⟨h1, h2.imp id ?_⟩
  rintro ⟨g, cap, cur, rfl, hg, hc, rest⟩
  exact ⟨g, cap, cur, rfl, hg, by rw [hb g rfl (Array.getElem?_eq_some_iff.1 hc).1]; exact hc, rest⟩
/-- Two blocks of unlike types are not one. -/
theorem blk_ne {w : World} {b g : Nat} {cs cs' : Array Value} {t t' : TypeId} {fr fr' : Nat × Nat} (h : w.heap[b]? = some (.cells cs t fr)) (h' : w.heap[g]? = some (.cells cs' t' fr')) (hne : t ≠ t') : b ≠ g := by
  rintro rfl
  rw [h] at h'
  simp only [Option.some.injEq, Obj.cells.injEq] at h'
  exact hne h'.2.1
theorem own_ne {w : World} {b base size n : Nat} {e t : TypeId} {v : Value} {xs : List Value} {cs : Array Value} (h : w.ownsRow base e size v n xs) (hb : blk w b cs t) (hne : t ≠ e) : ∀ g, v.ownBlock = some g → g ≠ b := by
  intro g hg
  rcases h.2 with ⟨rfl, _⟩ | ⟨g', cap, cur, rfl, _, hc, _⟩
  · cases hg
  · obtain rfl := Option.some.inj hg
    exact fun e => blk_ne hb hc hne e.symm
theorem own_lt {w : World} {base size n : Nat} {e : TypeId} {v : Value} {xs : List Value} (h : w.ownsRow base e size v n xs) : ∀ g, v.ownBlock = some g → base ≤ g ∧ g < w.heap.size := by
  intro g hg
  rcases h.2 with ⟨rfl, _⟩ | ⟨g', cap, cur, rfl, hb, hc, _⟩
  · cases hg
  · obtain rfl := Option.some.inj hg
    exact ⟨hb, (Array.getElem?_eq_some_iff.1 hc).1⟩
/-- A slice of one-cell values; the empty one is nil. -/
def RowN (w : World) (v : Value) (cs : List Value) : Prop := RowAt w v cs ∧ (cs = [] → v = .slice none 0 0) ∧ ∀ (a : Addr) (n c : Nat), v = .slice (some a) n c → ∃ xs e fr, w.heap[a.block]? = some (.cells xs e fr) ∧ (e = 2 ∨ e = 32)
theorem RowN.below {w w' : World} {v : Value} {cs : List Value} (h : RowN w v cs) (hb : Below w.heap.size w w') : RowN w' v cs := ⟨h.1.below hb, h.2.1, fun a n c e => by
  obtain ⟨xs, t, fr, h1, h2⟩ := h.2.2 a n c e
  exact ⟨xs, t, fr, by rw [hb.block _ (Array.getElem?_eq_some_iff.1 h1).1]; exact h1, h2⟩⟩
theorem rowN_nil (w : World) : RowN w (.slice none 0 0) [] := ⟨rowAt_nil w, fun _ => rfl, fun a n c e => by simp at e⟩
theorem RowN.cases {w : World} {v : Value} {cs : List Value} (h : RowN w v cs) : (cs = [] ∧ v = .slice none 0 0) ∨ (cs ≠ [] ∧ ∃ b o c, v = .slice (some ⟨b, o, none⟩) cs.length c ∧ cs.length ≤ c ∧ c ≤ maxLen ∧ b < w.heap.size ∧ ∀ j x, cs[j]? = some x → w.cell? ⟨b, o + j, none⟩ = some x) := by
  obtain ⟨⟨a, c, rfl, h1, h2, h3⟩, h4, -⟩ := h
  by_cases h0 : cs = []
  · exact .inl ⟨h0, h4 h0⟩
  · obtain ⟨b, o, rfl, hb, hc⟩ := h3.resolve_left h0
    exact .inr ⟨h0, b, o, c, rfl, h1, h2, hb, hc⟩
/-- Objects, wherever they lie; none of them is empty. -/
def GridN (w : World) (v : Value) (xss : List (List Int)) : Prop :=
  ∃ rows : List Value, rows.length = xss.length ∧ RowN w v rows ∧ (∀ xs ∈ xss, xs ≠ []) ∧ ∀ (j : Nat) (r : Value) (xs : List Int), rows[j]? = some r → xss[j]? = some xs → RowN w r (i64s xs)
theorem GridN.below {w w' : World} {v : Value} {xss : List (List Int)} (h : GridN w v xss) (hb : Below w.heap.size w w') : GridN w' v xss := by
  obtain ⟨rows, h1, h2, h3, h4⟩ := h
  exact ⟨rows, h1, h2.below hb, h3, fun j r xs hr hx => (h4 j r xs hr hx).below hb⟩
theorem GridN.grid {w : World} {v : Value} {xss : List (List Int)} (h : GridN w v xss) : GridI w v xss := by
  obtain ⟨rows, h1, h2, h3, h4⟩ := h
  exact ⟨rows, h1, h2.1, fun j r xs hr hx => (h4 j r xs hr hx).1⟩
/-- A state, wherever its parts lie. -/
structure StN (w : World) (vo vt : Value) (s : PSt) : Prop where
  len : LenS s
  objs : GridN w vo s.objs
  out : RowN w vt (i64s s.out)
theorem StN.below {w w' : World} {vo vt : Value} {s : PSt} (h : StN w vo vt s) (hb : Below w.heap.size w w') : StN w' vo vt s := ⟨h.len, h.objs.below hb, h.out.below hb⟩
theorem StN.at' {w : World} {vo vt : Value} {s : PSt} (h : StN w vo vt s) : StAt w (.agg (stC s vo vt)) s := ⟨vo, vt, rfl, h.objs.grid, h.out.1, h.len⟩
theorem gridN_nil (w : World) : GridN w (.slice none 0 0) [] := ⟨[], rfl, rowN_nil w, by simp, fun j r xs hr => by simp at hr⟩
theorem st0_n (w : World) : StN w (.slice none 0 0) (.slice none 0 0) st0 := ⟨len_st0, gridN_nil w, rowN_nil w⟩

/-- The parts of a state in memory of the call's own. -/
structure ObjsOwn (w : World) (B : Nat) (vo vt : Value) (objs : List (List Int)) (rows : List Value) (gs : List Nat) : Prop where
  outer : w.ownsRow B 32 1 vo objs.length rows
  nil : objs = [] → vo = .slice none 0 0
  lg : gs.length = objs.length
  nd : gs.Nodup
  ne : ∀ xs ∈ objs, xs ≠ []
  row : ∀ (j : Nat) (r : Value) (xs : List Int) (g : Nat), rows[j]? = some r → objs[j]? = some xs → gs[j]? = some g → w.ownsRow B 2 1 r xs.length (i64s xs) ∧ r.ownBlock = some g ∧ vt.ownBlock ≠ some g
structure Parts (w : World) (B : Nat) (s : PSt) (vo vt : Value) : Prop where
  len : LenS s
  objs : ∃ rows gs, ObjsOwn w B vo vt s.objs rows gs
  out : w.ownsRow B 2 1 vt s.out.length (i64s s.out)
  onil : s.out = [] → vt = .slice none 0 0
theorem ObjsOwn.lr {w : World} {B : Nat} {vo vt : Value} {objs : List (List Int)} {rows : List Value} {gs : List Nat} (h : ObjsOwn w B vo vt objs rows gs) : rows.length = objs.length := by have := h.outer.1; omega
theorem i64s_len (xs : List Int) : (i64s xs).length = xs.length := by simp
theorem ObjsOwn.same {w w' : World} {B : Nat} {vo vt : Value} {objs : List (List Int)} {rows : List Value} {gs : List Nat} (h : ObjsOwn w B vo vt objs rows gs)
    (h1 : ∀ g, vo.ownBlock = some g → g < w.heap.size → w'.heap[g]? = w.heap[g]?) (h2 : ∀ g ∈ gs, g < w.heap.size → w'.heap[g]? = w.heap[g]?) : ObjsOwn w' B vo vt objs rows gs := by
  refine ⟨own_same h.outer h1, h.nil, h.lg, h.nd, h.ne, fun j r xs g hr hx hg => ?_⟩
  obtain ⟨a, b, c⟩ := h.row j r xs g hr hx hg
  refine ⟨own_same a (fun g' hg' hlt => ?_), b, c⟩
  rw [b] at hg'
  obtain rfl := Option.some.inj hg'
  exact h2 g (List.mem_of_getElem? hg) hlt
theorem Parts.below {w w' : World} {B : Nat} {s : PSt} {vo vt : Value} (h : Parts w B s vo vt) (hb : Below w.heap.size w w') : Parts w' B s vo vt := by
  obtain ⟨rows, gs, ho⟩ := h.objs
  exact ⟨h.len, ⟨rows, gs, ho.same (fun g _ hlt => hb.block g hlt) (fun g _ hlt => hb.block g hlt)⟩, own_below h.out hb, h.onil⟩
/-- The state's own block is changed. -/
theorem ObjsOwn.gs_at {w : World} {B : Nat} {vo vt : Value} {objs : List (List Int)} {rows : List Value} {gs : List Nat} (h : ObjsOwn w B vo vt objs rows gs) {g : Nat} (hg : g ∈ gs) :
    ∃ (j : Nat) (r : Value) (xs : List Int), rows[j]? = some r ∧ objs[j]? = some xs ∧ gs[j]? = some g ∧ w.ownsRow B 2 1 r xs.length (i64s xs) ∧ r.ownBlock = some g ∧ vt.ownBlock ≠ some g := by
  obtain ⟨j, hj⟩ := List.getElem?_of_mem hg
  have hlt := (List.getElem?_eq_some_iff.1 hj).1
  have hlr := h.lr
  have hlg := h.lg
  have e1 : rows[j]? = some (rows[j]'(by omega)) := List.getElem?_eq_getElem (by omega)
  have e2 : objs[j]? = some (objs[j]'(by omega)) := List.getElem?_eq_getElem (by omega)
  obtain ⟨a, b, c⟩ := h.row j _ _ g e1 e2 hj
  exact ⟨j, _, _, e1, e2, hj, a, b, c⟩
theorem ObjsOwn.putS {w : World} {B b : Nat} {vo vt : Value} {objs : List (List Int)} {rows : List Value} {gs : List Nat} {cs : Array Value} (h : ObjsOwn w B vo vt objs rows gs) (hb : blk w b cs 34) (cs' : Array Value) (t' : TypeId) : ObjsOwn (putB w b cs' t') B vo vt objs rows gs := by
  refine h.same (fun g hg _ => putB_ne w (own_ne h.outer hb (by decide) g hg) _ _) (fun g hg _ => ?_)
  obtain ⟨j, r, xs, _, _, _, a, b', _⟩ := h.gs_at hg
  exact putB_ne w (own_ne a hb (by decide) g b') _ _
theorem Parts.putS {w : World} {B b : Nat} {s t : PSt} {vo vt : Value} {cs : Array Value} (h : Parts w B s vo vt) (hb : blk w b cs 34) (cs' : Array Value) (t' : TypeId) (hl : LenS t) (ho : t.objs = s.objs) (hu : t.out = s.out) : Parts (putB w b cs' t') B t vo vt := by
  obtain ⟨rows, gs, hr⟩ := h.objs
  refine ⟨hl, ⟨rows, gs, by rw [ho]; exact hr.putS hb _ _⟩, by rw [hu]; exact own_same h.out (fun g hg _ => putB_ne w (own_ne h.out hb (by decide) g hg) _ _), fun h0 => h.onil (by rw [← hu]; exact h0)⟩
/-- A field of an object is put. -/
theorem own_cell {w : World} {B n g : Nat} {e : TypeId} {v : Value} {xs : List Value} (h : w.ownsRow B e 1 v n xs) (hg : v.ownBlock = some g) : ∃ cap cur, v = .slice (some ⟨g, 0, none⟩) n cap ∧ n ≤ cap ∧ cap ≤ maxLen ∧ blk w g cur e ∧ cur.size = cap ∧ cur.toList.take n = xs ∧ B ≤ g := by
  rcases h.2 with ⟨rfl, _⟩ | ⟨g', cap, cur, rfl, hb, hc, h3, h4, h5, h6⟩
  · cases hg
  · obtain rfl := Option.some.inj hg
    exact ⟨cap, cur, rfl, h3, h4, hc, by omega, by rw [Nat.mul_one] at h6; exact h6, hb⟩
theorem own_putC {w : World} {B n g : Nat} {e : TypeId} {cap : Nat} {cur : Array Value} (hb : blk w g cur e) (hB : B ≤ g) (h3 : n ≤ cap) (h4 : cap ≤ maxLen) (h5 : cur.size = cap) (k : Nat) (x : Value) {xs : List Value} (h6 : cur.toList.take n = xs) :
    (putB w g (cur.setIfInBounds k x) e).ownsRow B e 1 (.slice (some ⟨g, 0, none⟩) n cap) n (xs.set k x) := by
  have hl : xs.length = n := by rw [← h6, List.length_take, Array.length_toList]; omega
  refine ⟨by rw [List.length_set]; omega, .inr ⟨g, cap, _, rfl, hB, putB_at hb _ _, h3, h4, by rw [Array.size_setIfInBounds]; omega, ?_⟩⟩
  rw [Nat.mul_one, Array.toList_setIfInBounds, ← h6, List.take_set]
theorem nodup_inj {gs : List Nat} (h : gs.Nodup) {i j g : Nat} (hi : gs[i]? = some g) (hj : gs[j]? = some g) : i = j := by
  obtain ⟨hi1, hi2⟩ := List.getElem?_eq_some_iff.1 hi
  obtain ⟨hj1, hj2⟩ := List.getElem?_eq_some_iff.1 hj
  rcases Nat.lt_trichotomy i j with hlt | rfl | hlt
  · exact absurd (hi2.trans hj2.symm) (List.pairwise_iff_getElem.1 h i j hi1 hj1 hlt)
  · rfl
  · exact absurd (hj2.trans hi2.symm) (List.pairwise_iff_getElem.1 h j i hj1 hi1 hlt)
theorem Parts.put {w : World} {B : Nat} {s : PSt} {vo vt : Value} (h : Parts w B s vo vt) {o n v : Int} (h1 : 1 ≤ o) (h2 : o ≤ s.objs.length) {rows : List Value} {gs : List Nat} (hr : ObjsOwn w B vo vt s.objs rows gs) {g : Nat} (hg : gs[o.toNat - 1]? = some g) {cur : Array Value} (hb : blk w g cur 2) :
    Parts (putB w g (cur.setIfInBounds n.toNat (.int .i64 v)) 2) B (setO s o n v) vo vt := by
  have hlr := hr.lr
  have hj : o.toNat - 1 < s.objs.length := by omega
  have e1 : rows[o.toNat - 1]? = some (rows[o.toNat - 1]'(by omega)) := List.getElem?_eq_getElem (by omega)
  have e2 : s.objs[o.toNat - 1]? = some (objA s.objs o) := by
    unfold objA; rw [List.getD_eq_getElem?_getD, List.getElem?_eq_getElem hj]; rfl
  obtain ⟨a, b, c⟩ := hr.row _ _ _ g e1 e2 hg
  obtain ⟨cap, cur', hv, k1, k2, k3, k4, k5, k6⟩ := own_cell a b
  have hcc : cur' = cur := by
    have := k3.symm.trans hb
    simpa using this
  subst hcc
  refine ⟨⟨h.len.x, h.len.p, h.len.g⟩, ⟨rows, gs, ⟨?_, ?_, ?_, hr.nd, ?_, ?_⟩⟩, ?_, h.onil⟩
  · show (putB w g _ _).ownsRow B _ 1 vo (putA s.objs o n v).length rows
    rw [show (putA s.objs o n v).length = s.objs.length by unfold putA; simp]
    refine own_same hr.outer (fun g' hg' _ => putB_ne w ?_ _ _)
    exact own_ne hr.outer hb (by decide) g' hg'
  · intro h0
    have : (putA s.objs o n v).length = 0 := by rw [show putA s.objs o n v = [] from h0]; rfl
    rw [show (putA s.objs o n v).length = s.objs.length by unfold putA; simp] at this
    omega
  · show gs.length = (putA s.objs o n v).length
    rw [show (putA s.objs o n v).length = s.objs.length by unfold putA; simp]; exact hr.lg
  · intro xs hxs
    rcases mem_set_or (show xs ∈ s.objs.set (o.toNat - 1) ((objA s.objs o).set n.toNat v) from hxs) with hm | rfl
    · exact hr.ne xs hm
    · have := hr.ne _ (List.mem_of_getElem? e2)
      intro h0
      have hz : ((objA s.objs o).set n.toNat v).length = 0 := by rw [h0]; rfl
      rw [List.length_set] at hz
      exact this (List.length_eq_zero_iff.1 hz)
  · intro j r xs g' hr' hx hg'
    have hx' : (s.objs.set (o.toNat - 1) ((objA s.objs o).set n.toNat v))[j]? = some xs := hx
    by_cases hjo : o.toNat - 1 = j
    · subst hjo
      rw [List.getElem?_set, if_pos rfl, if_pos hj] at hx'
      obtain rfl := Option.some.inj hx'
      rw [hr'] at e1
      rw [hg] at hg'
      obtain rfl := Option.some.inj hg'
      obtain rfl := Option.some.inj e1
      refine ⟨?_, b, c⟩
      rw [List.length_set, hv]
      have := own_putC (n := (objA s.objs o).length) k3 k6 k1 k2 k4 n.toNat (.int .i64 v) k5
      rw [show i64s ((objA s.objs o).set n.toNat v) = (i64s (objA s.objs o)).set n.toNat (.int .i64 v) by simp]
      exact this
    · rw [List.getElem?_set_ne hjo] at hx'
      obtain ⟨a', b', c'⟩ := hr.row j r xs g' hr' hx' hg'
      refine ⟨own_same a' (fun g2 hg2 _ => putB_ne w ?_ _ _), b', c'⟩
      rw [b'] at hg2
      obtain rfl := Option.some.inj hg2
      rintro rfl
      exact hjo (nodup_inj hr.nd hg hg')
  · exact own_same h.out (fun g' hg' _ => putB_ne w (fun e => c (by rw [hg', e])) _ _)
/-- As they lie for whoever only reads them. -/
theorem own_rowN {w : World} {B n : Nat} {e : TypeId} {v : Value} {cs : List Value} (h : w.ownsRow B e 1 v n cs) (he : e = 2 ∨ e = 32) (h0 : cs = [] → v = .slice none 0 0) : RowN w v cs := ⟨RowAt.of_own h, h0, fun a m c hv => by
  rcases h.2 with ⟨rfl, _⟩ | ⟨g, cap, cur, rfl, _, hg, _⟩
  · simp at hv
  · simp only [Value.slice.injEq, Option.some.injEq] at hv
    obtain ⟨rfl, -, -⟩ := hv
    exact ⟨cur, e, (0, 0), hg, he⟩⟩
theorem Parts.stN {w : World} {B : Nat} {s : PSt} {vo vt : Value} (h : Parts w B s vo vt) : StN w vo vt s := by
  obtain ⟨rows, gs, hr⟩ := h.objs
  have hlr := hr.lr
  refine ⟨h.len, ⟨rows, hlr, own_rowN hr.outer (by decide) (fun h0 => hr.nil (List.length_eq_zero_iff.1 (by rw [← hlr, h0]; rfl))), hr.ne, fun j r xs hj hx => ?_⟩, own_rowN h.out (by decide) (fun h0 => h.onil (by simpa using h0))⟩
  have hlt := (List.getElem?_eq_some_iff.1 hx).1
  have hlg := hr.lg
  obtain ⟨a, _, _⟩ := hr.row j r xs _ hj hx (List.getElem?_eq_getElem (by omega))
  exact own_rowN a (by decide) (fun h0 => absurd (by simpa using h0) (hr.ne xs (List.mem_of_getElem? hx)))
/-- A state's block changes; the rows stay. -/
theorem RowN.putT {w : World} {b : Nat} {v : Value} {cs : List Value} {xs xs' : Array Value} {t t' : TypeId} (h : RowN w v cs) (hb : blk w b xs t) (ht : t ≠ 2 ∧ t ≠ 32) : RowN (putB w b xs' t') v cs := by
  have hne : ∀ (a : Addr) (n c : Nat), v = .slice (some a) n c → a.block ≠ b := fun a n c e => by
    obtain ⟨ys, e', fr, h1, h2⟩ := h.2.2 a n c e
    exact blk_ne h1 hb (h2.elim (fun e => by rw [e]; exact ht.1.symm) (fun e => by rw [e]; exact ht.2.symm))
  refine ⟨?_, h.2.1, fun a n c e => ?_⟩
  · obtain ⟨a, c, rfl, h1, h2, h3⟩ := h.1
    refine ⟨a, c, rfl, h1, h2, h3.imp id ?_⟩
    rintro ⟨b0, o, rfl, hlt, hc⟩
    have := hne ⟨b0, o, none⟩ _ _ rfl
    refine ⟨b0, o, rfl, by rw [putB_size]; exact hlt, fun j x hx => ?_⟩
    rw [World.cell?_of_block (a := ⟨b0, o + j, none⟩) (putB_ne w this _ _)]
    exact hc j x hx
  · obtain ⟨ys, e', fr, h1, h2⟩ := h.2.2 a n c e
    exact ⟨ys, e', fr, by rw [putB_ne w (hne a n c e)]; exact h1, h2⟩
theorem GridN.putT {w : World} {b : Nat} {v : Value} {xss : List (List Int)} {xs xs' : Array Value} {t t' : TypeId} (h : GridN w v xss) (hb : blk w b xs t) (ht : t ≠ 2 ∧ t ≠ 32) : GridN (putB w b xs' t') v xss := by
  obtain ⟨rows, h1, h2, h3, h4⟩ := h
  exact ⟨rows, h1, h2.putT hb ht, h3, fun j r xs hr hx => (h4 j r xs hr hx).putT hb ht⟩
theorem StN.putT {w : World} {b : Nat} {vo vt : Value} {s : PSt} {xs xs' : Array Value} {t t' : TypeId} (h : StN w vo vt s) (hb : blk w b xs t) (ht : t ≠ 2 ∧ t ≠ 32) : StN (putB w b xs' t') vo vt s := ⟨h.len, h.objs.putT hb ht, h.out.putT hb ht⟩
theorem RowN.putS {w : World} {b : Nat} {v : Value} {cs : List Value} {xs xs' : Array Value} (h : RowN w v cs) (hb : blk w b xs 34) : RowN (putB w b xs' 34) v cs := h.putT hb (by decide)
theorem StN.putS {w : World} {b : Nat} {vo vt : Value} {s : PSt} {xs xs' : Array Value} (h : StN w vo vt s) (hb : blk w b xs 34) : StN (putB w b xs' 34) vo vt s := by
  obtain ⟨rows, h1, h2, h3, h4⟩ := h.objs
  exact ⟨h.len, ⟨rows, h1, h2.putS hb, h3, fun j r xs hr hx => (h4 j r xs hr hx).putS hb⟩, h.out.putS hb⟩
/-- A state in a block of its own, and its parts. -/
structure Mem (w : World) (B b : Nat) (s : PSt) (vo vt : Value) : Prop where
  blk : blk w b (stC s vo vt) 34
  hb : B ≤ b
  parts : Parts w B s vo vt
theorem Mem.below {w w' : World} {B b : Nat} {s : PSt} {vo vt : Value} (h : Mem w B b s vo vt) (hb : Below w.heap.size w w') : Mem w' B b s vo vt := ⟨blk_below h.blk hb, h.hb, h.parts.below hb⟩
theorem state_info : (Tryd.prog.info? 34).map (·.size) = some 24 := by kernel_rfl
theorem info64 : (Tryd.prog.info? 2).map (fun i => (i.zero, i.size, i.bytes)) = some (some (.int .i64 0), 1, 8) := by kernel_rfl
theorem infoO : (Tryd.prog.info? 32).map (fun i => (i.zero, i.size, i.bytes)) = some (some (.slice none 0 0), 1, 24) := by kernel_rfl
end Go.Proofs.YtmnoohpkjgjphaaDoor

/- A state's cells; what reads them: isDone, object, hasField, nextPlace, oneIf. -/
namespace Go.Proofs.YtmnoohpkjgjphaaDoor
set_option linter.unusedSimpArgs false
set_option linter.unusedVariables false
open Go.RowKit

abbrev ptr (b : Nat) : Value := .pointer (some ⟨b, 0, none⟩)
section
variable {s : PSt} {vo vt : Value}
theorem stC_x (h : LenS s) (k : Nat) (hk : k < 8) : (stC s vo vt)[k]? = some (.int .i64 (s.x.getD k 0)) := by
  obtain ⟨x0, x1, x2, x3, x4, x5, x6, x7, p0, p1, p2, p3, p4, p5, p6, p7, g0, g1, g2, g3, e⟩ := h.lists
  rw [e, stC_list]
  match k, hk with
  | 0, _ => rfl
  | 1, _ => rfl
  | 2, _ => rfl
  | 3, _ => rfl
  | 4, _ => rfl
  | 5, _ => rfl
  | 6, _ => rfl
  | 7, _ => rfl
theorem stC_p (h : LenS s) (k : Nat) (hk : k < 8) : (stC s vo vt)[8 + k]? = some (.int .i64 (s.p.getD k 0)) := by
  obtain ⟨x0, x1, x2, x3, x4, x5, x6, x7, p0, p1, p2, p3, p4, p5, p6, p7, g0, g1, g2, g3, e⟩ := h.lists
  rw [e, stC_list]
  match k, hk with
  | 0, _ => rfl
  | 1, _ => rfl
  | 2, _ => rfl
  | 3, _ => rfl
  | 4, _ => rfl
  | 5, _ => rfl
  | 6, _ => rfl
  | 7, _ => rfl
theorem stC_g (h : LenS s) (k : Nat) (hk : k < 4) : (stC s vo vt)[16 + k]? = some (.int .i64 (s.g.getD k 0)) := by
  obtain ⟨x0, x1, x2, x3, x4, x5, x6, x7, p0, p1, p2, p3, p4, p5, p6, p7, g0, g1, g2, g3, e⟩ := h.lists
  rw [e, stC_list]
  match k, hk with
  | 0, _ => rfl
  | 1, _ => rfl
  | 2, _ => rfl
  | 3, _ => rfl
theorem stC_rest (h : LenS s) : (stC s vo vt)[20]? = some vo ∧ (stC s vo vt)[21]? = some vt ∧ (stC s vo vt)[22]? = some (.int .i64 s.pc) ∧ (stC s vo vt)[23]? = some (.int .i64 s.steps) := by
  obtain ⟨x0, x1, x2, x3, x4, x5, x6, x7, p0, p1, p2, p3, p4, p5, p6, p7, g0, g1, g2, g3, e⟩ := h.lists
  rw [e, stC_list]
  exact ⟨rfl, rfl, rfl, rfl⟩
theorem arr_ext {a b : Array Value} (h : a.toList = b.toList) : a = b := Array.ext' h
theorem stC_setX (h : LenS s) (k : Nat) (hk : k < 8) (v : Int) : (stC s vo vt).setIfInBounds k (.int .i64 v) = stC { s with x := s.x.set k v } vo vt := by
  obtain ⟨x0, x1, x2, x3, x4, x5, x6, x7, p0, p1, p2, p3, p4, p5, p6, p7, g0, g1, g2, g3, e⟩ := h.lists
  rw [e, stC_list]
  match k, hk with
  | 0, _ => rfl
  | 1, _ => rfl
  | 2, _ => rfl
  | 3, _ => rfl
  | 4, _ => rfl
  | 5, _ => rfl
  | 6, _ => rfl
  | 7, _ => rfl
theorem stC_setP (h : LenS s) (k : Nat) (hk : k < 8) (v : Int) : (stC s vo vt).setIfInBounds (8 + k) (.int .i64 v) = stC { s with p := s.p.set k v } vo vt := by
  obtain ⟨x0, x1, x2, x3, x4, x5, x6, x7, p0, p1, p2, p3, p4, p5, p6, p7, g0, g1, g2, g3, e⟩ := h.lists
  rw [e, stC_list]
  match k, hk with
  | 0, _ => rfl
  | 1, _ => rfl
  | 2, _ => rfl
  | 3, _ => rfl
  | 4, _ => rfl
  | 5, _ => rfl
  | 6, _ => rfl
  | 7, _ => rfl
theorem stC_setG (h : LenS s) (k : Nat) (hk : k < 4) (v : Int) : (stC s vo vt).setIfInBounds (16 + k) (.int .i64 v) = stC { s with g := s.g.set k v } vo vt := by
  obtain ⟨x0, x1, x2, x3, x4, x5, x6, x7, p0, p1, p2, p3, p4, p5, p6, p7, g0, g1, g2, g3, e⟩ := h.lists
  rw [e, stC_list]
  match k, hk with
  | 0, _ => rfl
  | 1, _ => rfl
  | 2, _ => rfl
  | 3, _ => rfl
theorem stC_setO (h : LenS s) (objs : List (List Int)) (vo' : Value) : (stC s vo vt).setIfInBounds 20 vo' = stC { s with objs := objs } vo' vt := by
  obtain ⟨x0, x1, x2, x3, x4, x5, x6, x7, p0, p1, p2, p3, p4, p5, p6, p7, g0, g1, g2, g3, e⟩ := h.lists
  rw [e, stC_list]; rfl
theorem stC_setT (h : LenS s) (out : List Int) (vt' : Value) : (stC s vo vt).setIfInBounds 21 vt' = stC { s with out := out } vo vt' := by
  obtain ⟨x0, x1, x2, x3, x4, x5, x6, x7, p0, p1, p2, p3, p4, p5, p6, p7, g0, g1, g2, g3, e⟩ := h.lists
  rw [e, stC_list]; rfl
theorem stC_setA (h : LenS s) (n : Nat) : (stC s vo vt).setIfInBounds 22 (.int .i64 n) = stC { s with pc := n } vo vt := by
  obtain ⟨x0, x1, x2, x3, x4, x5, x6, x7, p0, p1, p2, p3, p4, p5, p6, p7, g0, g1, g2, g3, e⟩ := h.lists
  rw [e, stC_list]; rfl
theorem stC_setS (h : LenS s) (n : Nat) : (stC s vo vt).setIfInBounds 23 (.int .i64 n) = stC { s with steps := n } vo vt := by
  obtain ⟨x0, x1, x2, x3, x4, x5, x6, x7, p0, p1, p2, p3, p4, p5, p6, p7, g0, g1, g2, g3, e⟩ := h.lists
  rw [e, stC_list]; rfl
end
theorem stC_one (s : PSt) {vo vt : Value} (ho : vo.oneCell' = true) (ht : vt.oneCell' = true) : (stC s vo vt).all (·.oneCell') = true := by
  refine all_oneCell_toArray (fun v hv => ?_)
  rcases List.mem_append.1 hv with h | h
  · obtain ⟨x, _, rfl⟩ := List.mem_map.1 h; rfl
  · simp at h
    rcases h with rfl | rfl | rfl | rfl
    · exact ho
    · exact ht
    · rfl
    · rfl
theorem own_oneCell {w : World} {B n sz : Nat} {e : TypeId} {v : Value} {cs : List Value} (h : w.ownsRow B e sz v n cs) : v.oneCell' = true := by
  rcases h.2 with ⟨rfl, _⟩ | ⟨g, cap, cur, rfl, _⟩ <;> rfl
theorem own_form {w : World} {B n sz : Nat} {e : TypeId} {v : Value} {cs : List Value} (h : w.ownsRow B e sz v n cs) : ∃ a c, v = .slice a n c ∧ n ≤ c ∧ c ≤ 9223372036854775807 := by
  rcases h.2 with ⟨rfl, rfl⟩ | ⟨g, cap, cur, rfl, _, _, h3, h4, _⟩
  · exact ⟨none, 0, rfl, Nat.le_refl _, by omega⟩
  · exact ⟨_, cap, rfl, h3, by unfold maxLen at h4; omega⟩
section
variable {w : World} {B b : Nat} {s : PSt} {vo vt : Value}
theorem Mem.x (h : Mem w B b s vo vt) (k : Nat) (hk : k < 8) : w.cell? ⟨b, k, none⟩ = some (.int .i64 (s.x.getD k 0)) := blk_cell h.blk _ _ (stC_x h.parts.len k hk)
theorem Mem.p (h : Mem w B b s vo vt) (k : Nat) (hk : k < 8) : w.cell? ⟨b, 8 + k, none⟩ = some (.int .i64 (s.p.getD k 0)) := blk_cell h.blk _ _ (stC_p h.parts.len k hk)
theorem Mem.g (h : Mem w B b s vo vt) (k : Nat) (hk : k < 4) : w.cell? ⟨b, 16 + k, none⟩ = some (.int .i64 (s.g.getD k 0)) := blk_cell h.blk _ _ (stC_g h.parts.len k hk)
theorem Mem.rest (h : Mem w B b s vo vt) : w.cell? ⟨b, 20, none⟩ = some vo ∧ w.cell? ⟨b, 21, none⟩ = some vt ∧ w.cell? ⟨b, 22, none⟩ = some (.int .i64 s.pc) ∧ w.cell? ⟨b, 23, none⟩ = some (.int .i64 s.steps) := by
  obtain ⟨a, b', c, d⟩ := stC_rest (vo := vo) (vt := vt) h.parts.len
  exact ⟨blk_cell h.blk _ _ a, blk_cell h.blk _ _ b', blk_cell h.blk _ _ c, blk_cell h.blk _ _ d⟩
/-- The object that a pointer has. -/
theorem Mem.obj (h : Mem w B b s vo vt) {o : Int} (h1 : 1 ≤ o) (h2 : o ≤ s.objs.length) :
    ∃ rows gs g cap cur go co, ObjsOwn w B vo vt s.objs rows gs ∧ gs[o.toNat - 1]? = some g ∧ vo = .slice (some ⟨go, 0, none⟩) s.objs.length co ∧ s.objs.length ≤ co ∧ co ≤ 9223372036854775807 ∧ w.cell? ⟨go, o.toNat - 1, none⟩ = some (.slice (some ⟨g, 0, none⟩) (objA s.objs o).length cap) ∧
      Proofs.YtmnoohpkjgjphaaDoor.blk w g cur 2 ∧ B ≤ g ∧ (objA s.objs o).length ≤ cap ∧ cap ≤ 9223372036854775807 ∧ ∀ k x, (objA s.objs o)[k]? = some x → w.cell? ⟨g, k, none⟩ = some (.int .i64 x) := by
  obtain ⟨rows, gs, hr⟩ := h.parts.objs
  have hlr := hr.lr
  have hlg := hr.lg
  have hj : o.toNat - 1 < s.objs.length := by omega
  obtain ⟨r, e1⟩ : ∃ r, rows[o.toNat - 1]? = some r := ⟨_, List.getElem?_eq_getElem (by omega)⟩
  have e2 : s.objs[o.toNat - 1]? = some (objA s.objs o) := by
    unfold objA; rw [List.getD_eq_getElem?_getD, List.getElem?_eq_getElem hj]; rfl
  obtain ⟨g, e3⟩ : ∃ g, gs[o.toNat - 1]? = some g := ⟨_, List.getElem?_eq_getElem (by omega)⟩
  obtain ⟨a, bb, c⟩ := hr.row _ _ _ _ e1 e2 e3
  obtain ⟨cap, cur, hv, k1, k2, k3, k4, k5, k6⟩ := own_cell a bb
  rcases hr.outer.2 with ⟨_, h0⟩ | ⟨go, co, curo, hvo, ho1, ho2, ho3, ho4, ho5, ho6⟩
  · omega
  · refine ⟨rows, gs, _, cap, cur, go, co, hr, e3, hvo, ho3, by unfold maxLen at ho4; omega, ?_, k3, k6, k1, by unfold maxLen at k2; omega, ?_⟩
    · rw [hv] at e1
      rw [← ho6, List.getElem?_take] at e1
      split at e1
      · refine blk_cell ho2 _ _ ?_
        rw [← Array.getElem?_toList]; exact e1
      · cases e1
    · intro k x hx
      have hk : (i64s (objA s.objs o))[k]? = some (.int .i64 x) := i64s_get hx
      rw [← k5, List.getElem?_take] at hk
      split at hk
      · refine blk_cell k3 _ _ ?_
        rw [← Array.getElem?_toList]; exact hk
      · cases hk
end
set_option maxRecDepth 100000 in
theorem done_n (vp : Value) (p : PProg) (w : World) (B b : Nat) (s : PSt) (vo vt : Value) (r : Bool) (h : ProgAt w vp p) (hm : Mem w B b s vo vt) (hpc : s.pc ≤ 1000000) (hr : decide (s.pc = p.code.length) = r) : Calls Tryd.prog 23 #[vp, ptr b] w (AggPost w (.bool r)) := by
  obtain ⟨vt', vc, rfl, ht, hc⟩ := h
  have hwb : Below w.heap.size w (w.alloc (.cells (progC vt' p vc) 25)) := (Below.refl _ _).alloc (Nat.le_refl _) _
  obtain ⟨x, c, rfl, hl, hcm, -⟩ := id hc
  unfold maxLen at hcm
  have HW := Lib.hid hwb
  obtain ⟨-, -, c22, -⟩ := (hm.below hwb).rest
  have HR := Lib.hid hr
  clear hr ht hc hwb hm
  by_cases he : s.pc = p.code.length
  · have e1 : ((s.pc : Int) == (p.code.length : Int)) = true := by simp [he]
    have HE := Lib.hid he
    clear he
    go_enter Tryd.func23, Tryd.ntmps23
    go_wp2_with (fail)
    go_quiet (fail)
    go_wp2
    go_ret
    exact ⟨ret_bool (by rw [← HR.out, decide_eq_true HE.out]), HW.out.trans ((belowDrewN _ _).mono HW.out.size)⟩
  · have e1 : ((s.pc : Int) == (p.code.length : Int)) = false := by simp; omega
    have HE := Lib.hid he
    clear he
    go_enter Tryd.func23, Tryd.ntmps23
    go_wp2_with (fail)
    go_quiet (fail)
    go_wp2
    go_ret
    exact ⟨ret_bool (by rw [← HR.out, decide_eq_false HE.out]), HW.out.trans ((belowDrewN _ _).mono HW.out.size)⟩
set_option maxRecDepth 100000 in
theorem object_nil (w : World) (B b : Nat) (s : PSt) (vo vt : Value) (a : Nat) (hm : Mem w B b s vo vt) (ha : a < 8) (h0 : s.p.getD a 0 = 0) : Calls Tryd.prog 40 #[ptr b, .int .u8 a] w fun e w' => e = .returned (.slice none 0 0) ∧ w' = w := by
  have ca := hm.p a ha
  rw [h0] at ca
  clear hm h0
  go_enter Tryd.func40, Tryd.ntmps40
  go_wp2
  go_ret
  exact ⟨rfl, rfl⟩
set_option maxRecDepth 100000 in
theorem object_row (w : World) (b : Nat) (s : PSt) (a : Nat) (o : Int) (go g n m co cap : Nat) (ca : w.cell? ⟨b, 8 + a, none⟩ = some (.int .i64 o)) (ha : a < 8) (h1 : 1 ≤ o) (h2 : o ≤ n) (c20 : w.cell? ⟨b, 20, none⟩ = some (.slice (some ⟨go, 0, none⟩) n co))
    (hnc : n ≤ co) (hco : co ≤ 9223372036854775807) (cr : w.cell? ⟨go, o.toNat - 1, none⟩ = some (.slice (some ⟨g, 0, none⟩) m cap)) : Calls Tryd.prog 40 #[ptr b, .int .u8 a] w fun e w' => e = .returned (.slice (some ⟨g, 0, none⟩) m cap) ∧ w' = w := by
  obtain ⟨k, rfl⟩ : ∃ k : Nat, o = (k : Int) + 1 := ⟨(o - 1).toNat, by omega⟩
  rw [show ((k : Int) + 1).toNat - 1 = k by omega] at cr
  clear h1
  go_enter Tryd.func40, Tryd.ntmps40
  go_wp2
  go_ret
  exact ⟨rfl, rfl⟩
end Go.Proofs.YtmnoohpkjgjphaaDoor

/- A state in a block of its own: a cell is set; a slice is appended to. -/
namespace Go.Proofs.YtmnoohpkjgjphaaDoor
set_option linter.unusedSimpArgs false
set_option linter.unusedVariables false
open Go.RowKit

section
variable {w : World} {B b : Nat} {s : PSt} {vo vt : Value}
theorem Mem.lt (h : Mem w B b s vo vt) : B ≤ b ∧ b < w.heap.size := ⟨h.hb, blk_lt h.blk⟩
theorem Mem.setX (h : Mem w B b s vo vt) (k : Nat) (hk : k < 8) (v : Int) : Mem (w.setCell ⟨b, k, none⟩ (.int .i64 v)) B b { s with x := s.x.set k v } vo vt := by
  have hl := h.parts.len
  rw [setCell_putB h.blk]
  exact ⟨by rw [← stC_setX hl k hk v]; exact putB_at h.blk _ _, h.hb, h.parts.putS (t := { s with x := s.x.set k v }) h.blk _ _ ⟨by simp [hl.x], hl.p, hl.g⟩ rfl rfl⟩
theorem Mem.setP (h : Mem w B b s vo vt) (k : Nat) (hk : k < 8) (v : Int) : Mem (w.setCell ⟨b, 8 + k, none⟩ (.int .i64 v)) B b { s with p := s.p.set k v } vo vt := by
  have hl := h.parts.len
  rw [setCell_putB h.blk]
  exact ⟨by rw [← stC_setP hl k hk v]; exact putB_at h.blk _ _, h.hb, h.parts.putS (t := { s with p := s.p.set k v }) h.blk _ _ ⟨hl.x, by simp [hl.p], hl.g⟩ rfl rfl⟩
theorem Mem.setG (h : Mem w B b s vo vt) (k : Nat) (hk : k < 4) (v : Int) : Mem (w.setCell ⟨b, 16 + k, none⟩ (.int .i64 v)) B b { s with g := s.g.set k v } vo vt := by
  have hl := h.parts.len
  rw [setCell_putB h.blk]
  exact ⟨by rw [← stC_setG hl k hk v]; exact putB_at h.blk _ _, h.hb, h.parts.putS (t := { s with g := s.g.set k v }) h.blk _ _ ⟨hl.x, hl.p, by simp [hl.g]⟩ rfl rfl⟩
theorem Mem.setA (h : Mem w B b s vo vt) (n : Nat) : Mem (w.setCell ⟨b, 22, none⟩ (.int .i64 n)) B b { s with pc := n } vo vt := by
  have hl := h.parts.len
  rw [setCell_putB h.blk]
  exact ⟨by rw [← stC_setA hl n]; exact putB_at h.blk _ _, h.hb, h.parts.putS (t := { s with pc := n }) h.blk _ _ ⟨hl.x, hl.p, hl.g⟩ rfl rfl⟩
theorem Mem.setS (h : Mem w B b s vo vt) (n : Nat) : Mem (w.setCell ⟨b, 23, none⟩ (.int .i64 n)) B b { s with steps := n } vo vt := by
  have hl := h.parts.len
  rw [setCell_putB h.blk]
  exact ⟨by rw [← stC_setS hl n]; exact putB_at h.blk _ _, h.hb, h.parts.putS (t := { s with steps := n }) h.blk _ _ ⟨hl.x, hl.p, hl.g⟩ rfl rfl⟩
/-- A field of an object. -/
theorem Mem.setO (h : Mem w B b s vo vt) {o n v : Int} (h1 : 1 ≤ o) (h2 : o ≤ s.objs.length) {rows : List Value} {gs : List Nat} (hr : ObjsOwn w B vo vt s.objs rows gs) {g : Nat} (hg : gs[o.toNat - 1]? = some g) {cur : Array Value} (hb : Proofs.YtmnoohpkjgjphaaDoor.blk w g cur 2) :
    Mem (w.setCell ⟨g, n.toNat, none⟩ (.int .i64 v)) B b (setO s o n v) vo vt := by
  rw [setCell_putB hb]
  refine ⟨?_, h.hb, h.parts.put h1 h2 hr hg hb⟩
  have hne : b ≠ g := blk_ne h.blk hb (by decide)
  unfold Proofs.YtmnoohpkjgjphaaDoor.blk
  rw [putB_ne w hne]
  exact h.blk
/-- Blocks that are neither the state's nor of numbers, nor of slices of them, stay. -/
def FarB (w w' : World) (b : Nat) : Prop := ∀ (g : Nat) (cs : Array Value) (t : TypeId), Proofs.YtmnoohpkjgjphaaDoor.blk w g cs t → g ≠ b → t ≠ 32 → t ≠ 2 → Proofs.YtmnoohpkjgjphaaDoor.blk w' g cs t
theorem FarB.of_below {w w' : World} (hb : Below w.heap.size w w') (b : Nat) : FarB w w' b := fun _ _ _ hg _ _ _ => blk_below hg hb
theorem FarB.trans {w w1 w' : World} {b : Nat} (h : FarB w w1 b) (h' : FarB w1 w' b) : FarB w w' b := fun g cs t hg h1 h2 h3 => h' g cs t (h g cs t hg h1 h2 h3) h1 h2 h3
theorem FarB.drew {w w' : World} {b : Nat} (h : FarB w w' b) : FarB w w'.drew b := h.trans (FarB.of_below (Below.refl _ _).drew b)
theorem FarB.setB {w w' : World} {b j : Nat} {cs0 : Array Value} {t0 : TypeId} {v : Value} (h : FarB w w' b) (hb : Proofs.YtmnoohpkjgjphaaDoor.blk w' b cs0 t0) : FarB w (w'.setCell ⟨b, j, none⟩ v) b := fun g cs t hg h1 h2 h3 => by
  rw [setCell_putB hb]
  unfold Proofs.YtmnoohpkjgjphaaDoor.blk
  rw [putB_ne w' h1]
  exact h g cs t hg h1 h2 h3
theorem FarB.setI {w w' : World} {b g0 j : Nat} {cs0 : Array Value} {v : Value} (h : FarB w w' b) (hb : Proofs.YtmnoohpkjgjphaaDoor.blk w' g0 cs0 2) : FarB w (w'.setCell ⟨g0, j, none⟩ v) b := fun g cs t hg h1 h2 h3 => by
  have := h g cs t hg h1 h2 h3
  rw [setCell_putB hb]
  unfold Proofs.YtmnoohpkjgjphaaDoor.blk
  rw [putB_ne w' (blk_ne this hb h3)]
  exact this
theorem Mem.below' {w' : World} (h : Mem w B b s vo vt) (hb : Below w.heap.size w w') : Mem w' B b s vo vt := h.below hb
/-- A block that an append left as it was. -/
theorem blk_grown {w' : World} {g : Nat} {cs : Array Value} {t : TypeId} {row : Option Nat} (h : Proofs.YtmnoohpkjgjphaaDoor.blk w g cs t) (hg : w.grownBy w' row) (hne : row ≠ some g) : Proofs.YtmnoohpkjgjphaaDoor.blk w' g cs t := by
  unfold Proofs.YtmnoohpkjgjphaaDoor.blk
  rw [hg.block g (blk_lt h) (fun e => hne e.symm)]
  exact h
/-- A number is printed: what append left, before it is stored. -/
theorem parts_out {w' : World} {vt' : Value} {x : Int} (h : Parts w B s vo vt) (ho : w'.ownsRow B 2 1 vt' (s.out.length + 1) (i64s s.out ++ [.int .i64 x])) (hg : w.grownBy w' vt.ownBlock) (hn : vt'.ownBlock = vt.ownBlock ∨ vt'.ownBlock = some w.heap.size) :
    Parts w' B { s with out := s.out ++ [x] } vo vt' := by
  obtain ⟨rows, gs, hr⟩ := h.objs
  refine ⟨⟨h.len.x, h.len.p, h.len.g⟩, ⟨rows, gs, ⟨?_, hr.nil, hr.lg, hr.nd, hr.ne, ?_⟩⟩, ?_, ?_⟩
  · refine own_same hr.outer (fun g hg' hlt => hg.block g hlt (fun e => ?_))
    rcases hr.outer.2 with ⟨hv, _⟩ | ⟨go, co, curo, hvo, _, ho2, _⟩
    · rw [hv] at hg'; cases hg'
    · rw [hvo] at hg'
      obtain rfl := Option.some.inj hg'
      exact own_ne h.out ho2 (by decide) _ e.symm rfl
  · intro j r xs g h1 h2 h3
    obtain ⟨a, b', c⟩ := hr.row j r xs g h1 h2 h3
    refine ⟨own_same a (fun g' hg' hlt => ?_), b', ?_⟩
    · rw [b'] at hg'
      obtain rfl := Option.some.inj hg'
      exact hg.block g hlt (fun e => c e.symm)
    · have hlt := (own_lt a g b').2
      rcases hn with hn | hn
      · rw [hn]; exact c
      · rw [hn]; intro e; have := Option.some.inj e; omega
  · show w'.ownsRow B 2 1 vt' (s.out ++ [x]).length (i64s (s.out ++ [x]))
    rw [List.length_append, show i64s (s.out ++ [x]) = i64s s.out ++ [.int .i64 x] by simp]
    exact ho
  · intro h0
    have : s.out ++ [x] = [] := h0
    simp at this
/-- An object is made: what append left, before it is stored. -/
theorem parts_new {w1 w' : World} {vo' r : Value} {xs : List Int} {rows : List Value} {gs : List Nat} (hp : Parts w1 B s vo vt) (h : ObjsOwn w1 B vo vt s.objs rows gs) (hb : Below w1.heap.size w1 w) (hrow : w.ownsRow B 2 1 r xs.length (i64s xs)) (hrb : r.ownBlock = some w1.heap.size) (h0 : xs ≠ [])
    (ho : w'.ownsRow B 32 1 vo' (s.objs.length + 1) (rows ++ [r])) (hg : w.grownBy w' vo.ownBlock) : Parts w' B { s with objs := s.objs ++ [xs] } vo' vt := by
  have hlr := h.lr
  have hlg := h.lg
  have far : ∀ {n : Nat} {v : Value} {cs : List Value}, w.ownsRow B 2 1 v n cs → w'.ownsRow B 2 1 v n cs := fun {n v cs} ho' => by
    refine own_same ho' (fun g hg' hlt => hg.block g hlt (fun e => ?_))
    rcases h.outer.2 with ⟨hv, _⟩ | ⟨go, co, curo, hvo, _, ho2, _⟩
    · rw [hv] at e; cases e
    · rw [hvo] at e
      obtain rfl := Option.some.inj e
      exact own_ne ho' (show Proofs.YtmnoohpkjgjphaaDoor.blk w g curo 32 from blk_below ho2 hb) (by decide) g hg' rfl
  refine ⟨⟨hp.len.x, hp.len.p, hp.len.g⟩, ⟨rows ++ [r], gs ++ [w1.heap.size], ⟨?_, ?_, ?_, ?_, ?_, ?_⟩⟩, far (own_below hp.out hb), hp.onil⟩
  · show w'.ownsRow B 32 1 vo' (s.objs ++ [xs]).length (rows ++ [r])
    rw [List.length_append]; exact ho
  · intro e
    have : s.objs ++ [xs] = [] := e
    simp at this
  · show (gs ++ [w1.heap.size]).length = (s.objs ++ [xs]).length
    simp [hlg]
  · refine List.nodup_append.2 ⟨h.nd, by simp, fun a ha b' hb' => ?_⟩
    obtain rfl := List.mem_singleton.1 hb'
    obtain ⟨j, r', xs', _, _, _, q1, q2, _⟩ := h.gs_at ha
    have := (own_lt q1 a q2).2
    omega
  · intro ys hys
    rcases List.mem_append.1 (show ys ∈ s.objs ++ [xs] from hys) with hm | hm
    · exact h.ne ys hm
    · rw [List.mem_singleton.1 hm]; exact h0
  · intro j r' ys g e1 e2 e3
    have e2' : (s.objs ++ [xs])[j]? = some ys := e2
    by_cases hj : j < s.objs.length
    · rw [List.getElem?_append_left (by omega)] at e1 e2' e3
      obtain ⟨a, b', c⟩ := h.row j r' ys g e1 e2' e3
      exact ⟨far (own_below a hb), b', c⟩
    · rw [List.getElem?_append_right (by omega)] at e1 e2' e3
      have hj0 : j - rows.length = 0 := by
        have := (List.getElem?_eq_some_iff.1 e1).1
        simp at this; omega
      rw [hj0] at e1
      rw [show j - s.objs.length = 0 by omega] at e2'
      rw [show j - gs.length = 0 by omega] at e3
      simp at e1 e2' e3
      subst e1 e2' e3
      refine ⟨far hrow, hrb, fun e => ?_⟩
      have := (own_lt hp.out _ e).2
      omega
/-- What an append left, stored into the state. -/
theorem Mem.newObj {w' : World} {vo' : Value} {objs : List (List Int)} (h : Proofs.YtmnoohpkjgjphaaDoor.blk w' b (stC s vo vt) 34) (hB : B ≤ b) (hp : Parts w' B { s with objs := objs } vo' vt) : Mem (w'.setCell ⟨b, 20, none⟩ vo') B b { s with objs := objs } vo' vt := by
  have hl : LenS s := ⟨hp.len.x, hp.len.p, hp.len.g⟩
  rw [setCell_putB h]
  exact ⟨by rw [← stC_setO hl objs vo']; exact putB_at h _ _, hB, hp.putS (t := { s with objs := objs }) h _ _ ⟨hl.x, hl.p, hl.g⟩ rfl rfl⟩
theorem Mem.newOut {w' : World} {vt' : Value} {out : List Int} (h : Proofs.YtmnoohpkjgjphaaDoor.blk w' b (stC s vo vt) 34) (hB : B ≤ b) (hp : Parts w' B { s with out := out } vo vt') : Mem (w'.setCell ⟨b, 21, none⟩ vt') B b { s with out := out } vo vt' := by
  have hl : LenS s := ⟨hp.len.x, hp.len.p, hp.len.g⟩
  rw [setCell_putB h]
  exact ⟨by rw [← stC_setT hl out vt']; exact putB_at h _ _, hB, hp.putS (t := { s with out := out }) h _ _ ⟨hl.x, hl.p, hl.g⟩ rfl rfl⟩
end
end Go.Proofs.YtmnoohpkjgjphaaDoor
