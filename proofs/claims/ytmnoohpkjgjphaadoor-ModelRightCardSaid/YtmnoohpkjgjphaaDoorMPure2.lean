/-
  The model, in plain lists: all pointers are nothing, or of objects of their types; runs.
-/
import Derived.Test.YtmnoohpkjgjphaaDoorMPure
namespace Go.Proofs.YtmnoohpkjgjphaaDoor
set_option linter.unusedSimpArgs false
set_option linter.unusedVariables false

/-- A value of a type that is pointed to: nothing, or the number of an object of that type. -/
def PtrOk (ts : List Nat) (v t : Int) : Prop := v = 0 ∨ (1 ≤ v ∧ v ≤ ts.length ∧ ((ts.getD (v.toNat - 1) 0 : Nat) : Int) = t)
theorem PtrOk.more {ts : List Nat} {v t : Int} (h : PtrOk ts v t) (n : Nat) : PtrOk (ts ++ [n]) v t := by
  rcases h with h | ⟨h1, h2, h3⟩
  · exact .inl h
  · refine .inr ⟨h1, by simp; omega, ?_⟩
    rw [← h3, List.getD_eq_getElem?_getD, List.getD_eq_getElem?_getD, List.getElem?_append_left (by omega)]
theorem PtrOk.nil (ts : List Nat) (t : Int) : PtrOk ts 0 t := .inl rfl
theorem PtrOk.range {ts : List Nat} {v t : Int} (h : PtrOk ts v t) : 0 ≤ v ∧ v ≤ ts.length := by
  rcases h with h | ⟨h1, h2, _⟩ <;> omega
def I64 (v : Int) : Prop := -9223372036854775808 ≤ v ∧ v ≤ 9223372036854775807
/-- What is so of all states of a run: ts tells each object's type. -/
structure InvS (q : PProg) (s : PSt) (ts : List Nat) : Prop where
  lx : s.x.length = 8
  lp : s.p.length = 8
  lg : s.g.length = 4
  lo : s.objs.length = ts.length
  lt : ∀ t ∈ ts, t < q.types.length
  ix : ∀ v ∈ s.x, I64 v
  iw : ∀ v ∈ s.out, I64 v
  pl : ∀ a : Nat, a < q.locals.length → PtrOk ts (s.p.getD a 0) (localI q a)
  pn : ∀ a : Nat, q.locals.length ≤ a → s.p.getD a 0 = 0
  gl : ∀ a : Nat, a < q.globs.length → PtrOk ts (s.g.getD a 0) (globI q a)
  gn : ∀ a : Nat, q.globs.length ≤ a → s.g.getD a 0 = 0
  os : ∀ k : Nat, k < ts.length → ((s.objs.getD k []).length : Int) = sizeP q.types (ts.getD k 0)
  ov : ∀ k : Nat, k < ts.length → ∀ v ∈ s.objs.getD k [], I64 v
  op : ∀ k : Nat, k < ts.length → ∀ f : Nat, 0 ≤ toP q.types (ts.getD k 0) f → PtrOk ts ((s.objs.getD k []).getD f 0) (toP q.types (ts.getD k 0) f)
theorem getD_set {α : Type} {l : List α} {k j : Nat} {v d : α} : (l.set k v).getD j d = if k = j ∧ k < l.length then v else l.getD j d := by
  rw [List.getD_eq_getElem?_getD, List.getElem?_set]
  by_cases h : k = j
  · subst h
    by_cases h2 : k < l.length
    · simp [h2]
    · simp [h2, List.getD_eq_getElem?_getD, List.getElem?_eq_none (Nat.le_of_not_lt h2)]
  · simp [h, List.getD_eq_getElem?_getD]
theorem getD_app {α : Type} {l : List α} {j : Nat} {v d : α} : (l ++ [v]).getD j d = if j < l.length then l.getD j d else if j = l.length then v else d := by
  rw [List.getD_eq_getElem?_getD]
  by_cases h : j < l.length
  · rw [if_pos h, List.getElem?_append_left h, List.getD_eq_getElem?_getD]
  · rw [if_neg h, List.getElem?_append_right (by omega)]
    by_cases h2 : j = l.length
    · subst h2; simp
    · rw [if_neg h2, List.getElem?_eq_none (by simp; omega)]; rfl
theorem getD_mem' {α : Type} {l : List α} {j : Nat} {d : α} (h : j < l.length) : l.getD j d ∈ l := by
  rw [List.getD_eq_getElem?_getD, List.getElem?_eq_getElem h]; exact List.getElem_mem h
theorem getD_rep {α : Type} {n j : Nat} {v : α} : (List.replicate n v).getD j v = v := by
  rw [List.getD_eq_getElem?_getD, List.getElem?_replicate]; split <;> rfl
theorem mem_set_or {α : Type} {l : List α} {k : Nat} {v u : α} (h : u ∈ l.set k v) : u ∈ l ∨ u = v := List.mem_or_eq_of_mem_set h
theorem inv_0 (q : PProg) : InvS q st0 [] := by
  refine ⟨rfl, rfl, rfl, rfl, by simp, ?_, by simp [st0], fun a _ => ?_, fun a _ => ?_, fun a _ => ?_, fun a _ => ?_, fun k h => by simp at h, fun k h => by simp at h, fun k h => by simp at h⟩
  · intro v hv
    have : v ∈ List.replicate 8 (0 : Int) := hv
    rw [(List.mem_replicate.1 this).2]; unfold I64; omega
  · rw [show st0.p.getD a 0 = 0 from getD_rep]; exact .inl rfl
  · exact getD_rep
  · rw [show st0.g.getD a 0 = 0 from getD_rep]; exact .inl rfl
  · exact getD_rep
theorem inv_on {q : PProg} {s : PSt} {ts : List Nat} (h : InvS q s ts) : InvS q (onI s) ts := ⟨h.lx, h.lp, h.lg, h.lo, h.lt, h.ix, h.iw, h.pl, h.pn, h.gl, h.gn, h.os, h.ov, h.op⟩
theorem inv_pc {q : PProg} {s : PSt} {ts : List Nat} (h : InvS q s ts) (n : Nat) : InvS q { s with pc := n } ts := ⟨h.lx, h.lp, h.lg, h.lo, h.lt, h.ix, h.iw, h.pl, h.pn, h.gl, h.gn, h.os, h.ov, h.op⟩
theorem inv_x {q : PProg} {s : PSt} {ts : List Nat} (h : InvS q s ts) {a v : Int} (hv : I64 v) : InvS q (setX s a v) ts :=
  ⟨by simp [setX, h.lx], h.lp, h.lg, h.lo, h.lt, fun u hu => by
    rcases mem_set_or hu with hu | rfl
    · exact h.ix u hu
    · exact hv, h.iw, h.pl, h.pn, h.gl, h.gn, h.os, h.ov, h.op⟩
theorem inv_out {q : PProg} {s : PSt} {ts : List Nat} (h : InvS q s ts) {v : Int} (hv : I64 v) : InvS q { s with out := s.out ++ [v] } ts :=
  ⟨h.lx, h.lp, h.lg, h.lo, h.lt, h.ix, fun u hu => by
    rcases List.mem_append.1 hu with hu | hu
    · exact h.iw u hu
    · simp at hu; subst hu; exact hv, h.pl, h.pn, h.gl, h.gn, h.os, h.ov, h.op⟩
theorem inv_p {q : PProg} {s : PSt} {ts : List Nat} (h : InvS q s ts) {a v : Int} (h0 : 0 ≤ a) (ha : a < q.locals.length) (hv : PtrOk ts v (localI q a)) : InvS q (setP s a v) ts := by
  refine ⟨h.lx, by simp [setP, h.lp], h.lg, h.lo, h.lt, h.ix, h.iw, fun b hb => ?_, fun b hb => ?_, h.gl, h.gn, h.os, h.ov, h.op⟩
  · show PtrOk ts ((s.p.set a.toNat v).getD b 0) _
    rw [getD_set]
    split
    · next e => rw [← e.1, Int.toNat_of_nonneg h0]; exact hv
    · exact h.pl b hb
  · show (s.p.set a.toNat v).getD b 0 = 0
    rw [getD_set, if_neg (by omega)]; exact h.pn b hb
theorem inv_g {q : PProg} {s : PSt} {ts : List Nat} (h : InvS q s ts) {a v : Int} (h0 : 0 ≤ a) (ha : a < q.globs.length) (hv : PtrOk ts v (globI q a)) : InvS q (setG s a v) ts := by
  refine ⟨h.lx, h.lp, by simp [setG, h.lg], h.lo, h.lt, h.ix, h.iw, h.pl, h.pn, fun b hb => ?_, fun b hb => ?_, h.os, h.ov, h.op⟩
  · show PtrOk ts ((s.g.set a.toNat v).getD b 0) _
    rw [getD_set]
    split
    · next e => rw [← e.1, Int.toNat_of_nonneg h0]; exact hv
    · exact h.gl b hb
  · show (s.g.set a.toNat v).getD b 0 = 0
    rw [getD_set, if_neg (by omega)]; exact h.gn b hb
/-- A new object. -/
theorem inv_new {q : PProg} {s : PSt} {ts : List Nat} (h : InvS q s ts) {t : Nat} (ht : t < q.types.length) (hr : rightB (tsP q.types) = true) : InvS q { s with objs := s.objs ++ [List.replicate (sizeP q.types t).toNat 0] } (ts ++ [t]) := by
  refine ⟨h.lx, h.lp, h.lg, by simp [h.lo], fun u hu => ?_, h.ix, h.iw, fun a ha => (h.pl a ha).more t, h.pn, fun a ha => (h.gl a ha).more t, h.gn, fun k hk => ?_, fun k hk v hv => ?_, fun k hk f hf => ?_⟩
  · rcases List.mem_append.1 hu with hu | hu
    · exact h.lt u hu
    · simp at hu; subst hu; exact ht
  · simp only [List.length_append, List.length_cons, List.length_nil] at hk
    show (((s.objs ++ [List.replicate (sizeP q.types t).toNat 0]).getD k []).length : Int) = _
    rw [getD_app, getD_app, h.lo]
    by_cases hk2 : k < ts.length
    · rw [if_pos hk2, if_pos hk2]; exact h.os k hk2
    · obtain rfl : k = ts.length := by omega
      simp
      have := (sizeP_one hr ht).2.1
      omega
  · simp only [List.length_append, List.length_cons, List.length_nil] at hk
    have hv' : v ∈ (s.objs ++ [List.replicate (sizeP q.types t).toNat 0]).getD k [] := hv
    rw [getD_app, h.lo] at hv'
    by_cases hk2 : k < ts.length
    · rw [if_pos hk2] at hv'; exact h.ov k hk2 v hv'
    · obtain rfl : k = ts.length := by omega
      simp at hv'
      rw [hv'.2]; unfold I64; omega
  · simp only [List.length_append, List.length_cons, List.length_nil] at hk
    show PtrOk _ (((s.objs ++ [List.replicate (sizeP q.types t).toNat 0]).getD k []).getD f 0) _
    rw [getD_app, h.lo]
    rw [getD_app] at hf ⊢
    by_cases hk2 : k < ts.length
    · rw [if_pos hk2] at hf ⊢
      rw [if_pos hk2]
      exact (h.op k hk2 f hf).more t
    · obtain rfl : k = ts.length := by omega
      rw [if_neg (by omega), if_pos rfl, getD_rep]
      exact .inl rfl
/-- A field is put. -/
theorem inv_put {q : PProg} {s : PSt} {ts : List Nat} (h : InvS q s ts) {o n v : Int} (h1 : 1 ≤ o) (_h2 : o ≤ ts.length) (h3 : 0 ≤ n) (hv : I64 v) (hp : 0 ≤ toP q.types (ts.getD (o.toNat - 1) 0) n → PtrOk ts v (toP q.types (ts.getD (o.toNat - 1) 0) n)) : InvS q (setO s o n v) ts := by
  have hg : ∀ k : Nat, (setO s o n v).objs.getD k [] = if o.toNat - 1 = k ∧ o.toNat - 1 < s.objs.length then (objA s.objs o).set n.toNat v else s.objs.getD k [] := fun k => by
    show (putA s.objs o n v).getD k [] = _
    unfold putA; rw [getD_set]
  refine ⟨h.lx, h.lp, h.lg, by simp [setO, putA, h.lo], h.lt, h.ix, h.iw, h.pl, h.pn, h.gl, h.gn, fun k hk => ?_, fun k hk u hu => ?_, fun k hk f hf => ?_⟩
  · rw [hg]
    split
    · next e =>
      rw [List.length_set, ← e.1]
      exact h.os _ (by omega)
    · exact h.os k hk
  · rw [hg] at hu
    split at hu
    · next e =>
      rcases mem_set_or hu with hu | rfl
      · exact h.ov (o.toNat - 1) (by omega) u hu
      · exact hv
    · exact h.ov k hk u hu
  · rw [hg]
    split
    · next e =>
      rw [getD_set]
      rw [← e.1] at hf ⊢
      split
      · next e2 =>
        have : (f : Int) = n := by omega
        rw [this] at hf ⊢
        exact hp hf
      · exact h.op (o.toNat - 1) (by omega) f hf
    · exact h.op k hk f hf
end Go.Proofs.YtmnoohpkjgjphaaDoor
