/-
  The model, in plain lists: a state, a step, a run; what is so of all states of a run.
  The model, in plain lists: all pointers are nothing, or of objects of their types; runs.
  The model, in plain lists: what a step keeps.
  The model, in plain lists: states of a run; more fuel.
-/
import Derived.Test.YtapjgobkpehgfaaGreatDoorUAF

/- The model, in plain lists: a state, a step, a run; what is so of all states of a run. -/
namespace Go.Proofs.YtapjgobkpehgfaaGreatDoor
set_option linter.unusedSimpArgs false
set_option linter.unusedVariables false

structure PSt where
  x : List Int
  p : List Int
  g : List Int
  objs : List (List Int)
  out : List Int
  pc : Nat
  steps : Nat
def st0 : PSt := ⟨List.replicate 8 0, List.replicate 8 0, List.replicate 4 0, [], [], 0, 0⟩
def wr64 (n : Int) : Int := (n + 9223372036854775808) % 18446744073709551616 - 9223372036854775808
def xA (s : PSt) (a : Int) : Int := s.x.getD a.toNat 0
def pA (s : PSt) (a : Int) : Int := s.p.getD a.toNat 0
def gA (s : PSt) (a : Int) : Int := s.g.getD a.toNat 0
/-- An object's fields. -/
def objA (l : List (List Int)) (o : Int) : List Int := l.getD (o.toNat - 1) []
def fldA (l : List (List Int)) (o n : Int) : Int := (objA l o).getD n.toNat 0
def putA (l : List (List Int)) (o n v : Int) : List (List Int) := l.set (o.toNat - 1) ((objA l o).set n.toNat v)
def setX (s : PSt) (a v : Int) : PSt := { s with x := s.x.set a.toNat v }
def setP (s : PSt) (a v : Int) : PSt := { s with p := s.p.set a.toNat v }
def setG (s : PSt) (a v : Int) : PSt := { s with g := s.g.set a.toNat v }
def setO (s : PSt) (o n v : Int) : PSt := { s with objs := putA s.objs o n v }
/-- What an instruction makes of a state whose place and count are counted on already; nothing: a pointer to nothing was followed. -/
def doI (q : PProg) (s : PSt) (i : PIns) : Option PSt :=
  if i.op = 1 then some (setX s i.a i.n)
  else if i.op = 2 then some (setX s i.a (wr64 (xA s i.b + xA s i.c)))
  else if i.op = 3 then some { s with pc := i.n.toNat }
  else if i.op = 4 then some (if xA s i.a = 0 then { s with pc := i.n.toNat } else s)
  else if i.op = 5 then some (setP { s with objs := s.objs ++ [List.replicate (sizeP q.types (localI q i.a)).toNat 0] } i.a (s.objs.length + 1))
  else if i.op = 6 then some (setP s i.a 0)
  else if i.op = 7 then some (setP s i.a (pA s i.b))
  else if i.op = 8 then if pA s i.b = 0 then none else some (setX s i.a (fldA s.objs (pA s i.b) i.n))
  else if i.op = 9 then if pA s i.a = 0 then none else some (setO s (pA s i.a) i.n (xA s i.b))
  else if i.op = 10 then if pA s i.b = 0 then none else some (setP s i.a (fldA s.objs (pA s i.b) i.n))
  else if i.op = 11 then if pA s i.a = 0 then none else some (setO s (pA s i.a) i.n (pA s i.b))
  else if i.op = 12 then some (setP s i.a (gA s i.b))
  else if i.op = 13 then some (setG s i.a (pA s i.b))
  else if i.op = 14 then some { s with out := s.out ++ [xA s i.a] }
  else some (setX s i.a (if pA s i.b = pA s i.c then 1 else 0))
def onI (s : PSt) : PSt := { s with pc := s.pc + 1, steps := s.steps + 1 }
def stepL (q : PProg) (s : PSt) : PSt × Bool × Nat :=
  if (checkL q).2 ≠ 0 ∨ q.code.length < s.pc then (s, false, 2)
  else match q.code[s.pc]? with
    | none => (s, true, 0)
    | some i => match doI q (onI s) i with
      | none => (s, false, 9)
      | some t => (t, false, 0)
theorem step_bad {q : PProg} {s : PSt} (h : (checkL q).2 ≠ 0) : stepL q s = (s, false, 2) := by unfold stepL; rw [if_pos (.inl h)]
theorem step_end {q : PProg} {s : PSt} (h : (checkL q).2 = 0) (hp : s.pc = q.code.length) : stepL q s = (s, true, 0) := by
  unfold stepL
  rw [if_neg (by omega), List.getElem?_eq_none (by omega)]
theorem step_at {q : PProg} {s : PSt} {i : PIns} (h : (checkL q).2 = 0) (hi : q.code[s.pc]? = some i) : stepL q s = match doI q (onI s) i with
    | none => (s, false, 9)
    | some t => (t, false, 0) := by
  have hlt := (List.getElem?_eq_some_iff.1 hi).1
  unfold stepL
  rw [if_neg (by omega), hi]
theorem step_cases {q : PProg} {s : PSt} (h : (checkL q).2 = 0) (hp : s.pc ≤ q.code.length) :
    (s.pc = q.code.length ∧ stepL q s = (s, true, 0)) ∨ ∃ i, q.code[s.pc]? = some i ∧ i ∈ q.code ∧ ((doI q (onI s) i = none ∧ stepL q s = (s, false, 9)) ∨ ∃ t, doI q (onI s) i = some t ∧ stepL q s = (t, false, 0)) := by
  by_cases he : s.pc = q.code.length
  · exact .inl ⟨he, step_end h he⟩
  · have hlt : s.pc < q.code.length := by omega
    refine .inr ⟨_, List.getElem?_eq_getElem hlt, List.getElem_mem hlt, ?_⟩
    have := step_at h (List.getElem?_eq_getElem hlt)
    rcases hd : doI q (onI s) q.code[s.pc] with _ | t
    · rw [hd] at this; exact .inl ⟨rfl, this⟩
    · rw [hd] at this; exact .inr ⟨t, rfl, this⟩
section
variable {q : PProg} {s : PSt} {i : PIns}
theorem doI_1 (h : i.op = 1) : doI q s i = some (setX s i.a i.n) := by unfold doI; rw [h]; rfl
theorem doI_2 (h : i.op = 2) : doI q s i = some (setX s i.a (wr64 (xA s i.b + xA s i.c))) := by unfold doI; rw [h]; rfl
theorem doI_3 (h : i.op = 3) : doI q s i = some { s with pc := i.n.toNat } := by unfold doI; rw [h]; rfl
theorem doI_4 (h : i.op = 4) : doI q s i = some (if xA s i.a = 0 then { s with pc := i.n.toNat } else s) := by unfold doI; rw [h]; rfl
theorem doI_5 (h : i.op = 5) : doI q s i = some (setP { s with objs := s.objs ++ [List.replicate (sizeP q.types (localI q i.a)).toNat 0] } i.a (s.objs.length + 1)) := by unfold doI; rw [h]; rfl
theorem doI_6 (h : i.op = 6) : doI q s i = some (setP s i.a 0) := by unfold doI; rw [h]; rfl
theorem doI_7 (h : i.op = 7) : doI q s i = some (setP s i.a (pA s i.b)) := by unfold doI; rw [h]; rfl
theorem doI_8 (h : i.op = 8) : doI q s i = if pA s i.b = 0 then none else some (setX s i.a (fldA s.objs (pA s i.b) i.n)) := by unfold doI; rw [h]; rfl
theorem doI_9 (h : i.op = 9) : doI q s i = if pA s i.a = 0 then none else some (setO s (pA s i.a) i.n (xA s i.b)) := by unfold doI; rw [h]; rfl
theorem doI_10 (h : i.op = 10) : doI q s i = if pA s i.b = 0 then none else some (setP s i.a (fldA s.objs (pA s i.b) i.n)) := by unfold doI; rw [h]; rfl
theorem doI_11 (h : i.op = 11) : doI q s i = if pA s i.a = 0 then none else some (setO s (pA s i.a) i.n (pA s i.b)) := by unfold doI; rw [h]; rfl
theorem doI_12 (h : i.op = 12) : doI q s i = some (setP s i.a (gA s i.b)) := by unfold doI; rw [h]; rfl
theorem doI_13 (h : i.op = 13) : doI q s i = some (setG s i.a (pA s i.b)) := by unfold doI; rw [h]; rfl
theorem doI_14 (h : i.op = 14) : doI q s i = some { s with out := s.out ++ [xA s i.a] } := by unfold doI; rw [h]; rfl
theorem doI_15 (h : i.op = 15) : doI q s i = some (setX s i.a (if pA s i.b = pA s i.c then 1 else 0)) := by unfold doI; rw [h]; rfl
end
/-- What a step keeps, and how it grows. -/
theorem doI_grow {q : PProg} {s t : PSt} {i : PIns} (hop : i.op = 1 ∨ i.op = 2 ∨ i.op = 3 ∨ i.op = 4 ∨ i.op = 5 ∨ i.op = 6 ∨ i.op = 7 ∨ i.op = 8 ∨ i.op = 9 ∨ i.op = 10 ∨ i.op = 11 ∨ i.op = 12 ∨ i.op = 13 ∨ i.op = 14 ∨ i.op = 15) (h : doI q s i = some t) : t.steps = s.steps ∧ t.x.length = s.x.length ∧ t.p.length = s.p.length ∧ t.g.length = s.g.length ∧ (t.pc = s.pc ∨ t.pc = i.n.toNat) ∧
    (t.objs.length = s.objs.length + if i.op = 5 then 1 else 0) ∧ (if i.op = 14 then t.out = s.out ++ [xA s i.a] else t.out = s.out) := by
  rcases hop with e | e | e | e | e | e | e | e | e | e | e | e | e | e | e
  · rw [doI_1 e] at h
    obtain rfl := Option.some.inj h
    rw [if_neg (show ¬ i.op = 5 by omega), if_neg (show ¬ i.op = 14 by omega)]
    simp [setX, setP, setG]
  · rw [doI_2 e] at h
    obtain rfl := Option.some.inj h
    rw [if_neg (show ¬ i.op = 5 by omega), if_neg (show ¬ i.op = 14 by omega)]
    simp [setX, setP, setG]
  · rw [doI_3 e] at h
    obtain rfl := Option.some.inj h
    rw [if_neg (show ¬ i.op = 5 by omega), if_neg (show ¬ i.op = 14 by omega)]
    simp [setX, setP, setG]
  · rw [doI_4 e] at h
    obtain rfl := Option.some.inj h
    rw [if_neg (show ¬ i.op = 5 by omega), if_neg (show ¬ i.op = 14 by omega)]
    split <;> simp
  · rw [doI_5 e] at h
    obtain rfl := Option.some.inj h
    rw [if_pos e, if_neg (show ¬ i.op = 14 by omega)]
    simp [setP]
  · rw [doI_6 e] at h
    obtain rfl := Option.some.inj h
    rw [if_neg (show ¬ i.op = 5 by omega), if_neg (show ¬ i.op = 14 by omega)]
    simp [setX, setP, setG]
  · rw [doI_7 e] at h
    obtain rfl := Option.some.inj h
    rw [if_neg (show ¬ i.op = 5 by omega), if_neg (show ¬ i.op = 14 by omega)]
    simp [setX, setP, setG]
  · rw [doI_8 e] at h
    split at h
    · cases h
    · obtain rfl := Option.some.inj h; rw [if_neg (show ¬ i.op = 5 by omega), if_neg (show ¬ i.op = 14 by omega)]; simp [setX, setP, setO, putA]
  · rw [doI_9 e] at h
    split at h
    · cases h
    · obtain rfl := Option.some.inj h; rw [if_neg (show ¬ i.op = 5 by omega), if_neg (show ¬ i.op = 14 by omega)]; simp [setX, setP, setO, putA]
  · rw [doI_10 e] at h
    split at h
    · cases h
    · obtain rfl := Option.some.inj h; rw [if_neg (show ¬ i.op = 5 by omega), if_neg (show ¬ i.op = 14 by omega)]; simp [setX, setP, setO, putA]
  · rw [doI_11 e] at h
    split at h
    · cases h
    · obtain rfl := Option.some.inj h; rw [if_neg (show ¬ i.op = 5 by omega), if_neg (show ¬ i.op = 14 by omega)]; simp [setX, setP, setO, putA]
  · rw [doI_12 e] at h
    obtain rfl := Option.some.inj h
    rw [if_neg (show ¬ i.op = 5 by omega), if_neg (show ¬ i.op = 14 by omega)]
    simp [setX, setP, setG]
  · rw [doI_13 e] at h
    obtain rfl := Option.some.inj h
    rw [if_neg (show ¬ i.op = 5 by omega), if_neg (show ¬ i.op = 14 by omega)]
    simp [setX, setP, setG]
  · rw [doI_14 e] at h
    obtain rfl := Option.some.inj h
    rw [if_neg (show ¬ i.op = 5 by omega), if_pos e]
    simp
  · rw [doI_15 e] at h
    obtain rfl := Option.some.inj h
    rw [if_neg (show ¬ i.op = 5 by omega), if_neg (show ¬ i.op = 14 by omega)]
    simp [setX, setP, setG]
end Go.Proofs.YtapjgobkpehgfaaGreatDoor

/- The model, in plain lists: all pointers are nothing, or of objects of their types; runs. -/
namespace Go.Proofs.YtapjgobkpehgfaaGreatDoor
set_option linter.unusedSimpArgs false
set_option linter.unusedVariables false

/-- A value of a type that is pointed to: nothing, or the number of an object of that type. -/
def PtrOk (ts : List Nat) (v t : Int) : Prop := v = 0 ∨ (1 ≤ v ∧ v ≤ ts.length ∧ ((ts.getD (v.toNat - 1) 0 : Nat) : Int) = t)
theorem PtrOk.more {ts : List Nat} {v t : Int} (h : PtrOk ts v t) (n : Nat) : PtrOk (ts ++ [n]) v t := by
  rcases h with h | ⟨h1, h2, h3⟩
  · exact .inl h
  · refine .inr ⟨h1, by simp; omega, ?_⟩
    rw [← h3, List.getD_eq_getElem?_getD, List.getD_eq_getElem?_getD, List.getElem?_append_left (by omega)]
theorem PtrOk.nil (ts : List Nat) (t : Int) : PtrOk ts 0 t := .inl rfl
theorem PtrOk.range {ts : List Nat} {v t : Int} (h : PtrOk ts v t) : 0 ≤ v ∧ v ≤ ts.length := by
  rcases h with h | ⟨h1, h2, _⟩ <;> omega
def I64 (v : Int) : Prop := -9223372036854775808 ≤ v ∧ v ≤ 9223372036854775807
/-- What is so of all states of a run: ts tells each object's type. -/
structure InvS (q : PProg) (s : PSt) (ts : List Nat) : Prop where
  lx : s.x.length = 8
  lp : s.p.length = 8
  lg : s.g.length = 4
  lo : s.objs.length = ts.length
  lt : ∀ t ∈ ts, t < q.types.length
  ix : ∀ v ∈ s.x, I64 v
  iw : ∀ v ∈ s.out, I64 v
  pl : ∀ a : Nat, a < q.locals.length → PtrOk ts (s.p.getD a 0) (localI q a)
  pn : ∀ a : Nat, q.locals.length ≤ a → s.p.getD a 0 = 0
  gl : ∀ a : Nat, a < q.globs.length → PtrOk ts (s.g.getD a 0) (globI q a)
  gn : ∀ a : Nat, q.globs.length ≤ a → s.g.getD a 0 = 0
  os : ∀ k : Nat, k < ts.length → ((s.objs.getD k []).length : Int) = sizeP q.types (ts.getD k 0)
  ov : ∀ k : Nat, k < ts.length → ∀ v ∈ s.objs.getD k [], I64 v
  op : ∀ k : Nat, k < ts.length → ∀ f : Nat, 0 ≤ toP q.types (ts.getD k 0) f → PtrOk ts ((s.objs.getD k []).getD f 0) (toP q.types (ts.getD k 0) f)
theorem getD_set {α : Type} {l : List α} {k j : Nat} {v d : α} : (l.set k v).getD j d = if k = j ∧ k < l.length then v else l.getD j d := by
  rw [List.getD_eq_getElem?_getD, List.getElem?_set]
  by_cases h : k = j
  · subst h
    by_cases h2 : k < l.length
    · simp [h2]
    · simp [h2, List.getD_eq_getElem?_getD, List.getElem?_eq_none (Nat.le_of_not_lt h2)]
  · simp [h, List.getD_eq_getElem?_getD]
theorem getD_app {α : Type} {l : List α} {j : Nat} {v d : α} : (l ++ [v]).getD j d = if j < l.length then l.getD j d else if j = l.length then v else d := by
  rw [List.getD_eq_getElem?_getD]
  by_cases h : j < l.length
  · rw [if_pos h, List.getElem?_append_left h, List.getD_eq_getElem?_getD]
  · rw [if_neg h, List.getElem?_append_right (by omega)]
    by_cases h2 : j = l.length
    · subst h2; simp
    · rw [if_neg h2, List.getElem?_eq_none (by simp; omega)]; rfl
theorem getD_mem' {α : Type} {l : List α} {j : Nat} {d : α} (h : j < l.length) : l.getD j d ∈ l := by
  rw [List.getD_eq_getElem?_getD, List.getElem?_eq_getElem h]; exact List.getElem_mem h
theorem getD_rep {α : Type} {n j : Nat} {v : α} : (List.replicate n v).getD j v = v := by
  rw [List.getD_eq_getElem?_getD, List.getElem?_replicate]; split <;> rfl
theorem mem_set_or {α : Type} {l : List α} {k : Nat} {v u : α} (h : u ∈ l.set k v) : u ∈ l ∨ u = v := List.mem_or_eq_of_mem_set h
theorem inv_0 (q : PProg) : InvS q st0 [] := by
  refine ⟨rfl, rfl, rfl, rfl, by simp, ?_, by simp [st0], fun a _ => ?_, fun a _ => ?_, fun a _ => ?_, fun a _ => ?_, fun k h => by simp at h, fun k h => by simp at h, fun k h => by simp at h⟩
  · intro v hv
    have : v ∈ List.replicate 8 (0 : Int) := hv
    rw [(List.mem_replicate.1 this).2]; unfold I64; omega
  · rw [show st0.p.getD a 0 = 0 from getD_rep]; exact .inl rfl
  · exact getD_rep
  · rw [show st0.g.getD a 0 = 0 from getD_rep]; exact .inl rfl
  · exact getD_rep
theorem inv_on {q : PProg} {s : PSt} {ts : List Nat} (h : InvS q s ts) : InvS q (onI s) ts := ⟨h.lx, h.lp, h.lg, h.lo, h.lt, h.ix, h.iw, h.pl, h.pn, h.gl, h.gn, h.os, h.ov, h.op⟩
theorem inv_pc {q : PProg} {s : PSt} {ts : List Nat} (h : InvS q s ts) (n : Nat) : InvS q { s with pc := n } ts := ⟨h.lx, h.lp, h.lg, h.lo, h.lt, h.ix, h.iw, h.pl, h.pn, h.gl, h.gn, h.os, h.ov, h.op⟩
theorem inv_x {q : PProg} {s : PSt} {ts : List Nat} (h : InvS q s ts) {a v : Int} (hv : I64 v) : InvS q (setX s a v) ts :=
  ⟨by simp [setX, h.lx], h.lp, h.lg, h.lo, h.lt, fun u hu => by
    rcases mem_set_or hu with hu | rfl
    · exact h.ix u hu
    · exact hv, h.iw, h.pl, h.pn, h.gl, h.gn, h.os, h.ov, h.op⟩
theorem inv_out {q : PProg} {s : PSt} {ts : List Nat} (h : InvS q s ts) {v : Int} (hv : I64 v) : InvS q { s with out := s.out ++ [v] } ts :=
  ⟨h.lx, h.lp, h.lg, h.lo, h.lt, h.ix, fun u hu => by
    rcases List.mem_append.1 hu with hu | hu
    · exact h.iw u hu
    · simp at hu; subst hu; exact hv, h.pl, h.pn, h.gl, h.gn, h.os, h.ov, h.op⟩
theorem inv_p {q : PProg} {s : PSt} {ts : List Nat} (h : InvS q s ts) {a v : Int} (h0 : 0 ≤ a) (ha : a < q.locals.length) (hv : PtrOk ts v (localI q a)) : InvS q (setP s a v) ts := by
  refine ⟨h.lx, by simp [setP, h.lp], h.lg, h.lo, h.lt, h.ix, h.iw, fun b hb => ?_, fun b hb => ?_, h.gl, h.gn, h.os, h.ov, h.op⟩
  · show PtrOk ts ((s.p.set a.toNat v).getD b 0) _
    rw [getD_set]
    split
    · next e => rw [← e.1, Int.toNat_of_nonneg h0]; exact hv
    · exact h.pl b hb
  · show (s.p.set a.toNat v).getD b 0 = 0
    rw [getD_set, if_neg (by omega)]; exact h.pn b hb
theorem inv_g {q : PProg} {s : PSt} {ts : List Nat} (h : InvS q s ts) {a v : Int} (h0 : 0 ≤ a) (ha : a < q.globs.length) (hv : PtrOk ts v (globI q a)) : InvS q (setG s a v) ts := by
  refine ⟨h.lx, h.lp, by simp [setG, h.lg], h.lo, h.lt, h.ix, h.iw, h.pl, h.pn, fun b hb => ?_, fun b hb => ?_, h.os, h.ov, h.op⟩
  · show PtrOk ts ((s.g.set a.toNat v).getD b 0) _
    rw [getD_set]
    split
    · next e => rw [← e.1, Int.toNat_of_nonneg h0]; exact hv
    · exact h.gl b hb
  · show (s.g.set a.toNat v).getD b 0 = 0
    rw [getD_set, if_neg (by omega)]; exact h.gn b hb
/-- A new object. -/
theorem inv_new {q : PProg} {s : PSt} {ts : List Nat} (h : InvS q s ts) {t : Nat} (ht : t < q.types.length) (hr : rightB (tsP q.types) = true) : InvS q { s with objs := s.objs ++ [List.replicate (sizeP q.types t).toNat 0] } (ts ++ [t]) := by
  refine ⟨h.lx, h.lp, h.lg, by simp [h.lo], fun u hu => ?_, h.ix, h.iw, fun a ha => (h.pl a ha).more t, h.pn, fun a ha => (h.gl a ha).more t, h.gn, fun k hk => ?_, fun k hk v hv => ?_, fun k hk f hf => ?_⟩
  · rcases List.mem_append.1 hu with hu | hu
    · exact h.lt u hu
    · simp at hu; subst hu; exact ht
  · simp only [List.length_append, List.length_cons, List.length_nil] at hk
    show (((s.objs ++ [List.replicate (sizeP q.types t).toNat 0]).getD k []).length : Int) = _
    rw [getD_app, getD_app, h.lo]
    by_cases hk2 : k < ts.length
    · rw [if_pos hk2, if_pos hk2]; exact h.os k hk2
    · obtain rfl : k = ts.length := by omega
      simp
      have := (sizeP_one hr ht).2.1
      omega
  · simp only [List.length_append, List.length_cons, List.length_nil] at hk
    have hv' : v ∈ (s.objs ++ [List.replicate (sizeP q.types t).toNat 0]).getD k [] := hv
    rw [getD_app, h.lo] at hv'
    by_cases hk2 : k < ts.length
    · rw [if_pos hk2] at hv'; exact h.ov k hk2 v hv'
    · obtain rfl : k = ts.length := by omega
      simp at hv'
      rw [hv'.2]; unfold I64; omega
  · simp only [List.length_append, List.length_cons, List.length_nil] at hk
    show PtrOk _ (((s.objs ++ [List.replicate (sizeP q.types t).toNat 0]).getD k []).getD f 0) _
    rw [getD_app, h.lo]
    rw [getD_app] at hf ⊢
    by_cases hk2 : k < ts.length
    · rw [if_pos hk2] at hf ⊢
      rw [if_pos hk2]
      exact (h.op k hk2 f hf).more t
    · obtain rfl : k = ts.length := by omega
      rw [if_neg (by omega), if_pos rfl, getD_rep]
      exact .inl rfl
/-- A field is put. -/
theorem inv_put {q : PProg} {s : PSt} {ts : List Nat} (h : InvS q s ts) {o n v : Int} (h1 : 1 ≤ o) (_h2 : o ≤ ts.length) (h3 : 0 ≤ n) (hv : I64 v) (hp : 0 ≤ toP q.types (ts.getD (o.toNat - 1) 0) n → PtrOk ts v (toP q.types (ts.getD (o.toNat - 1) 0) n)) : InvS q (setO s o n v) ts := by
  have hg : ∀ k : Nat, (setO s o n v).objs.getD k [] = if o.toNat - 1 = k ∧ o.toNat - 1 < s.objs.length then (objA s.objs o).set n.toNat v else s.objs.getD k [] := fun k => by
    show (putA s.objs o n v).getD k [] = _
    unfold putA; rw [getD_set]
  refine ⟨h.lx, h.lp, h.lg, by simp [setO, putA, h.lo], h.lt, h.ix, h.iw, h.pl, h.pn, h.gl, h.gn, fun k hk => ?_, fun k hk u hu => ?_, fun k hk f hf => ?_⟩
  · rw [hg]
    split
    · next e =>
      rw [List.length_set, ← e.1]
      exact h.os _ (by omega)
    · exact h.os k hk
  · rw [hg] at hu
    split at hu
    · next e =>
      rcases mem_set_or hu with hu | rfl
      · exact h.ov (o.toNat - 1) (by omega) u hu
      · exact hv
    · exact h.ov k hk u hu
  · rw [hg]
    split
    · next e =>
      rw [getD_set]
      rw [← e.1] at hf ⊢
      split
      · next e2 =>
        have : (f : Int) = n := by omega
        rw [this] at hf ⊢
        exact hp hf
      · exact h.op (o.toNat - 1) (by omega) f hf
    · exact h.op k hk f hf
end Go.Proofs.YtapjgobkpehgfaaGreatDoor

/- The model, in plain lists: what a step keeps. -/
namespace Go.Proofs.YtapjgobkpehgfaaGreatDoor
set_option linter.unusedSimpArgs false
set_option linter.unusedVariables false

theorem byOp_cases' {op : Int} {o : Int × Bs × Bs} (h : byOpL op = some o) : op = 1 ∨ op = 2 ∨ op = 3 ∨ op = 4 ∨ op = 5 ∨ op = 6 ∨ op = 7 ∨ op = 8 ∨ op = 9 ∨ op = 10 ∨ op = 11 ∨ op = 12 ∨ op = 13 ∨ op = 14 ∨ op = 15 := by
  obtain ⟨hm, rfl⟩ := byOp_mem h
  have h0 : OPS.all (fun o => decide (1 ≤ o.1) && decide (o.1 ≤ 15)) = true := by decide
  have := List.all_eq_true.1 h0 o hm
  simp only [Bool.and_eq_true, decide_eq_true_eq] at this
  omega
theorem right_op' {i : PIns} (h : rightL i = true) : i.op = 1 ∨ i.op = 2 ∨ i.op = 3 ∨ i.op = 4 ∨ i.op = 5 ∨ i.op = 6 ∨ i.op = 7 ∨ i.op = 8 ∨ i.op = 9 ∨ i.op = 10 ∨ i.op = 11 ∨ i.op = 12 ∨ i.op = 13 ∨ i.op = 14 ∨ i.op = 15 := by
  unfold rightL at h
  rcases ho : byOpL i.op with _ | o
  · rw [ho] at h; cases h
  · exact byOp_cases' ho
theorem ins_parts {q : PProg} {n : Int} {i : PIns} (h : insE q n i = 0) : rightL i = true ∧ (jumpI i = true → 0 ≤ i.n ∧ i.n ≤ n) ∧ intsB i = true ∧ kindsB q i = true := by
  unfold insE at h
  by_cases h1 : rightL i = false
  · rw [if_pos h1] at h; cases h
  · rw [if_neg h1] at h
    by_cases h2 : jumpI i = true ∧ (i.n < 0 ∨ n < i.n)
    · rw [if_pos h2] at h; cases h
    · rw [if_neg h2] at h
      by_cases h3 : (intsB i && kindsB q i) = false
      · rw [if_pos h3] at h; cases h
      · have h3' : (intsB i && kindsB q i) = true := by simpa using h3
        simp only [Bool.and_eq_true] at h3'
        refine ⟨by simpa using h1, fun hj => ?_, h3'.1, h3'.2⟩
        constructor <;> (refine Int.not_lt.1 fun hn => h2 ⟨hj, ?_⟩)
        · exact .inl hn
        · exact .inr hn
theorem same_parts {s t : Int} (h : sameT s t = true) : 0 ≤ s ∧ s = t := by
  unfold sameT at h
  simpa using h
theorem num_parts {ts : List Bs} {t n : Int} (h : numF ts t n = true) : 0 ≤ n ∧ n < sizeP ts t ∧ toP ts t n < 0 := by
  unfold numF at h
  simp only [Bool.and_eq_true, decide_eq_true_eq] at h
  exact ⟨h.1.1, h.1.2, h.2⟩
theorem toP_has {ts : List Bs} {t n : Int} (h : 0 ≤ toP ts t n) : 0 ≤ n ∧ n < sizeP ts t := by
  unfold toP toI at h
  split at h
  · next e =>
    unfold sizeP sizeI
    rw [if_pos e.1]; exact ⟨e.2.1, e.2.2⟩
  · omega
section
variable {q : PProg} {s : PSt} {ts : List Nat} {i : PIns}
theorem local_lt (hh : headB q = true) {a : Int} (h0 : 0 ≤ a) (h : 0 ≤ localI q a) : a < q.locals.length ∧ localI q a < q.types.length :=
  ⟨(names_lt (head_parts hh).1 h0).1.1 h, (names_lt (head_parts hh).1 h0).2⟩
theorem glob_lt (hh : headB q = true) {a : Int} (h0 : 0 ≤ a) (h : 0 ≤ globI q a) : a < q.globs.length ∧ globI q a < q.types.length :=
  ⟨(names_lt (head_parts hh).2.1 h0).1.1 h, (names_lt (head_parts hh).2.1 h0).2⟩
theorem InvS.pA (h : InvS q s ts) (hh : headB q = true) {a : Int} (h0 : 0 ≤ a) (hl : 0 ≤ localI q a) : PtrOk ts (pA s a) (localI q a) := by
  have := h.pl a.toNat (by have := (local_lt hh h0 hl).1; omega)
  rw [Int.toNat_of_nonneg h0] at this; exact this
theorem InvS.gA (h : InvS q s ts) (hh : headB q = true) {a : Int} (h0 : 0 ≤ a) (hl : 0 ≤ globI q a) : PtrOk ts (gA s a) (globI q a) := by
  have := h.gl a.toNat (by have := (glob_lt hh h0 hl).1; omega)
  rw [Int.toNat_of_nonneg h0] at this; exact this
theorem InvS.xA (h : InvS q s ts) {a : Int} (h8 : a < 8) (_h0 : 0 ≤ a) : I64 (xA s a) := by
  refine h.ix _ ?_
  unfold Go.Proofs.YtapjgobkpehgfaaGreatDoor.xA
  exact getD_mem' (by rw [h.lx]; omega)
/-- The object that a pointer of some type has. -/
theorem InvS.obj (h : InvS q s ts) {v t : Int} (hp : PtrOk ts v t) (hv : v ≠ 0) : 1 ≤ v ∧ v ≤ ts.length ∧ ((ts.getD (v.toNat - 1) 0 : Nat) : Int) = t ∧ ((objA s.objs v).length : Int) = sizeP q.types t := by
  rcases hp with hp | ⟨h1, h2, h3⟩
  · exact absurd hp hv
  · refine ⟨h1, h2, h3, ?_⟩
    have := h.os (v.toNat - 1) (by omega)
    rw [h3] at this; exact this
theorem wr64_I (n : Int) : I64 (wr64 n) := by unfold wr64 I64; omega
theorem step_inv (h : InvS q s ts) (hh : headB q = true) (ho : OkI i) {n : Int} (he : insE q n i = 0) (hlen : ts.length < 9223372036854775807) {t : PSt} (hd : doI q s i = some t) :
    ∃ ts', InvS q t ts' ∧ (∃ e, ts' = ts ++ e) ∧ ts'.length ≤ ts.length + 1 := by
  obtain ⟨hr, _, hi, hk⟩ := ins_parts he
  obtain ⟨o0, o1, a0, a1, b0, b1, c0, c1, n0, n1⟩ := ho
  have same : ∀ {t : PSt}, InvS q t ts → ∃ ts', InvS q t ts' ∧ (∃ e, ts' = ts ++ e) ∧ ts'.length ≤ ts.length + 1 := fun h => ⟨ts, h, ⟨[], by simp⟩, by omega⟩
  rcases right_op' hr with e | e | e | e | e | e | e | e | e | e | e | e | e | e | e
  · rw [doI_1 e] at hd; obtain rfl := Option.some.inj hd
    exact same (inv_x h ⟨n0, n1⟩)
  · rw [doI_2 e] at hd; obtain rfl := Option.some.inj hd
    exact same (inv_x h (wr64_I _))
  · rw [doI_3 e] at hd; obtain rfl := Option.some.inj hd
    exact same (inv_pc h _)
  · rw [doI_4 e] at hd; obtain rfl := Option.some.inj hd
    split
    · exact same (inv_pc h _)
    · exact same h
  · rw [doI_5 e] at hd; obtain rfl := Option.some.inj hd
    have hl : 0 ≤ localI q i.a := by unfold kindsB at hk; rw [e] at hk; simpa using hk
    obtain ⟨h1, h2⟩ := local_lt hh a0 hl
    have hr' := (refs_list.1 (head_parts hh).1).1
    have hn := inv_new h (t := (localI q i.a).toNat) (by omega) hr'
    rw [Int.toNat_of_nonneg hl] at hn
    refine ⟨ts ++ [(localI q i.a).toNat], inv_p hn a0 h1 ?_, ⟨_, rfl⟩, by simp⟩
    have hlo := h.lo
    refine .inr ⟨by omega, by simp; omega, ?_⟩
    rw [show ((s.objs.length : Int) + 1).toNat - 1 = ts.length by rw [h.lo]; omega, getD_app, if_neg (by omega), if_pos rfl, Int.toNat_of_nonneg hl]
  · rw [doI_6 e] at hd; obtain rfl := Option.some.inj hd
    have hl : 0 ≤ localI q i.a := by unfold kindsB at hk; rw [e] at hk; simpa using hk
    exact same (inv_p h a0 (local_lt hh a0 hl).1 (.inl rfl))
  · rw [doI_7 e] at hd; obtain rfl := Option.some.inj hd
    have hl : sameT (localI q i.a) (localI q i.b) = true := by unfold kindsB at hk; rw [e] at hk; simpa using hk
    obtain ⟨h1, h2⟩ := same_parts hl
    exact same (inv_p h a0 (local_lt hh a0 h1).1 (by rw [h2]; exact h.pA hh b0 (by omega)))
  · rw [doI_8 e] at hd
    have hl : 0 ≤ localI q i.b ∧ numF q.types (localI q i.b) i.n = true := by unfold kindsB at hk; rw [e] at hk; simpa using hk
    split at hd
    · cases hd
    · next hz =>
      obtain rfl := Option.some.inj hd
      obtain ⟨g1, g2, g3, g4⟩ := h.obj (h.pA hh b0 hl.1) hz
      obtain ⟨m1, m2, _⟩ := num_parts hl.2
      refine same (inv_x h (h.ov _ (show (pA s i.b).toNat - 1 < ts.length by omega) _ ?_))
      exact getD_mem' (by have : (objA s.objs (pA s i.b)).length = (s.objs.getD ((pA s i.b).toNat - 1) []).length := rfl; omega)
  · rw [doI_9 e] at hd
    have hl : 0 ≤ localI q i.a ∧ numF q.types (localI q i.a) i.n = true := by unfold kindsB at hk; rw [e] at hk; simpa using hk
    have hx : i.b < 8 := by unfold intsB at hi; rw [e] at hi; simpa using hi
    split at hd
    · cases hd
    · next hz =>
      obtain rfl := Option.some.inj hd
      obtain ⟨g1, g2, g3, g4⟩ := h.obj (h.pA hh a0 hl.1) hz
      obtain ⟨m1, m2, m3⟩ := num_parts hl.2
      exact same (inv_put h g1 g2 m1 (h.xA hx b0) (fun h9 => by rw [g3] at h9; omega))
  · rw [doI_10 e] at hd
    have hl : 0 ≤ localI q i.b ∧ sameT (localI q i.a) (toP q.types (localI q i.b) i.n) = true := by unfold kindsB at hk; rw [e] at hk; simpa using hk
    split at hd
    · cases hd
    · next hz =>
      obtain rfl := Option.some.inj hd
      obtain ⟨g1, g2, g3, g4⟩ := h.obj (h.pA hh b0 hl.1) hz
      obtain ⟨m1, m2⟩ := same_parts hl.2
      obtain ⟨f1, _⟩ := toP_has (ts := q.types) (t := localI q i.b) (n := i.n) (by omega)
      refine same (inv_p h a0 (local_lt hh a0 m1).1 ?_)
      have := h.op ((pA s i.b).toNat - 1) (by omega) i.n.toNat (by rw [g3, Int.toNat_of_nonneg f1]; omega)
      rw [g3, Int.toNat_of_nonneg f1, ← m2] at this
      exact this
  · rw [doI_11 e] at hd
    have hl : 0 ≤ localI q i.a ∧ sameT (localI q i.b) (toP q.types (localI q i.a) i.n) = true := by unfold kindsB at hk; rw [e] at hk; simpa using hk
    split at hd
    · cases hd
    · next hz =>
      obtain rfl := Option.some.inj hd
      obtain ⟨g1, g2, g3, g4⟩ := h.obj (h.pA hh a0 hl.1) hz
      obtain ⟨m1, m2⟩ := same_parts hl.2
      obtain ⟨f1, _⟩ := toP_has (ts := q.types) (t := localI q i.a) (n := i.n) (by omega)
      have hpb := h.pA hh b0 m1
      have hrg := hpb.range
      refine same (inv_put h g1 g2 f1 ⟨by omega, by omega⟩ (fun _ => ?_))
      rw [g3, ← m2]; exact hpb
  · rw [doI_12 e] at hd; obtain rfl := Option.some.inj hd
    have hl : sameT (localI q i.a) (globI q i.b) = true := by unfold kindsB at hk; rw [e] at hk; simpa using hk
    obtain ⟨h1, h2⟩ := same_parts hl
    exact same (inv_p h a0 (local_lt hh a0 h1).1 (by rw [h2]; exact h.gA hh b0 (by omega)))
  · rw [doI_13 e] at hd; obtain rfl := Option.some.inj hd
    have hl : sameT (localI q i.b) (globI q i.a) = true := by unfold kindsB at hk; rw [e] at hk; simpa using hk
    obtain ⟨h1, h2⟩ := same_parts hl
    exact same (inv_g h a0 (glob_lt hh a0 (by omega)).1 (by rw [← h2]; exact h.pA hh b0 h1))
  · rw [doI_14 e] at hd; obtain rfl := Option.some.inj hd
    have hx : i.a < 8 := by unfold intsB at hi; rw [e] at hi; simpa using hi
    exact same (inv_out h (h.xA hx a0))
  · rw [doI_15 e] at hd; obtain rfl := Option.some.inj hd
    exact same (inv_x h (by split <;> (unfold I64; omega)))
end
end Go.Proofs.YtapjgobkpehgfaaGreatDoor

/- The model, in plain lists: states of a run; more fuel. -/
namespace Go.Proofs.YtapjgobkpehgfaaGreatDoor
set_option linter.unusedSimpArgs false
set_option linter.unusedVariables false

/-- What is so behind k steps. -/
structure RunOk (q : PProg) (s : PSt) (ts : List Nat) (k : Nat) : Prop where
  inv : InvS q s ts
  pc : s.pc ≤ q.code.length
  st : s.steps = k
  lt : ts.length ≤ k
  lo : s.out.length ≤ k
theorem run_0 (q : PProg) : RunOk q st0 [] 0 := ⟨inv_0 q, Nat.zero_le _, rfl, Nat.le_refl _, Nat.le_refl _⟩
section
variable {q : PProg} {s t : PSt} {ts : List Nat} {k : Nat}
theorem step_one (hc : (checkL q).2 = 0) (h : RunOk q s ts k) : (s.pc = q.code.length ∧ stepL q s = (s, true, 0)) ∨
    ∃ i, q.code[s.pc]? = some i ∧ insE q q.code.length i = 0 ∧ ((doI q (onI s) i = none ∧ stepL q s = (s, false, 9)) ∨ ∃ t, doI q (onI s) i = some t ∧ stepL q s = (t, false, 0)) := by
  obtain ⟨_, _, _, hall, _⟩ := check_ok hc
  rcases step_cases hc h.pc with h1 | ⟨i, h1, h2, h3⟩
  · exact .inl h1
  · exact .inr ⟨i, h1, hall i h2, h3⟩
theorem run_next (hc : (checkL q).2 = 0) (hok : ∀ i ∈ q.code, OkI i) (hk : k < 9223372036854775807) (h : RunOk q s ts k) {i : PIns} (hi : q.code[s.pc]? = some i) (hd : doI q (onI s) i = some t) :
    ∃ ts', RunOk q t ts' (k + 1) ∧ ∃ e, ts' = ts ++ e := by
  obtain ⟨hh, _, _, hall, _⟩ := check_ok hc
  have hm := List.mem_of_getElem? hi
  have hlt := (List.getElem?_eq_some_iff.1 hi).1
  have he := hall i hm
  have hop := right_op' (ins_parts he).1
  obtain ⟨ts', h1, h2, h3⟩ := step_inv (inv_on h.inv) hh (hok i hm) he (by have := h.lt; omega) hd
  obtain ⟨g1, _, _, _, g5, g6, g7⟩ := doI_grow hop hd
  refine ⟨ts', ⟨h1, ?_, ?_, ?_, ?_⟩, h2⟩
  · rcases g5 with g5 | g5
    · rw [g5]; show s.pc + 1 ≤ _; omega
    · by_cases hj : jumpI i = true
      · have := (ins_parts he).2.1 hj
        rw [g5]; omega
      · by_cases e : t.pc = s.pc + 1
        · omega
        · exfalso
          have hj3 : i.op ≠ 3 ∧ i.op ≠ 4 := by unfold jumpI at hj; simp at hj; exact hj
          have : t.pc = (onI s).pc := by
            rcases hop with e | e | e | e | e | e | e | e | e | e | e | e | e | e | e
            · rw [doI_1 e] at hd; rw [← Option.some.inj hd]; rfl
            · rw [doI_2 e] at hd; rw [← Option.some.inj hd]; rfl
            · exact absurd e hj3.1
            · exact absurd e hj3.2
            · rw [doI_5 e] at hd; rw [← Option.some.inj hd]; rfl
            · rw [doI_6 e] at hd; rw [← Option.some.inj hd]; rfl
            · rw [doI_7 e] at hd; rw [← Option.some.inj hd]; rfl
            · rw [doI_8 e] at hd; split at hd
              · cases hd
              · rw [← Option.some.inj hd]; rfl
            · rw [doI_9 e] at hd; split at hd
              · cases hd
              · rw [← Option.some.inj hd]; rfl
            · rw [doI_10 e] at hd; split at hd
              · cases hd
              · rw [← Option.some.inj hd]; rfl
            · rw [doI_11 e] at hd; split at hd
              · cases hd
              · rw [← Option.some.inj hd]; rfl
            · rw [doI_12 e] at hd; rw [← Option.some.inj hd]; rfl
            · rw [doI_13 e] at hd; rw [← Option.some.inj hd]; rfl
            · rw [doI_14 e] at hd; rw [← Option.some.inj hd]
            · rw [doI_15 e] at hd; rw [← Option.some.inj hd]; rfl
          exact e this
  · rw [g1]; show s.steps + 1 = k + 1; have := h.st; omega
  · have := h.lt; omega
  · have := h.lo
    split at g7
    · rw [g7]
      show (s.out ++ [_]).length ≤ _
      simp; omega
    · rw [g7]; show s.out.length ≤ _; omega
end
end Go.Proofs.YtapjgobkpehgfaaGreatDoor
