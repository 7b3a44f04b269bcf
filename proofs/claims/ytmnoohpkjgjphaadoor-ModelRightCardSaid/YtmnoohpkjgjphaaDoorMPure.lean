/-
  The model, in plain lists: a state, a step, a run; what is so of all states of a run.
-/
import Derived.Test.YtmnoohpkjgjphaaDoorHPure2
namespace Go.Proofs.YtmnoohpkjgjphaaDoor
set_option linter.unusedSimpArgs false
set_option linter.unusedVariables false

structure PSt where
  x : List Int
  p : List Int
  g : List Int
  objs : List (List Int)
  out : List Int
  pc : Nat
  steps : Nat
def st0 : PSt := ⟨List.replicate 8 0, List.replicate 8 0, List.replicate 4 0, [], [], 0, 0⟩
def wr64 (n : Int) : Int := (n + 9223372036854775808) % 18446744073709551616 - 9223372036854775808
def xA (s : PSt) (a : Int) : Int := s.x.getD a.toNat 0
def pA (s : PSt) (a : Int) : Int := s.p.getD a.toNat 0
def gA (s : PSt) (a : Int) : Int := s.g.getD a.toNat 0
/-- An object's fields. -/
def objA (l : List (List Int)) (o : Int) : List Int := l.getD (o.toNat - 1) []
def fldA (l : List (List Int)) (o n : Int) : Int := (objA l o).getD n.toNat 0
def putA (l : List (List Int)) (o n v : Int) : List (List Int) := l.set (o.toNat - 1) ((objA l o).set n.toNat v)
def setX (s : PSt) (a v : Int) : PSt := { s with x := s.x.set a.toNat v }
def setP (s : PSt) (a v : Int) : PSt := { s with p := s.p.set a.toNat v }
def setG (s : PSt) (a v : Int) : PSt := { s with g := s.g.set a.toNat v }
def setO (s : PSt) (o n v : Int) : PSt := { s with objs := putA s.objs o n v }
/-- What an instruction makes of a state whose place and count are counted on already; nothing: a pointer to nothing was followed. -/
def doI (q : PProg) (s : PSt) (i : PIns) : Option PSt :=
  if i.op = 1 then some (setX s i.a i.n)
  else if i.op = 2 then some (setX s i.a (wr64 (xA s i.b + xA s i.c)))
  else if i.op = 3 then some { s with pc := i.n.toNat }
  else if i.op = 4 then some (if xA s i.a = 0 then { s with pc := i.n.toNat } else s)
  else if i.op = 5 then some (setP { s with objs := s.objs ++ [List.replicate (sizeP q.types (localI q i.a)).toNat 0] } i.a (s.objs.length + 1))
  else if i.op = 6 then some (setP s i.a 0)
  else if i.op = 7 then some (setP s i.a (pA s i.b))
  else if i.op = 8 then if pA s i.b = 0 then none else some (setX s i.a (fldA s.objs (pA s i.b) i.n))
  else if i.op = 9 then if pA s i.a = 0 then none else some (setO s (pA s i.a) i.n (xA s i.b))
  else if i.op = 10 then if pA s i.b = 0 then none else some (setP s i.a (fldA s.objs (pA s i.b) i.n))
  else if i.op = 11 then if pA s i.a = 0 then none else some (setO s (pA s i.a) i.n (pA s i.b))
  else if i.op = 12 then some (setP s i.a (gA s i.b))
  else if i.op = 13 then some (setG s i.a (pA s i.b))
  else if i.op = 14 then some { s with out := s.out ++ [xA s i.a] }
  else some (setX s i.a (if pA s i.b = pA s i.c then 1 else 0))
def onI (s : PSt) : PSt := { s with pc := s.pc + 1, steps := s.steps + 1 }
def stepL (q : PProg) (s : PSt) : PSt × Bool × Nat :=
  if (checkL q).2 ≠ 0 ∨ q.code.length < s.pc then (s, false, 2)
  else match q.code[s.pc]? with
    | none => (s, true, 0)
    | some i => match doI q (onI s) i with
      | none => (s, false, 9)
      | some t => (t, false, 0)
def goL (q : PProg) : Nat → PSt → PSt × Nat
  | 0, s => if (stepL q s).2.1 = true then (s, 0) else if (stepL q s).2.2 ≠ 0 then (s, (stepL q s).2.2) else (s, 10)
  | k + 1, s => if (stepL q s).2.1 = true ∨ (stepL q s).2.2 ≠ 0 then (s, (stepL q s).2.2) else goL q k (stepL q s).1
def runL (q : PProg) (fuel : Int) : List Int × Nat := if (checkL q).2 ≠ 0 ∨ fuel < 0 then ([], 2) else ((goL q fuel.toNat st0).1.out, (goL q fuel.toNat st0).2)

/-! ### The parts of a step -/
theorem onI_x (s : PSt) : (onI s).x = s.x ∧ (onI s).p = s.p ∧ (onI s).g = s.g ∧ (onI s).objs = s.objs ∧ (onI s).out = s.out := ⟨rfl, rfl, rfl, rfl, rfl⟩
theorem step_bad {q : PProg} {s : PSt} (h : (checkL q).2 ≠ 0) : stepL q s = (s, false, 2) := by unfold stepL; rw [if_pos (.inl h)]
theorem step_end {q : PProg} {s : PSt} (h : (checkL q).2 = 0) (hp : s.pc = q.code.length) : stepL q s = (s, true, 0) := by
  unfold stepL
  rw [if_neg (by omega), List.getElem?_eq_none (by omega)]
theorem step_at {q : PProg} {s : PSt} {i : PIns} (h : (checkL q).2 = 0) (hi : q.code[s.pc]? = some i) : stepL q s = match doI q (onI s) i with
    | none => (s, false, 9)
    | some t => (t, false, 0) := by
  have hlt := (List.getElem?_eq_some_iff.1 hi).1
  unfold stepL
  rw [if_neg (by omega), hi]
theorem step_cases {q : PProg} {s : PSt} (h : (checkL q).2 = 0) (hp : s.pc ≤ q.code.length) :
    (s.pc = q.code.length ∧ stepL q s = (s, true, 0)) ∨ ∃ i, q.code[s.pc]? = some i ∧ i ∈ q.code ∧ ((doI q (onI s) i = none ∧ stepL q s = (s, false, 9)) ∨ ∃ t, doI q (onI s) i = some t ∧ stepL q s = (t, false, 0)) := by
  by_cases he : s.pc = q.code.length
  · exact .inl ⟨he, step_end h he⟩
  · have hlt : s.pc < q.code.length := by omega
    refine .inr ⟨_, List.getElem?_eq_getElem hlt, List.getElem_mem hlt, ?_⟩
    have := step_at h (List.getElem?_eq_getElem hlt)
    rcases hd : doI q (onI s) q.code[s.pc] with _ | t
    · rw [hd] at this; exact .inl ⟨rfl, this⟩
    · rw [hd] at this; exact .inr ⟨t, rfl, this⟩
section
variable {q : PProg} {s : PSt} {i : PIns}
theorem doI_1 (h : i.op = 1) : doI q s i = some (setX s i.a i.n) := by unfold doI; rw [h]; rfl
theorem doI_2 (h : i.op = 2) : doI q s i = some (setX s i.a (wr64 (xA s i.b + xA s i.c))) := by unfold doI; rw [h]; rfl
theorem doI_3 (h : i.op = 3) : doI q s i = some { s with pc := i.n.toNat } := by unfold doI; rw [h]; rfl
theorem doI_4 (h : i.op = 4) : doI q s i = some (if xA s i.a = 0 then { s with pc := i.n.toNat } else s) := by unfold doI; rw [h]; rfl
theorem doI_5 (h : i.op = 5) : doI q s i = some (setP { s with objs := s.objs ++ [List.replicate (sizeP q.types (localI q i.a)).toNat 0] } i.a (s.objs.length + 1)) := by unfold doI; rw [h]; rfl
theorem doI_6 (h : i.op = 6) : doI q s i = some (setP s i.a 0) := by unfold doI; rw [h]; rfl
theorem doI_7 (h : i.op = 7) : doI q s i = some (setP s i.a (pA s i.b)) := by unfold doI; rw [h]; rfl
theorem doI_8 (h : i.op = 8) : doI q s i = if pA s i.b = 0 then none else some (setX s i.a (fldA s.objs (pA s i.b) i.n)) := by unfold doI; rw [h]; rfl
theorem doI_9 (h : i.op = 9) : doI q s i = if pA s i.a = 0 then none else some (setO s (pA s i.a) i.n (xA s i.b)) := by unfold doI; rw [h]; rfl
theorem doI_10 (h : i.op = 10) : doI q s i = if pA s i.b = 0 then none else some (setP s i.a (fldA s.objs (pA s i.b) i.n)) := by unfold doI; rw [h]; rfl
theorem doI_11 (h : i.op = 11) : doI q s i = if pA s i.a = 0 then none else some (setO s (pA s i.a) i.n (pA s i.b)) := by unfold doI; rw [h]; rfl
theorem doI_12 (h : i.op = 12) : doI q s i = some (setP s i.a (gA s i.b)) := by unfold doI; rw [h]; rfl
theorem doI_13 (h : i.op = 13) : doI q s i = some (setG s i.a (pA s i.b)) := by unfold doI; rw [h]; rfl
theorem doI_14 (h : i.op = 14) : doI q s i = some { s with out := s.out ++ [xA s i.a] } := by unfold doI; rw [h]; rfl
theorem doI_15 (h : i.op = 15) : doI q s i = some (setX s i.a (if pA s i.b = pA s i.c then 1 else 0)) := by unfold doI; rw [h]; rfl
end
/-- What a step keeps, and how it grows. -/
theorem doI_grow {q : PProg} {s t : PSt} {i : PIns} (hop : i.op = 1 ∨ i.op = 2 ∨ i.op = 3 ∨ i.op = 4 ∨ i.op = 5 ∨ i.op = 6 ∨ i.op = 7 ∨ i.op = 8 ∨ i.op = 9 ∨ i.op = 10 ∨ i.op = 11 ∨ i.op = 12 ∨ i.op = 13 ∨ i.op = 14 ∨ i.op = 15) (h : doI q s i = some t) : t.steps = s.steps ∧ t.x.length = s.x.length ∧ t.p.length = s.p.length ∧ t.g.length = s.g.length ∧ (t.pc = s.pc ∨ t.pc = i.n.toNat) ∧
    (t.objs.length = s.objs.length + if i.op = 5 then 1 else 0) ∧ (if i.op = 14 then t.out = s.out ++ [xA s i.a] else t.out = s.out) := by
  rcases hop with e | e | e | e | e | e | e | e | e | e | e | e | e | e | e
  · rw [doI_1 e] at h
    obtain rfl := Option.some.inj h
    rw [if_neg (show ¬ i.op = 5 by omega), if_neg (show ¬ i.op = 14 by omega)]
    simp [setX, setP, setG]
  · rw [doI_2 e] at h
    obtain rfl := Option.some.inj h
    rw [if_neg (show ¬ i.op = 5 by omega), if_neg (show ¬ i.op = 14 by omega)]
    simp [setX, setP, setG]
  · rw [doI_3 e] at h
    obtain rfl := Option.some.inj h
    rw [if_neg (show ¬ i.op = 5 by omega), if_neg (show ¬ i.op = 14 by omega)]
    simp [setX, setP, setG]
  · rw [doI_4 e] at h
    obtain rfl := Option.some.inj h
    rw [if_neg (show ¬ i.op = 5 by omega), if_neg (show ¬ i.op = 14 by omega)]
    split <;> simp
  · rw [doI_5 e] at h
    obtain rfl := Option.some.inj h
    rw [if_pos e, if_neg (show ¬ i.op = 14 by omega)]
    simp [setP]
  · rw [doI_6 e] at h
    obtain rfl := Option.some.inj h
    rw [if_neg (show ¬ i.op = 5 by omega), if_neg (show ¬ i.op = 14 by omega)]
    simp [setX, setP, setG]
  · rw [doI_7 e] at h
    obtain rfl := Option.some.inj h
    rw [if_neg (show ¬ i.op = 5 by omega), if_neg (show ¬ i.op = 14 by omega)]
    simp [setX, setP, setG]
  · rw [doI_8 e] at h
    split at h
    · cases h
    · obtain rfl := Option.some.inj h; rw [if_neg (show ¬ i.op = 5 by omega), if_neg (show ¬ i.op = 14 by omega)]; simp [setX, setP, setO, putA]
  · rw [doI_9 e] at h
    split at h
    · cases h
    · obtain rfl := Option.some.inj h; rw [if_neg (show ¬ i.op = 5 by omega), if_neg (show ¬ i.op = 14 by omega)]; simp [setX, setP, setO, putA]
  · rw [doI_10 e] at h
    split at h
    · cases h
    · obtain rfl := Option.some.inj h; rw [if_neg (show ¬ i.op = 5 by omega), if_neg (show ¬ i.op = 14 by omega)]; simp [setX, setP, setO, putA]
  · rw [doI_11 e] at h
    split at h
    · cases h
    · obtain rfl := Option.some.inj h; rw [if_neg (show ¬ i.op = 5 by omega), if_neg (show ¬ i.op = 14 by omega)]; simp [setX, setP, setO, putA]
  · rw [doI_12 e] at h
    obtain rfl := Option.some.inj h
    rw [if_neg (show ¬ i.op = 5 by omega), if_neg (show ¬ i.op = 14 by omega)]
    simp [setX, setP, setG]
  · rw [doI_13 e] at h
    obtain rfl := Option.some.inj h
    rw [if_neg (show ¬ i.op = 5 by omega), if_neg (show ¬ i.op = 14 by omega)]
    simp [setX, setP, setG]
  · rw [doI_14 e] at h
    obtain rfl := Option.some.inj h
    rw [if_neg (show ¬ i.op = 5 by omega), if_pos e]
    simp
  · rw [doI_15 e] at h
    obtain rfl := Option.some.inj h
    rw [if_neg (show ¬ i.op = 5 by omega), if_neg (show ¬ i.op = 14 by omega)]
    simp [setX, setP, setG]
end Go.Proofs.YtmnoohpkjgjphaaDoor
