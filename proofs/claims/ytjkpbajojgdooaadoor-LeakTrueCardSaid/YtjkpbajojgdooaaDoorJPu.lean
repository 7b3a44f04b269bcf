/-
  Which places each pointer local may be of, and which of them leak, in plain lists.
  What does not leak is never stored: what a run keeps of it.
-/
import Derived.Test.YtjkpbajojgdooaaDoorVPa
import Derived.Test.YtjkpbajojgdooaaDoorBRB

/- Which places each pointer local may be of, and which of them leak, in plain lists. -/
namespace Go.Proofs.YtjkpbajojgdooaaDoor
set_option linter.unusedSimpArgs false
set_option linter.unusedVariables false

/-- What a pointer local may be of: the least there is. -/
inductive MayR (q : PProg) : Int → Nat → Prop
  | new {k : Nat} {i : PIns} : q.code[k]? = some i → i.op = 5 → MayR q i.a k
  | move {k : Nat} {i : PIns} : i ∈ q.code → i.op = 7 → MayR q i.b k → MayR q i.a k
/-- A place leaks. -/
def LeakR (q : PProg) (k : Nat) : Prop := ∃ i ∈ q.code, (i.op = 11 ∨ i.op = 13) ∧ MayR q i.b k
open Classical in
noncomputable def mayB (q : PProg) (a : Int) (k : Nat) : Bool := decide (MayR q a k)
open Classical in
noncomputable def leakB (q : PProg) (k : Nat) : Bool := decide (LeakR q k)
section
variable {q : PProg} {i : PIns} {k : Nat} {a : Int}
theorem mayB_iff : mayB q a k = true ↔ MayR q a k := by unfold mayB; simp
theorem leakB_iff : leakB q k = true ↔ LeakR q k := by unfold leakB; simp
theorem mayB_no : mayB q a k = false ↔ ¬ MayR q a k := by unfold mayB; simp
theorem leakB_no : leakB q k = false ↔ ¬ LeakR q k := by unfold leakB; simp
/-- It is of places of its own type. -/
theorem may_new (hc : (checkL q).2 = 0) (h : MayR q a k) : ∃ i, q.code[k]? = some i ∧ i.op = 5 ∧ localI q i.a = localI q a := by
  induction h with
  | new hi h5 => exact ⟨_, hi, h5, rfl⟩
  | @move k j hj h7 _ ih =>
    obtain ⟨i, h1, h2, h3⟩ := ih
    refine ⟨i, h1, h2, h3.trans ?_⟩
    obtain ⟨_, _, _, hall, _⟩ := check_ok hc
    have hk := (ins_parts (hall j hj)).2.2.2
    have hl : sameT (localI q j.a) (localI q j.b) = true := by unfold kindsB at hk; rw [h7] at hk; simpa using hk
    exact (same_parts hl).2.symm
theorem new_local (hc : (checkL q).2 = 0) (hm : i ∈ q.code) (h5 : i.op = 5) : 0 ≤ localI q i.a := by
  obtain ⟨_, _, _, hall, _⟩ := check_ok hc
  have hk := (ins_parts (hall i hm)).2.2.2
  unfold kindsB at hk; rw [h5] at hk; simpa using hk
theorem move_same (hc : (checkL q).2 = 0) (hm : i ∈ q.code) (h7 : i.op = 7) : 0 ≤ localI q i.a ∧ localI q i.a = localI q i.b := by
  obtain ⟨_, _, _, hall, _⟩ := check_ok hc
  have hk := (ins_parts (hall i hm)).2.2.2
  have hl : sameT (localI q i.a) (localI q i.b) = true := by unfold kindsB at hk; rw [h7] at hk; simpa using hk
  exact same_parts hl
theorem local_byte (hh : headB q = true) {b : Int} (ha : 0 ≤ a) (hal : 0 ≤ localI q a) (hb : 0 ≤ b) (e : localI q a = localI q b) : q.locals.getD a.toNat 0 = q.locals.getD b.toNat 0 := by
  obtain ⟨r, _⟩ := head_parts hh
  have h1 := (local_lt hh ha hal).1
  have h2 := (local_lt hh hb (by omega)).1
  have e1 := (names_yes r ha h1).1
  have e2 := (names_yes r hb h2).1
  have e3 : namesI q.types q.locals a = namesI q.types q.locals b := e
  exact UInt8.toNat_inj.1 (by omega)
/-- What the statement of types asks. -/
theorem may_types (hc : (checkL q).2 = 0) (hok : ∀ i ∈ q.code, OkI i) (ha : 0 ≤ a) (h : MayR q a k) : k < q.code.length ∧ ∃ i, q.code[k]? = some i ∧ i.op = 5 ∧ i.a < q.locals.length ∧ q.locals.getD i.a.toNat 0 = q.locals.getD a.toNat 0 := by
  obtain ⟨i, h1, h2, h3⟩ := may_new hc h
  have hm := List.mem_of_getElem? h1
  have hl := new_local hc hm h2
  obtain ⟨hh, _⟩ := check_ok hc
  obtain ⟨_, _, a0, _⟩ := hok i hm
  exact ⟨(List.getElem?_eq_some_iff.1 h1).1, i, h1, h2, (local_lt hh a0 hl).1, local_byte hh a0 hl ha h3⟩
/-- What leaks is the place of a New. -/
theorem leak_new (hc : (checkL q).2 = 0) (h : LeakR q k) : ∃ i, q.code[k]? = some i ∧ i.op = 5 := by
  obtain ⟨j, _, _, h1⟩ := h
  obtain ⟨i, h2, h3, _⟩ := may_new hc h1
  exact ⟨i, h2, h3⟩
theorem leak_self {j : PIns} (hi : q.code[k]? = some i) (h5 : i.op = 5) (hj : j ∈ q.code) (ho : j.op = 11 ∨ j.op = 13) (hb : j.b = i.a) : LeakR q k :=
  ⟨j, hj, ho, by rw [hb]; exact .new hi h5⟩
/-! ### A program that stores nothing -/
def storeI (i : PIns) : Bool := decide (i.op = 11) || decide (i.op = 13)
def noneI (i : PIns) : PIns := if storeI i = true then ⟨14, 0, 0, 0, 0⟩ else i
def noneQ (q : PProg) : PProg := { q with code := q.code.map noneI }
theorem noneI_op (i : PIns) : ¬ ((noneI i).op = 11 ∨ (noneI i).op = 13) := by
  unfold noneI
  split
  · simp
  · next h => unfold storeI at h; simp at h; omega
theorem none_leak (k : Nat) : ¬ LeakR (noneQ q) k := by
  rintro ⟨j, hj, ho, _⟩
  obtain ⟨i, _, rfl⟩ := List.mem_map.1 (show j ∈ q.code.map noneI from hj)
  exact noneI_op i ho
theorem noneI_ok (h : OkI i) : OkI (noneI i) := by
  unfold noneI
  split
  · constructor <;> decide
  · exact h
theorem noneQ_ok (h : OkP q) : OkP (noneQ q) := ⟨h.ty, h.lo, h.gl, fun j hj => by
  obtain ⟨i, hi, rfl⟩ := List.mem_map.1 (show j ∈ q.code.map noneI from hj)
  exact noneI_ok (h.ins i hi)⟩
theorem ins_none {n : Int} (h : insE q n i = 0) : insE (noneQ q) n (noneI i) = 0 := by
  unfold noneI
  split
  · show (if rightL ⟨14, 0, 0, 0, 0⟩ = false then 4 else if jumpI ⟨14, 0, 0, 0, 0⟩ = true ∧ ((0 : Int) < 0 ∨ n < 0) then 12 else if (intsB ⟨14, 0, 0, 0, 0⟩ && kindsB (noneQ q) ⟨14, 0, 0, 0, 0⟩) = false then 5 else 0) = 0
    have h1 : rightL ⟨14, 0, 0, 0, 0⟩ = true := by decide
    have h2 : jumpI ⟨14, 0, 0, 0, 0⟩ = false := by decide
    have h3 : intsB ⟨14, 0, 0, 0, 0⟩ = true := by decide
    have h4 : kindsB (noneQ q) ⟨14, 0, 0, 0, 0⟩ = true := by unfold kindsB; simp
    rw [h1, h2, h3, h4]; simp
  · exact h
theorem check_noneQ (hc : (checkL q).2 = 0) : (checkL (noneQ q)).2 = 0 := by
  obtain ⟨hh, h1, h2, hall, _⟩ := check_ok hc
  have hl : (noneQ q).code.length = q.code.length := List.length_map ..
  rw [check_code (show headB (noneQ q) = true from hh) (by omega) (by omega), firstE_all 0 ?_]
  intro j hj
  obtain ⟨i, hi, rfl⟩ := List.mem_map.1 (show j ∈ q.code.map noneI from hj)
  rw [hl]
  exact ins_none (hall i hi)
end
end Go.Proofs.YtjkpbajojgdooaaDoor

/- What does not leak is never stored: what a run keeps of it. -/
namespace Go.Proofs.YtjkpbajojgdooaaDoor
set_option linter.unusedSimpArgs false
set_option linter.unusedVariables false

section
variable {q : PProg} {s t : PSt} {ts made : List Nat} {i : PIns} {v a : Int} {k : Nat}
/-- The place where an object was made. -/
def placeN (made : List Nat) (v : Int) : Nat := made.getD (v.toNat - 1) 0
/-- The number of an object whose place does not leak. -/
def KeptN (q : PProg) (made : List Nat) (v : Int) : Prop := 0 < v ∧ v ≤ made.length ∧ ¬ LeakR q (placeN made v)
theorem kept_zero : ¬ KeptN q made 0 := fun h => by have := h.1; omega
theorem place_more (h0 : 0 < v) (h : v ≤ made.length) : placeN (made ++ [k]) v = placeN made v := by
  unfold placeN
  rw [getD_app, if_pos (by omega)]
theorem kept_more (h : v ≤ made.length) : KeptN q (made ++ [k]) v → KeptN q made v := fun ⟨h1, _, h3⟩ => ⟨h1, h, by rw [place_more h1 h] at h3; exact h3⟩
/-- What a run keeps: nothing that does not leak lies anywhere but in a local that may have it. -/
structure LkI (q : PProg) (s : PSt) (ts made : List Nat) : Prop where
  len : made.length = ts.length
  new : ∀ k : Nat, k < made.length → ∃ i, q.code[made.getD k 0]? = some i ∧ i.op = 5
  loc : ∀ a : Nat, a < q.locals.length → KeptN q made (s.p.getD a 0) → MayR q a (placeN made (s.p.getD a 0))
  glo : ∀ a : Nat, a < q.globs.length → ¬ KeptN q made (s.g.getD a 0)
  fld : ∀ k : Nat, k < ts.length → ∀ f : Nat, 0 ≤ toP q.types (ts.getD k 0) f → ¬ KeptN q made ((s.objs.getD k []).getD f 0)
theorem kept_nil : ¬ KeptN q [] v := fun h => by
  have h1 := h.1
  have h2 : v ≤ ((0 : Nat) : Int) := h.2.1
  omega
theorem lk_0 (q : PProg) : LkI q st0 [] [] :=
  ⟨rfl, fun k h => by simp at h, fun a _ h => absurd h kept_nil, fun a _ => kept_nil, fun k h => by simp at h⟩
theorem lk_same (h : LkI q s ts made) (hp : t.p = s.p) (hg : t.g = s.g) (ho : t.objs = s.objs) : LkI q t ts made :=
  ⟨h.len, h.new, by rw [hp]; exact h.loc, by rw [hg]; exact h.glo, by rw [ho]; exact h.fld⟩
theorem lk_p (h : LkI q s ts made) (h0 : 0 ≤ a) (hv : KeptN q made v → MayR q a (placeN made v)) : LkI q (setP s a v) ts made := by
  refine ⟨h.len, h.new, fun b hb => ?_, h.glo, h.fld⟩
  show KeptN q made ((s.p.set a.toNat v).getD b 0) → MayR q b (placeN made ((s.p.set a.toNat v).getD b 0))
  rw [getD_set]
  split
  · next e => rw [← e.1, Int.toNat_of_nonneg h0]; exact hv
  · exact h.loc b hb
theorem lk_g (h : LkI q s ts made) (hv : ¬ KeptN q made v) : LkI q (setG s a v) ts made := by
  refine ⟨h.len, h.new, h.loc, fun b hb => ?_, h.fld⟩
  show ¬ KeptN q made ((s.g.set a.toNat v).getD b 0)
  rw [getD_set]
  split
  · exact hv
  · exact h.glo b hb
theorem lk_put (h : LkI q s ts made) {o n : Int} (h3 : 0 ≤ n) (hv : 0 ≤ toP q.types (ts.getD (o.toNat - 1) 0) n → ¬ KeptN q made v) : LkI q (setO s o n v) ts made := by
  refine ⟨h.len, h.new, h.loc, h.glo, fun k hk f hf => ?_⟩
  show ¬ KeptN q made (((putA s.objs o n v).getD k []).getD f 0)
  unfold putA
  rw [getD_set]
  split
  · next e =>
    rw [getD_set]
    split
    · next e2 =>
      rw [← e.1] at hf
      have : (f : Int) = n := by omega
      rw [this] at hf
      exact hv hf
    · show ¬ KeptN q made ((s.objs.getD (o.toNat - 1) []).getD f 0)
      rw [e.1]
      exact h.fld k hk f hf
  · exact h.fld k hk f hf
theorem lk_new (h : LkI q s ts made) (hI : InvS q s ts) (hh : headB q = true) {n u : Nat} (hi : q.code[n]? = some i) (h5 : i.op = 5) (m : Nat) :
    LkI q { s with objs := s.objs ++ [List.replicate m 0] } (ts ++ [u]) (made ++ [n]) := by
  have old : ∀ {v t : Int}, PtrOk ts v t → v ≤ made.length := fun hp => by have := hp.range; have := h.len; omega
  refine ⟨by simp [h.len], fun k hk => ?_, fun b hb hk => ?_, fun b hb hk => ?_, fun k hk f hf => ?_⟩
  · simp only [List.length_append, List.length_cons, List.length_nil] at hk
    rw [getD_app]
    by_cases hk2 : k < made.length
    · rw [if_pos hk2]; exact h.new k hk2
    · rw [if_neg hk2, if_pos (by omega)]; exact ⟨i, hi, h5⟩
  · have ho := old (hI.pl b hb)
    rw [place_more hk.1 ho]
    exact h.loc b hb (kept_more ho hk)
  · exact h.glo b hb (kept_more (old (hI.gl b hb)) hk)
  · simp only [List.length_append, List.length_cons, List.length_nil] at hk
    show ¬ KeptN q _ (((s.objs ++ [List.replicate m 0]).getD k []).getD f 0)
    rw [getD_app, hI.lo]
    rw [getD_app] at hf
    by_cases hk2 : k < ts.length
    · rw [if_pos hk2] at hf ⊢
      exact fun hx => h.fld k hk2 f hf (kept_more (old (hI.op k hk2 f hf)) hx)
    · rw [if_neg hk2, if_pos (by omega), getD_rep]
      exact kept_zero
/-- What is stored is not kept. -/
theorem lk_val (h : LkI q s ts made) (hh : headB q = true) {b : Int} (b0 : 0 ≤ b) (hl : 0 ≤ localI q b) (hm : i ∈ q.code) (ho : i.op = 11 ∨ i.op = 13) (hb : i.b = b) : ¬ KeptN q made (pA s b) := fun hk => by
  have h1 := h.loc b.toNat (by have := (local_lt hh b0 hl).1; omega) hk
  rw [Int.toNat_of_nonneg b0] at h1
  exact hk.2.2 ⟨i, hm, ho, by rw [hb]; exact h1⟩
/-- The places of all objects behind a step. -/
def madeN (s t : PSt) (made : List Nat) : List Nat := if s.objs.length < t.objs.length then made ++ [s.pc] else made
def typesN (q : PProg) (s t : PSt) (i : PIns) (ts : List Nat) : List Nat := if s.objs.length < t.objs.length then ts ++ [(localI q i.a).toNat] else ts
theorem lk_step (hc : (checkL q).2 = 0) (hok : ∀ i ∈ q.code, OkI i) (hI : InvS q s ts) (h : LkI q s ts made) (hi : q.code[s.pc]? = some i) (hd : doI q (onI s) i = some t) :
    LkI q t (typesN q s t i ts) (madeN s t made) ∧ (s.objs.length < t.objs.length ↔ i.op = 5) ∧ (i.op = 5 → 0 ≤ localI q i.a) := by
  obtain ⟨hh, _, _, hall, _⟩ := check_ok hc
  have hm := List.mem_of_getElem? hi
  obtain ⟨hr, _, hi8, hk⟩ := ins_parts (hall i hm)
  obtain ⟨o0, o1, a0, a1, b0, b1, c0, c1, n0, n1⟩ := hok i hm
  have hop := right_op' hr
  have hg := (doI_grow hop hd).2.2.2.2.2.1
  have hol : (onI s).objs.length = s.objs.length := rfl
  have h' : LkI q (onI s) ts made := lk_same h rfl rfl rfl
  have hI' := inv_on hI
  have hfive : s.objs.length < t.objs.length → i.op = 5 := fun hx => by
    refine Classical.byContradiction fun e => ?_
    rw [if_neg e] at hg; omega
  refine ⟨?_, ⟨hfive, fun e => by rw [if_pos e] at hg; omega⟩, fun e => new_local hc hm e⟩
  have same : i.op ≠ 5 → LkI q t ts made → LkI q t (typesN q s t i ts) (madeN s t made) := fun e hx => by
    rw [if_neg e] at hg
    unfold typesN madeN
    rw [if_neg (by omega), if_neg (by omega)]
    exact hx
  rcases hop with e | e | e | e | e | e | e | e | e | e | e | e | e | e | e
  · rw [doI_1 e] at hd; cases hd
    exact same (by omega) (lk_same h' rfl rfl rfl)
  · rw [doI_2 e] at hd; cases hd
    exact same (by omega) (lk_same h' rfl rfl rfl)
  · rw [doI_3 e] at hd; cases hd
    exact same (by omega) (lk_same h' rfl rfl rfl)
  · rw [doI_4 e] at hd; obtain rfl := Option.some.inj hd
    refine same (by omega) ?_
    split
    · exact lk_same h' rfl rfl rfl
    · exact h'
  · rw [doI_5 e] at hd; obtain rfl := Option.some.inj hd
    have hl := new_local hc hm e
    rw [if_pos e] at hg
    unfold typesN madeN
    rw [if_pos (by omega), if_pos (by omega)]
    refine lk_p (lk_new h' hI' hh hi e _) a0 fun _ => ?_
    have hlen : ((onI s).objs.length : Int) + 1 = (made.length : Int) + 1 := by rw [hol, hI.lo, h.len]
    unfold placeN
    rw [hlen, show ((made.length : Int) + 1).toNat - 1 = made.length by omega, getD_app, if_neg (by omega), if_pos rfl]
    exact .new hi e
  · rw [doI_6 e] at hd; cases hd
    exact same (by omega) (lk_p h' a0 fun hx => absurd hx kept_zero)
  · rw [doI_7 e] at hd; cases hd
    obtain ⟨h1, h2⟩ := move_same hc hm e
    refine same (by omega) (lk_p h' a0 fun hx => .move hm e ?_)
    have := h.loc i.b.toNat (by have := (local_lt hh b0 (h2 ▸ h1)).1; omega) hx
    rw [Int.toNat_of_nonneg b0] at this
    exact this
  · rw [doI_8 e] at hd
    split at hd
    · cases hd
    · cases hd; exact same (by omega) (lk_same h' rfl rfl rfl)
  · rw [doI_9 e] at hd
    have hl : 0 ≤ localI q i.a ∧ numF q.types (localI q i.a) i.n = true := by unfold kindsB at hk; rw [e] at hk; simpa using hk
    split at hd
    · cases hd
    · next hz =>
      cases hd
      obtain ⟨g1, g2, g3, g4⟩ := hI'.obj (hI'.pA hh a0 hl.1) hz
      obtain ⟨m1, m2, m3⟩ := num_parts hl.2
      exact same (by omega) (lk_put h' m1 fun h9 => by rw [g3] at h9; omega)
  · rw [doI_10 e] at hd
    have hl : 0 ≤ localI q i.b ∧ sameT (localI q i.a) (toP q.types (localI q i.b) i.n) = true := by unfold kindsB at hk; rw [e] at hk; simpa using hk
    split at hd
    · cases hd
    · next hz =>
      cases hd
      obtain ⟨g1, g2, g3, g4⟩ := hI'.obj (hI'.pA hh b0 hl.1) hz
      obtain ⟨m1, m2⟩ := same_parts hl.2
      obtain ⟨f1, _⟩ := toP_has (ts := q.types) (t := localI q i.b) (n := i.n) (by omega)
      refine same (by omega) (lk_p h' a0 fun hx => absurd hx ?_)
      exact h'.fld ((pA (onI s) i.b).toNat - 1) (by omega) i.n.toNat (by rw [g3, Int.toNat_of_nonneg f1]; omega)
  · rw [doI_11 e] at hd
    have hl : 0 ≤ localI q i.a ∧ sameT (localI q i.b) (toP q.types (localI q i.a) i.n) = true := by unfold kindsB at hk; rw [e] at hk; simpa using hk
    split at hd
    · cases hd
    · cases hd
      obtain ⟨m1, m2⟩ := same_parts hl.2
      obtain ⟨f1, _⟩ := toP_has (ts := q.types) (t := localI q i.a) (n := i.n) (by omega)
      exact same (by omega) (lk_put h' f1 fun _ => lk_val h' hh b0 m1 hm (.inl e) rfl)
  · rw [doI_12 e] at hd; cases hd
    have hl : sameT (localI q i.a) (globI q i.b) = true := by unfold kindsB at hk; rw [e] at hk; simpa using hk
    obtain ⟨h1, h2⟩ := same_parts hl
    refine same (by omega) (lk_p h' a0 fun hx => absurd hx ?_)
    exact h'.glo i.b.toNat (by have := (glob_lt hh b0 (by omega)).1; omega)
  · rw [doI_13 e] at hd; cases hd
    have hl : sameT (localI q i.b) (globI q i.a) = true := by unfold kindsB at hk; rw [e] at hk; simpa using hk
    obtain ⟨h1, h2⟩ := same_parts hl
    exact same (by omega) (lk_g h' (lk_val h' hh b0 h1 hm (.inr e) rfl))
  · rw [doI_14 e] at hd; cases hd
    exact same (by omega) (lk_same h' rfl rfl rfl)
  · rw [doI_15 e] at hd; cases hd
    exact same (by omega) (lk_same h' rfl rfl rfl)
/-- Behind a step: the types of all objects are those that the run's own list has. -/
theorem types_next {ts' : List Nat} (hh : headB q = true) (hI : InvS q s ts) (hT : InvS q t ts') (he : ∃ e, ts' = ts ++ e) (hgrow : t.objs.length = s.objs.length + if i.op = 5 then 1 else 0)
    (hnew : i.op = 5 → pA t i.a = (s.objs.length : Int) + 1 ∧ 0 ≤ i.a ∧ 0 ≤ localI q i.a) : ts' = typesN q s t i ts := by
  obtain ⟨e, rfl⟩ := he
  have h1 := hI.lo
  have h2 := hT.lo
  rw [List.length_append] at h2
  unfold typesN
  by_cases h5 : i.op = 5
  · rw [if_pos h5] at hgrow
    rw [if_pos (by omega)]
    obtain ⟨g1, g2, g3⟩ := hnew h5
    obtain ⟨x, rfl⟩ : ∃ x, e = [x] := List.length_eq_one_iff.1 (by omega)
    have hp := hT.pA hh g2 g3
    rw [g1] at hp
    rcases hp with hp | ⟨_, _, hp⟩
    · omega
    · rw [show ((s.objs.length : Int) + 1).toNat - 1 = ts.length by omega, getD_app, if_neg (by omega), if_pos rfl] at hp
      rw [← hp, Int.toNat_natCast]
  · rw [if_neg h5] at hgrow
    rw [if_neg (by omega)]
    have : e = [] := List.length_eq_zero_iff.1 (by omega)
    rw [this, List.append_nil]
/-- A step, and all that a run keeps. -/
theorem lk_next (hc : (checkL q).2 = 0) (hok : ∀ i ∈ q.code, OkI i) (hk : k < 9223372036854775807) (hR : RunOk q s ts k) (h : LkI q s ts made) (hi : q.code[s.pc]? = some i) (hd : doI q (onI s) i = some t) :
    RunOk q t (typesN q s t i ts) (k + 1) ∧ LkI q t (typesN q s t i ts) (madeN s t made) ∧ (s.objs.length < t.objs.length ↔ i.op = 5) ∧ (i.op = 5 → 0 ≤ localI q i.a) := by
  obtain ⟨ts', h1, h2⟩ := run_next hc hok hk hR hi hd
  obtain ⟨hh, _, _, hall, _⟩ := check_ok hc
  have hm := List.mem_of_getElem? hi
  have hop := right_op' (ins_parts (hall i hm)).1
  have hg := (doI_grow hop hd).2.2.2.2.2.1
  have e : ts' = typesN q s t i ts := types_next hh hR.inv h1.inv h2 hg fun h5 => by
    have hl := new_local hc hm h5
    obtain ⟨_, _, a0, _⟩ := hok i hm
    refine ⟨?_, a0, hl⟩
    rw [doI_5 h5] at hd
    obtain rfl := Option.some.inj hd
    show (s.p.set i.a.toNat ((s.objs.length : Int) + 1)).getD i.a.toNat 0 = _
    have h8 := (head_parts hh).2.2.1
    have := (local_lt hh a0 hl).1
    rw [getD_set, if_pos ⟨rfl, by rw [hR.inv.lp]; omega⟩]
  rw [← e]
  exact ⟨h1, e ▸ (lk_step hc hok hR.inv h hi hd)⟩
/-- What the statement looks at. -/
theorem lk_local (h : LkI q s ts made) {a : Nat} (ha : a < q.locals.length) (hk : KeptN q made (s.p.getD a 0)) : placeN made (s.p.getD a 0) < q.code.length ∧ mayB q a (placeN made (s.p.getD a 0)) = true := by
  have h1 := hk.1
  have h2 := hk.2.1
  obtain ⟨i, h3, _⟩ := h.new ((s.p.getD a 0).toNat - 1) (by omega)
  exact ⟨(List.getElem?_eq_some_iff.1 h3).1, mayB_iff.2 (h.loc a ha hk)⟩
theorem lk_glob (h : LkI q s ts made) (hI : InvS q s ts) (a : Nat) : ¬ KeptN q made (s.g.getD a 0) := by
  by_cases ha : a < q.globs.length
  · exact h.glo a ha
  · rw [hI.gn a (by omega)]; exact kept_zero
end
end Go.Proofs.YtjkpbajojgdooaaDoor
