/-
  Which places each pointer local may be of, and which of them leak, in plain lists.
-/
import Derived.Test.YtjkpbajojgdooaaDoorVPa
import Derived.Test.YtjkpbajojgdooaaDoorBRB

/- Which places each pointer local may be of, and which of them leak, in plain lists. -/
namespace Go.Proofs.YtjkpbajojgdooaaDoor
set_option linter.unusedSimpArgs false
set_option linter.unusedVariables false

/-- What a pointer local may be of: the least there is. -/
inductive MayR (q : PProg) : Int → Nat → Prop
  | new {k : Nat} {i : PIns} : q.code[k]? = some i → i.op = 5 → MayR q i.a k
  | move {k : Nat} {i : PIns} : i ∈ q.code → i.op = 7 → MayR q i.b k → MayR q i.a k
/-- A place leaks. -/
def LeakR (q : PProg) (k : Nat) : Prop := ∃ i ∈ q.code, (i.op = 11 ∨ i.op = 13) ∧ MayR q i.b k
open Classical in
noncomputable def mayB (q : PProg) (a : Int) (k : Nat) : Bool := decide (MayR q a k)
open Classical in
noncomputable def leakB (q : PProg) (k : Nat) : Bool := decide (LeakR q k)
section
variable {q : PProg} {i : PIns} {k : Nat} {a : Int}
theorem mayB_iff : mayB q a k = true ↔ MayR q a k := by unfold mayB; simp
theorem leakB_iff : leakB q k = true ↔ LeakR q k := by unfold leakB; simp
theorem mayB_no : mayB q a k = false ↔ ¬ MayR q a k := by unfold mayB; simp
theorem leakB_no : leakB q k = false ↔ ¬ LeakR q k := by unfold leakB; simp
/-- It is of places of its own type. -/
theorem may_new (hc : (checkL q).2 = 0) (h : MayR q a k) : ∃ i, q.code[k]? = some i ∧ i.op = 5 ∧ localI q i.a = localI q a := by
  induction h with
  | new hi h5 => exact ⟨_, hi, h5, rfl⟩
  | @move k j hj h7 _ ih =>
    obtain ⟨i, h1, h2, h3⟩ := ih
    refine ⟨i, h1, h2, h3.trans ?_⟩
    obtain ⟨_, _, _, hall, _⟩ := check_ok hc
    have hk := (ins_parts (hall j hj)).2.2.2
    have hl : sameT (localI q j.a) (localI q j.b) = true := by unfold kindsB at hk; rw [h7] at hk; simpa using hk
    exact (same_parts hl).2.symm
theorem new_local (hc : (checkL q).2 = 0) (hm : i ∈ q.code) (h5 : i.op = 5) : 0 ≤ localI q i.a := by
  obtain ⟨_, _, _, hall, _⟩ := check_ok hc
  have hk := (ins_parts (hall i hm)).2.2.2
  unfold kindsB at hk; rw [h5] at hk; simpa using hk
theorem move_same (hc : (checkL q).2 = 0) (hm : i ∈ q.code) (h7 : i.op = 7) : 0 ≤ localI q i.a ∧ localI q i.a = localI q i.b := by
  obtain ⟨_, _, _, hall, _⟩ := check_ok hc
  have hk := (ins_parts (hall i hm)).2.2.2
  have hl : sameT (localI q i.a) (localI q i.b) = true := by unfold kindsB at hk; rw [h7] at hk; simpa using hk
  exact same_parts hl
theorem local_byte (hh : headB q = true) {b : Int} (ha : 0 ≤ a) (hal : 0 ≤ localI q a) (hb : 0 ≤ b) (e : localI q a = localI q b) : q.locals.getD a.toNat 0 = q.locals.getD b.toNat 0 := by
  obtain ⟨r, _⟩ := head_parts hh
  have h1 := (local_lt hh ha hal).1
  have h2 := (local_lt hh hb (by omega)).1
  have e1 := (names_yes r ha h1).1
  have e2 := (names_yes r hb h2).1
  have e3 : namesI q.types q.locals a = namesI q.types q.locals b := e
  exact UInt8.toNat_inj.1 (by omega)
/-- What the statement of types asks. -/
theorem may_types (hc : (checkL q).2 = 0) (hok : ∀ i ∈ q.code, OkI i) (ha : 0 ≤ a) (h : MayR q a k) : k < q.code.length ∧ ∃ i, q.code[k]? = some i ∧ i.op = 5 ∧ i.a < q.locals.length ∧ q.locals.getD i.a.toNat 0 = q.locals.getD a.toNat 0 := by
  obtain ⟨i, h1, h2, h3⟩ := may_new hc h
  have hm := List.mem_of_getElem? h1
  have hl := new_local hc hm h2
  obtain ⟨hh, _⟩ := check_ok hc
  obtain ⟨_, _, a0, _⟩ := hok i hm
  exact ⟨(List.getElem?_eq_some_iff.1 h1).1, i, h1, h2, (local_lt hh a0 hl).1, local_byte hh a0 hl ha h3⟩
/-- What leaks is the place of a New. -/
theorem leak_new (hc : (checkL q).2 = 0) (h : LeakR q k) : ∃ i, q.code[k]? = some i ∧ i.op = 5 := by
  obtain ⟨j, _, _, h1⟩ := h
  obtain ⟨i, h2, h3, _⟩ := may_new hc h1
  exact ⟨i, h2, h3⟩
theorem leak_self {j : PIns} (hi : q.code[k]? = some i) (h5 : i.op = 5) (hj : j ∈ q.code) (ho : j.op = 11 ∨ j.op = 13) (hb : j.b = i.a) : LeakR q k :=
  ⟨j, hj, ho, by rw [hb]; exact .new hi h5⟩
/-! ### A program that stores nothing -/
def storeI (i : PIns) : Bool := decide (i.op = 11) || decide (i.op = 13)
def noneI (i : PIns) : PIns := if storeI i = true then ⟨14, 0, 0, 0, 0⟩ else i
def noneQ (q : PProg) : PProg := { q with code := q.code.map noneI }
theorem noneI_op (i : PIns) : ¬ ((noneI i).op = 11 ∨ (noneI i).op = 13) := by
  unfold noneI
  split
  · simp
  · next h => unfold storeI at h; simp at h; omega
theorem none_leak (k : Nat) : ¬ LeakR (noneQ q) k := by
  rintro ⟨j, hj, ho, _⟩
  obtain ⟨i, _, rfl⟩ := List.mem_map.1 (show j ∈ q.code.map noneI from hj)
  exact noneI_op i ho
theorem noneI_ok (h : OkI i) : OkI (noneI i) := by
  unfold noneI
  split
  · constructor <;> decide
  · exact h
theorem noneQ_ok (h : OkP q) : OkP (noneQ q) := ⟨h.ty, h.lo, h.gl, fun j hj => by
  obtain ⟨i, hi, rfl⟩ := List.mem_map.1 (show j ∈ q.code.map noneI from hj)
  exact noneI_ok (h.ins i hi)⟩
theorem ins_none {n : Int} (h : insE q n i = 0) : insE (noneQ q) n (noneI i) = 0 := by
  unfold noneI
  split
  · show (if rightL ⟨14, 0, 0, 0, 0⟩ = false then 4 else if jumpI ⟨14, 0, 0, 0, 0⟩ = true ∧ ((0 : Int) < 0 ∨ n < 0) then 12 else if (intsB ⟨14, 0, 0, 0, 0⟩ && kindsB (noneQ q) ⟨14, 0, 0, 0, 0⟩) = false then 5 else 0) = 0
    have h1 : rightL ⟨14, 0, 0, 0, 0⟩ = true := by decide
    have h2 : jumpI ⟨14, 0, 0, 0, 0⟩ = false := by decide
    have h3 : intsB ⟨14, 0, 0, 0, 0⟩ = true := by decide
    have h4 : kindsB (noneQ q) ⟨14, 0, 0, 0, 0⟩ = true := by unfold kindsB; simp
    rw [h1, h2, h3, h4]; simp
  · exact h
theorem check_noneQ (hc : (checkL q).2 = 0) : (checkL (noneQ q)).2 = 0 := by
  obtain ⟨hh, h1, h2, hall, _⟩ := check_ok hc
  have hl : (noneQ q).code.length = q.code.length := List.length_map ..
  rw [check_code (show headB (noneQ q) = true from hh) (by omega) (by omega), firstE_all 0 ?_]
  intro j hj
  obtain ⟨i, hi, rfl⟩ := List.mem_map.1 (show j ∈ q.code.map noneI from hj)
  rw [hl]
  exact ins_none (hall i hi)
end
end Go.Proofs.YtjkpbajojgdooaaDoor
