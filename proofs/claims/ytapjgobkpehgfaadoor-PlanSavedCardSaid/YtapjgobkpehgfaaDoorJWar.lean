/-
  What Moves reach, by steps between, in plain truths.
-/
import Derived.Test.YtapjgobkpehgfaaDoorUAQ
namespace Go.Proofs.YtapjgobkpehgfaaDoor
set_option linter.unusedSimpArgs false
set_option linter.unusedVariables false

section
variable {E : Nat → Nat → Prop}
/-- From a to b by steps between that are less than m. -/
def ViaQ (E : Nat → Nat → Prop) : Nat → Nat → Nat → Prop
  | 0, a, b => a = b ∨ E a b
  | m + 1, a, b => ViaQ E m a b ∨ (ViaQ E m a m ∧ ViaQ E m m b)
inductive Star (E : Nat → Nat → Prop) (a : Nat) : Nat → Prop
  | refl : Star E a a
  | step {b c : Nat} : Star E a b → E b c → Star E a c
theorem Star.trans {a b c : Nat} (h : Star E a b) (g : Star E b c) : Star E a c := by
  induction g with
  | refl => exact h
  | step _ e ih => exact .step ih e
theorem ViaQ.mono {m a b : Nat} (h : ViaQ E m a b) : ViaQ E (m + 1) a b := Or.inl h
theorem via_refl (m a : Nat) : ViaQ E m a a := by
  induction m with
  | zero => exact .inl rfl
  | succ m ih => exact ih.mono
theorem via_edge {a b : Nat} (m : Nat) (h : E a b) : ViaQ E m a b := by
  induction m with
  | zero => exact .inr h
  | succ m ih => exact ih.mono
theorem ViaQ.trans {m a b c : Nat} (hb : b < m) (h : ViaQ E m a b) (g : ViaQ E m b c) : ViaQ E m a c := by
  induction m generalizing a b c with
  | zero => omega
  | succ m ih =>
    by_cases e : b = m
    · subst e
      have h1 : ViaQ E b a b := by
        rcases h with h | ⟨h, _⟩
        · exact h
        · exact h
      have g1 : ViaQ E b b c := by
        rcases g with g | ⟨_, g⟩
        · exact g
        · exact g
      exact .inr ⟨h1, g1⟩
    · have hlt : b < m := by omega
      rcases h with h | ⟨h, h'⟩
      · rcases g with g | ⟨g, g'⟩
        · exact .inl (ih hlt h g)
        · exact .inr ⟨ih hlt h g, g'⟩
      · rcases g with g | ⟨_, g'⟩
        · exact .inr ⟨h, ih hlt h' g⟩
        · exact .inr ⟨h, g'⟩
theorem Star.via {n a b : Nat} (hE : ∀ x y, E x y → x < n) (h : Star E a b) : ViaQ E n a b := by
  induction h with
  | refl => exact via_refl n a
  | step _ e ih => exact ViaQ.trans (hE _ _ e) ih (via_edge n e)
/-- The truths behind the first k rows of the round m. -/
structure WarM (E : Nat → Nat → Prop) (n m k : Nat) (M : Nat → Nat → Bool) : Prop where
  sound : ∀ a b, M a b = true → Star E a b
  done : ∀ a b, a < k → ViaQ E (m + 1) a b → M a b = true
  rest : ∀ a b, k ≤ a → a < n → ViaQ E m a b → M a b = true
variable {n m k : Nat} {M : Nat → Nat → Bool}
theorem WarM.start (h1 : ∀ a b, M a b = true → a = b ∨ E a b) (h2 : ∀ a b, (a = b ∨ E a b) → M a b = true) : WarM E n 0 0 M :=
  ⟨fun a b h => (h1 a b h).elim (fun e => e ▸ .refl) (fun h => .step .refl h), fun _ _ h => absurd h (Nat.not_lt_zero _), fun a b _ _ h => h2 a b h⟩
theorem WarM.any (h : WarM E n m k M) {a b : Nat} (hn : a < n) (hv : ViaQ E m a b) : M a b = true := by
  by_cases e : a < k
  · exact h.done a b e hv.mono
  · exact h.rest a b (by omega) hn hv
theorem WarM.skip (h : WarM E n m k M) (hn : k < n) (hk : M k m = false) : WarM E n m (k + 1) M := by
  refine ⟨h.sound, fun a b ha hv => ?_, fun a b ha h' hv => h.rest a b (by omega) h' hv⟩
  by_cases e : a < k
  · exact h.done a b e hv
  · have e2 : a = k := by omega
    subst e2
    rcases hv with hv | ⟨hv, _⟩
    · exact h.any hn hv
    · rw [h.any hn hv] at hk; cases hk
def orR (M : Nat → Nat → Bool) (k m : Nat) : Nat → Nat → Bool := fun a => if a = k then fun b => M k b || M m b else M a
theorem WarM.take (h : WarM E n m k M) (hn : k < n) (hm : m < n) (hk : M k m = true) : WarM E n m (k + 1) (orR M k m) := by
  have hor : ∀ a b, M a b = true → orR M k m a b = true := fun a b hab => by
    unfold orR
    split
    · next e => subst e; simp [hab]
    · exact hab
  refine ⟨fun a b hab => ?_, fun a b ha hv => ?_, fun a b ha h' hv => hor _ _ (h.rest a b (by omega) h' hv)⟩
  · unfold orR at hab
    split at hab
    · next e =>
      subst e
      rcases Bool.or_eq_true_iff.1 hab with h1 | h1
      · exact h.sound _ _ h1
      · exact (h.sound _ _ hk).trans (h.sound _ _ h1)
    · exact h.sound _ _ hab
  · by_cases e : a < k
    · exact hor _ _ (h.done a b e hv)
    · have e2 : a = k := by omega
      subst e2
      rcases hv with hv | ⟨_, hv⟩
      · exact hor _ _ (h.any hn hv)
      · unfold orR; rw [if_pos rfl, h.any hm hv, Bool.or_true]
theorem WarM.next (h : WarM E n m n M) : WarM E n (m + 1) 0 M :=
  ⟨h.sound, fun _ _ h => absurd h (Nat.not_lt_zero _), fun a b _ hn hv => h.done a b hn hv⟩
end

/-! ### Of a program's Moves -/
def EdgeQ (q : PProg) (x y : Nat) : Prop := ∃ i ∈ q.code, i.op = 7 ∧ i.b = (x : Int) ∧ i.a = (y : Int)
section
variable {q : PProg}
theorem edgeQ_lt (hc : (checkL q).2 = 0) (hok : ∀ i ∈ q.code, OkI i) {x y : Nat} (h : EdgeQ q x y) : x < q.locals.length ∧ y < q.locals.length := by
  obtain ⟨i, hi, h7, hb, ha⟩ := h
  have h1 := move_same hc hi h7
  have hh := (check_ok hc).1
  have a0 := (hok i hi).a0
  have b0 := (hok i hi).b0
  have e1 := (local_lt hh a0 h1.1).1
  have e2 := (local_lt hh b0 (by have := h1.2; have := h1.1; omega)).1
  omega
theorem may_star (hok : ∀ i ∈ q.code, OkI i) {b k : Nat} : MayR q (b : Int) k ↔ ∃ i, ∃ a : Nat, q.code[k]? = some i ∧ i.op = 5 ∧ i.a = (a : Int) ∧ Star (EdgeQ q) a b := by
  constructor
  · intro h
    obtain ⟨z, hz⟩ : ∃ z : Int, z = (b : Int) := ⟨_, rfl⟩
    rw [← hz] at h
    induction h generalizing b with
    | @new k i hi h5 => exact ⟨i, b, hi, h5, hz, .refl⟩
    | @move k i hi h7 _ ih =>
      have b0 := (hok i hi).b0
      obtain ⟨j, a, h1, h2, h3, h4⟩ := ih (b := i.b.toNat) (by omega)
      exact ⟨j, a, h1, h2, h3, .step h4 ⟨i, hi, h7, by omega, hz⟩⟩
  · rintro ⟨i, a, hi, h5, ha, hs⟩
    induction hs with
    | refl => rw [← ha]; exact .new hi h5
    | step _ e ih =>
      obtain ⟨j, hj, h7, hb, ha'⟩ := e
      rw [← ha']
      exact .move hj h7 (by rw [hb]; exact ih)
/-- What stands behind a way of all Moves. -/
def WayM (q : PProg) (M : Nat → Nat → Bool) : Prop := ∀ a b, a < q.locals.length → (M a b = true ↔ Star (EdgeQ q) a b)
theorem WarM.way {M : Nat → Nat → Bool} (hc : (checkL q).2 = 0) (hok : ∀ i ∈ q.code, OkI i) (h : WarM (EdgeQ q) q.locals.length q.locals.length 0 M) : WayM q M :=
  fun a b hl => ⟨h.sound a b, fun hs => h.rest a b (Nat.zero_le _) hl (hs.via fun x y e => (edgeQ_lt hc hok e).1)⟩
/-- Edges of the first m instructions. -/
def EdgeT (q : PProg) (m : Nat) (M : Nat → Nat → Bool) : Prop := ∀ a b, M a b = true ↔ (a = b ∨ ∃ i ∈ q.code.take m, i.op = 7 ∧ i.b = (a : Int) ∧ i.a = (b : Int))
theorem EdgeT.skip {m : Nat} {M : Nat → Nat → Bool} {i : PIns} (h : EdgeT q m M) (hi : q.code[m]? = some i) (h7 : i.op ≠ 7) : EdgeT q (m + 1) M := by
  intro a b
  rw [h a b, List.take_add_one, hi]
  simp only [Option.toList_some, List.mem_append, List.mem_singleton]
  constructor
  · rintro (h | ⟨j, hj, h⟩)
    · exact .inl h
    · exact .inr ⟨j, .inl hj, h⟩
  · rintro (h | ⟨j, hj | rfl, h⟩)
    · exact .inl h
    · exact .inr ⟨j, hj, h⟩
    · exact absurd h.1 h7
def setM (M : Nat → Nat → Bool) (x y : Nat) : Nat → Nat → Bool := fun a => if a = x then fun b => if b = y then true else M x b else M a
theorem EdgeT.take {m x y : Nat} {M : Nat → Nat → Bool} {i : PIns} (h : EdgeT q m M) (hi : q.code[m]? = some i) (h7 : i.op = 7) (hb : i.b = (x : Int)) (ha : i.a = (y : Int)) : EdgeT q (m + 1) (setM M x y) := by
  intro a b
  rw [List.take_add_one, hi]
  simp only [Option.toList_some, List.mem_append, List.mem_singleton]
  unfold setM
  by_cases e : a = x ∧ b = y
  · obtain ⟨rfl, rfl⟩ := e
    rw [if_pos rfl]
    simp only [if_true, true_iff]
    exact .inr ⟨i, .inr rfl, h7, hb, ha⟩
  · have e1 : (if a = x then fun b => if b = y then true else M x b else M a) b = M a b := by
      split
      · next ea =>
        subst ea
        show (if b = y then true else M a b) = M a b
        rw [if_neg (fun eb => e ⟨rfl, eb⟩)]
      · rfl
    rw [e1, h a b]
    constructor
    · rintro (h | ⟨j, hj, h⟩)
      · exact .inl h
      · exact .inr ⟨j, .inl hj, h⟩
    · rintro (h | ⟨j, hj | rfl, h⟩)
      · exact .inl h
      · exact .inr ⟨j, hj, h⟩
      · exact absurd ⟨by omega, by omega⟩ e
theorem EdgeT.nought : EdgeT q 0 (fun a b => a == b) := by
  intro a b
  simp
theorem EdgeT.war {M : Nat → Nat → Bool} {n : Nat} (h : EdgeT q q.code.length M) : WarM (EdgeQ q) n 0 0 M := by
  have h1 : ∀ a b, M a b = true ↔ (a = b ∨ EdgeQ q a b) := fun a b => by
    rw [h a b, List.take_length]; rfl
  exact .start (fun a b => (h1 a b).1) (fun a b => (h1 a b).2)
end
end Go.Proofs.YtapjgobkpehgfaaDoor
