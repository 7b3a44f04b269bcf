/-
  Programs that may be run, in plain lists: of which types locals and globals are, what is wrong of an instruction, the first error.
  In plain lists: what a program that may be run names is there; with one type more it may be run as it could be without.
-/
import Derived.Test.YtapjgobkpehgfaaDoorUAA

/- Programs that may be run, in plain lists: of which types locals and globals are, what is wrong of an instruction, the first error. -/
namespace Go.Proofs.YtapjgobkpehgfaaDoor
set_option linter.unusedSimpArgs false
set_option linter.unusedVariables false

def baL (l : Bs) : ByteArray := ⟨l.toArray⟩
def tsP (ts : List Bs) : List ByteArray := ts.map baL
/-- The type that the letter at a names. -/
def namesI (ts : List Bs) (s : Bs) (a : Int) : Int := if 0 ≤ a ∧ a < s.length ∧ refsB (tsP ts) (baL [s.getD a.toNat 0]) = true then ((s.getD a.toNat 0).toNat : Int) - 48 else -1
def localI (p : PProg) (a : Int) : Int := namesI p.types p.locals a
def globI (p : PProg) (a : Int) : Int := namesI p.types p.globs a
def sizeP (ts : List Bs) (t : Int) : Int := sizeI (tsP ts) t
def toP (ts : List Bs) (t f : Int) : Int := toI (tsP ts) t f
def numF (ts : List Bs) (t n : Int) : Bool := decide (0 ≤ n) && decide (n < sizeP ts t) && decide (toP ts t n < 0)
def sameT (a b : Int) : Bool := decide (0 ≤ a) && decide (a = b)
def jumpI (i : PIns) : Bool := decide (i.op = 3) || decide (i.op = 4)
def intsB (i : PIns) : Bool :=
  if i.op = 1 ∨ i.op = 4 ∨ i.op = 8 ∨ i.op = 14 ∨ i.op = 15 then decide (i.a < 8)
  else if i.op = 2 then decide (i.a < 8) && decide (i.b < 8) && decide (i.c < 8)
  else if i.op = 9 then decide (i.b < 8) else true
def kindsB (p : PProg) (i : PIns) : Bool :=
  if i.op = 5 ∨ i.op = 6 then decide (0 ≤ localI p i.a)
  else if i.op = 7 then sameT (localI p i.a) (localI p i.b)
  else if i.op = 15 then sameT (localI p i.b) (localI p i.c)
  else if i.op = 8 then decide (0 ≤ localI p i.b) && numF p.types (localI p i.b) i.n
  else if i.op = 9 then decide (0 ≤ localI p i.a) && numF p.types (localI p i.a) i.n
  else if i.op = 10 then decide (0 ≤ localI p i.b) && sameT (localI p i.a) (toP p.types (localI p i.b) i.n)
  else if i.op = 11 then decide (0 ≤ localI p i.a) && sameT (localI p i.b) (toP p.types (localI p i.a) i.n)
  else if i.op = 12 then sameT (localI p i.a) (globI p i.b)
  else if i.op = 13 then sameT (localI p i.b) (globI p i.a)
  else true
/-- What is wrong of an instruction among n. -/
def insE (p : PProg) (n : Int) (i : PIns) : Nat :=
  if rightL i = false then 4 else if jumpI i = true ∧ (i.n < 0 ∨ n < i.n) then 12 else if (intsB i && kindsB p i) = false then 5 else 0
def headB (p : PProg) : Bool := refsB (tsP p.types) (baL p.locals) && refsB (tsP p.types) (baL p.globs) && decide (p.locals.length ≤ 8) && decide (p.globs.length ≤ 4)
def firstE (p : PProg) (n : Int) : Nat → List PIns → Int × Nat
  | _, [] => (-1, 0)
  | k, i :: r => if insE p n i = 0 then firstE p n (k + 1) r else ((k : Int), insE p n i)
def checkL (p : PProg) : Int × Nat := if headB p = false then (-1, 5) else if p.code.length < 1 ∨ 200 < p.code.length then (-1, 3) else firstE p p.code.length 0 p.code

/-! ### The first error -/
section
variable {p q : PProg} {n m : Int}
theorem firstE_app : ∀ (a b : List PIns) (k : Nat), (∀ i ∈ a, insE p n i = 0) → firstE p n k (a ++ b) = firstE p n (k + a.length) b
  | [], b, k, _ => rfl
  | i :: a, b, k, h => by
    show (if insE p n i = 0 then firstE p n (k + 1) (a ++ b) else _) = _
    rw [if_pos (h i (by simp)), firstE_app a b (k + 1) (fun j hj => h j (by simp [hj]))]
    simp only [List.length_cons]
    rw [show k + 1 + a.length = k + (a.length + 1) by omega]
theorem firstE_all {l : List PIns} (k : Nat) (h : ∀ i ∈ l, insE p n i = 0) : firstE p n k l = (-1, 0) := by
  have := firstE_app l [] k h
  rw [List.append_nil] at this
  rw [this]; rfl
theorem firstE_at {a b : List PIns} {i : PIns} (k : Nat) (h : ∀ j ∈ a, insE p n j = 0) (hi : insE p n i ≠ 0) : firstE p n k (a ++ i :: b) = ((k : Int) + a.length, insE p n i) := by
  rw [firstE_app a _ k h]
  show (if insE p n i = 0 then _ else (((k + a.length : Nat) : Int), insE p n i)) = _
  rw [if_neg hi]; simp
theorem firstE_cases : ∀ (l : List PIns) (k : Nat), (∀ i ∈ l, insE p n i = 0) ∨ ∃ a i b, l = a ++ i :: b ∧ (∀ j ∈ a, insE p n j = 0) ∧ insE p n i ≠ 0
  | [], _ => .inl (by simp)
  | i :: r, k => by
    by_cases hi : insE p n i = 0
    · rcases firstE_cases r k with h | ⟨a, j, b, rfl, h1, h2⟩
      · exact .inl fun j hj => by rcases List.mem_cons.1 hj with rfl | hj; exact hi; exact h j hj
      · exact .inr ⟨i :: a, j, b, rfl, fun x hx => by rcases List.mem_cons.1 hx with rfl | hx; exact hi; exact h1 x hx, h2⟩
    · exact .inr ⟨[], i, r, rfl, by simp, hi⟩
theorem check_head (h : headB p = false) : checkL p = (-1, 5) := by unfold checkL; rw [if_pos h]
theorem check_big (h : headB p = true) (hn : p.code.length < 1 ∨ 200 < p.code.length) : checkL p = (-1, 3) := by unfold checkL; rw [if_neg (by rw [h]; simp), if_pos hn]
theorem check_code (h : headB p = true) (h1 : 1 ≤ p.code.length) (h2 : p.code.length ≤ 200) : checkL p = firstE p p.code.length 0 p.code := by unfold checkL; rw [if_neg (by rw [h]; simp), if_neg (by omega)]
/-- What Check answers, in its four ways. -/
theorem check_cases (p : PProg) : (headB p = false ∧ checkL p = (-1, 5)) ∨ (headB p = true ∧ (p.code.length < 1 ∨ 200 < p.code.length) ∧ checkL p = (-1, 3)) ∨
    (headB p = true ∧ 1 ≤ p.code.length ∧ p.code.length ≤ 200 ∧ (∀ i ∈ p.code, insE p p.code.length i = 0) ∧ checkL p = (-1, 0)) ∨
    (headB p = true ∧ 1 ≤ p.code.length ∧ p.code.length ≤ 200 ∧ ∃ a i b, p.code = a ++ i :: b ∧ (∀ j ∈ a, insE p p.code.length j = 0) ∧ insE p p.code.length i ≠ 0 ∧ checkL p = ((a.length : Int), insE p p.code.length i)) := by
  rcases hh : headB p with _ | _
  · exact .inl ⟨rfl, check_head hh⟩
  · by_cases hn : p.code.length < 1 ∨ 200 < p.code.length
    · exact .inr (.inl ⟨rfl, hn, check_big hh hn⟩)
    · have e := check_code hh (by omega) (by omega)
      rcases firstE_cases (p := p) (n := p.code.length) p.code 0 with h | ⟨a, i, b, h1, h2, h3⟩
      · exact .inr (.inr (.inl ⟨rfl, by omega, by omega, h, by rw [e]; exact firstE_all 0 h⟩))
      · refine .inr (.inr (.inr ⟨rfl, by omega, by omega, a, i, b, h1, h2, h3, ?_⟩))
        rw [e]
        have : firstE p p.code.length 0 p.code = firstE p p.code.length 0 (a ++ i :: b) := by rw [← h1]
        rw [this, firstE_at 0 h2 h3]; simp
theorem check_ok (h : (checkL p).2 = 0) : headB p = true ∧ 1 ≤ p.code.length ∧ p.code.length ≤ 200 ∧ (∀ i ∈ p.code, insE p p.code.length i = 0) ∧ checkL p = (-1, 0) := by
  rcases check_cases p with ⟨_, e⟩ | ⟨_, _, e⟩ | h' | ⟨_, _, _, a, i, b, _, _, h3, e⟩
  · rw [e] at h; cases h
  · rw [e] at h; cases h
  · exact h'
  · rw [e] at h; exact absurd h h3

end
end Go.Proofs.YtapjgobkpehgfaaDoor

/- In plain lists: what a program that may be run names is there; with one type more it may be run as it could be without. -/
namespace Go.Proofs.YtapjgobkpehgfaaDoor
set_option linter.unusedSimpArgs false
set_option linter.unusedVariables false

theorem tsP_len (ts : List Bs) : (tsP ts).length = ts.length := by simp [tsP]
theorem refs_list {ts : List Bs} {s : Bs} : refsB (tsP ts) (baL s) = true ↔ rightB (tsP ts) = true ∧ ∀ c ∈ s, 48 ≤ c.toNat ∧ c.toNat < 48 + ts.length := by
  rw [refs_iff]
  refine and_congr_right fun _ => ⟨fun h c hc => ?_, fun h k hk => ?_⟩
  · obtain ⟨k, hk, rfl⟩ := List.getElem_of_mem hc
    have := dig_iff.1 (h k hk)
    rw [tsP_len] at this
    have e : byt (baL s) k = s[k].toNat := by
      show (s.getD k 0).toNat = _
      rw [List.getD_eq_getElem?_getD, List.getElem?_eq_getElem hk]; rfl
    rw [e] at this; exact this
  · have hk' : k < s.length := hk
    have e : byt (baL s) k = s[k].toNat := by
      show (s.getD k 0).toNat = _
      rw [List.getD_eq_getElem?_getD, List.getElem?_eq_getElem hk']; rfl
    rw [dig_iff, tsP_len, e]
    exact h _ (List.getElem_mem hk')
theorem getD_mem {s : Bs} {k : Nat} (h : k < s.length) : s.getD k 0 ∈ s := by
  rw [List.getD_eq_getElem?_getD, List.getElem?_eq_getElem h]
  exact List.getElem_mem h
theorem names_no {ts : List Bs} {s : Bs} {a : Int} (h : ¬ (0 ≤ a ∧ a < s.length)) : namesI ts s a = -1 := by
  unfold namesI; rw [if_neg (fun hh => h ⟨hh.1, hh.2.1⟩)]
theorem names_yes {ts : List Bs} {s : Bs} {a : Int} (h : refsB (tsP ts) (baL s) = true) (h0 : 0 ≤ a) (h1 : a < s.length) : namesI ts s a = ((s.getD a.toNat 0).toNat : Int) - 48 ∧ 48 ≤ (s.getD a.toNat 0).toNat ∧ (s.getD a.toNat 0).toNat < 48 + ts.length := by
  obtain ⟨hr, hc⟩ := refs_list.1 h
  have hm := hc _ (getD_mem (s := s) (k := a.toNat) (by omega))
  refine ⟨?_, hm⟩
  unfold namesI
  rw [if_pos ⟨h0, h1, refs_list.2 ⟨hr, fun c hc' => by simp at hc'; subst hc'; simpa using hm⟩⟩]
theorem names_lt {ts : List Bs} {s : Bs} {a : Int} (h : refsB (tsP ts) (baL s) = true) (h0 : 0 ≤ a) : (0 ≤ namesI ts s a ↔ a < s.length) ∧ namesI ts s a < ts.length := by
  by_cases h1 : a < s.length
  · obtain ⟨e, h2, h3⟩ := names_yes h h0 h1
    rw [e]
    exact ⟨⟨fun _ => h1, fun _ => by omega⟩, by omega⟩
  · rw [names_no (fun hh => h1 hh.2)]
    have := (right_iff.1 (refs_list.1 h).1).1
    rw [tsP_len] at this
    exact ⟨⟨fun hh => by omega, fun hh => absurd hh h1⟩, by omega⟩
theorem head_parts {p : PProg} (h : headB p = true) : refsB (tsP p.types) (baL p.locals) = true ∧ refsB (tsP p.types) (baL p.globs) = true ∧ p.locals.length ≤ 8 ∧ p.globs.length ≤ 4 := by
  unfold headB at h
  simp only [Bool.and_eq_true, decide_eq_true_eq] at h
  exact ⟨h.1.1.1, h.1.1.2, h.1.2, h.2⟩
/-! ### One type more -/
section
variable {ts : List Bs}
end
end Go.Proofs.YtapjgobkpehgfaaDoor
