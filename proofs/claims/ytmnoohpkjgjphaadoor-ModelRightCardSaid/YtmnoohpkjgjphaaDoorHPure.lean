/-
  Programs that may be run, in plain lists: of which types locals and globals are, what is wrong of an instruction, the first error.
-/
import Derived.Test.YtmnoohpkjgjphaaDoorBPure
namespace Go.Proofs.YtmnoohpkjgjphaaDoor
set_option linter.unusedSimpArgs false
set_option linter.unusedVariables false

def baL (l : Bs) : ByteArray := ⟨l.toArray⟩
def tsP (ts : List Bs) : List ByteArray := ts.map baL
/-- The type that the letter at a names. -/
def namesI (ts : List Bs) (s : Bs) (a : Int) : Int := if 0 ≤ a ∧ a < s.length ∧ refsB (tsP ts) (baL [s.getD a.toNat 0]) = true then ((s.getD a.toNat 0).toNat : Int) - 48 else -1
def localI (p : PProg) (a : Int) : Int := namesI p.types p.locals a
def globI (p : PProg) (a : Int) : Int := namesI p.types p.globs a
def sizeP (ts : List Bs) (t : Int) : Int := sizeI (tsP ts) t
def toP (ts : List Bs) (t f : Int) : Int := toI (tsP ts) t f
def needTo (ts : List Bs) : Nat → Int
  | 0 => 0
  | k + 1 => max (needTo ts k) (sizeP ts k)
def needI (ts : List Bs) : Int := needTo ts ts.length
def numF (ts : List Bs) (t n : Int) : Bool := decide (0 ≤ n) && decide (n < sizeP ts t) && decide (toP ts t n < 0)
def sameT (a b : Int) : Bool := decide (0 ≤ a) && decide (a = b)
def jumpI (i : PIns) : Bool := decide (i.op = 3) || decide (i.op = 4)
def intsB (i : PIns) : Bool :=
  if i.op = 1 ∨ i.op = 4 ∨ i.op = 8 ∨ i.op = 14 ∨ i.op = 15 then decide (i.a < 8)
  else if i.op = 2 then decide (i.a < 8) && decide (i.b < 8) && decide (i.c < 8)
  else if i.op = 9 then decide (i.b < 8) else true
def kindsB (p : PProg) (i : PIns) : Bool :=
  if i.op = 5 ∨ i.op = 6 then decide (0 ≤ localI p i.a)
  else if i.op = 7 then sameT (localI p i.a) (localI p i.b)
  else if i.op = 15 then sameT (localI p i.b) (localI p i.c)
  else if i.op = 8 then decide (0 ≤ localI p i.b) && numF p.types (localI p i.b) i.n
  else if i.op = 9 then decide (0 ≤ localI p i.a) && numF p.types (localI p i.a) i.n
  else if i.op = 10 then decide (0 ≤ localI p i.b) && sameT (localI p i.a) (toP p.types (localI p i.b) i.n)
  else if i.op = 11 then decide (0 ≤ localI p i.a) && sameT (localI p i.b) (toP p.types (localI p i.a) i.n)
  else if i.op = 12 then sameT (localI p i.a) (globI p i.b)
  else if i.op = 13 then sameT (localI p i.b) (globI p i.a)
  else true
/-- What is wrong of an instruction among n. -/
def insE (p : PProg) (n : Int) (i : PIns) : Nat :=
  if rightL i = false then 4 else if jumpI i = true ∧ (i.n < 0 ∨ n < i.n) then 12 else if (intsB i && kindsB p i) = false then 5 else 0
def headB (p : PProg) : Bool := refsB (tsP p.types) (baL p.locals) && refsB (tsP p.types) (baL p.globs) && decide (p.locals.length ≤ 8) && decide (p.globs.length ≤ 4)
def firstE (p : PProg) (n : Int) : Nat → List PIns → Int × Nat
  | _, [] => (-1, 0)
  | k, i :: r => if insE p n i = 0 then firstE p n (k + 1) r else ((k : Int), insE p n i)
def checkL (p : PProg) : Int × Nat := if headB p = false then (-1, 5) else if p.code.length < 1 ∨ 200 < p.code.length then (-1, 3) else firstE p p.code.length 0 p.code

/-! ### The first error -/
section
variable {p q : PProg} {n m : Int}
theorem insE_nojump {i : PIns} (h : jumpI i = false) : insE p n i = insE p m i := by unfold insE; rw [h]; simp
theorem firstE_app : ∀ (a b : List PIns) (k : Nat), (∀ i ∈ a, insE p n i = 0) → firstE p n k (a ++ b) = firstE p n (k + a.length) b
  | [], b, k, _ => rfl
  | i :: a, b, k, h => by
    show (if insE p n i = 0 then firstE p n (k + 1) (a ++ b) else _) = _
    rw [if_pos (h i (by simp)), firstE_app a b (k + 1) (fun j hj => h j (by simp [hj]))]
    simp only [List.length_cons]
    rw [show k + 1 + a.length = k + (a.length + 1) by omega]
theorem firstE_all {l : List PIns} (k : Nat) (h : ∀ i ∈ l, insE p n i = 0) : firstE p n k l = (-1, 0) := by
  have := firstE_app l [] k h
  rw [List.append_nil] at this
  rw [this]; rfl
theorem firstE_at {a b : List PIns} {i : PIns} (k : Nat) (h : ∀ j ∈ a, insE p n j = 0) (hi : insE p n i ≠ 0) : firstE p n k (a ++ i :: b) = ((k : Int) + a.length, insE p n i) := by
  rw [firstE_app a _ k h]
  show (if insE p n i = 0 then _ else (((k + a.length : Nat) : Int), insE p n i)) = _
  rw [if_neg hi]; simp
theorem firstE_cases : ∀ (l : List PIns) (k : Nat), (∀ i ∈ l, insE p n i = 0) ∨ ∃ a i b, l = a ++ i :: b ∧ (∀ j ∈ a, insE p n j = 0) ∧ insE p n i ≠ 0
  | [], _ => .inl (by simp)
  | i :: r, k => by
    by_cases hi : insE p n i = 0
    · rcases firstE_cases r k with h | ⟨a, j, b, rfl, h1, h2⟩
      · exact .inl fun j hj => by rcases List.mem_cons.1 hj with rfl | hj; exact hi; exact h j hj
      · exact .inr ⟨i :: a, j, b, rfl, fun x hx => by rcases List.mem_cons.1 hx with rfl | hx; exact hi; exact h1 x hx, h2⟩
    · exact .inr ⟨[], i, r, rfl, by simp, hi⟩
theorem check_head (h : headB p = false) : checkL p = (-1, 5) := by unfold checkL; rw [if_pos h]
theorem check_big (h : headB p = true) (hn : p.code.length < 1 ∨ 200 < p.code.length) : checkL p = (-1, 3) := by unfold checkL; rw [if_neg (by rw [h]; simp), if_pos hn]
theorem check_code (h : headB p = true) (h1 : 1 ≤ p.code.length) (h2 : p.code.length ≤ 200) : checkL p = firstE p p.code.length 0 p.code := by unfold checkL; rw [if_neg (by rw [h]; simp), if_neg (by omega)]
/-- What Check answers, in its four ways. -/
theorem check_cases (p : PProg) : (headB p = false ∧ checkL p = (-1, 5)) ∨ (headB p = true ∧ (p.code.length < 1 ∨ 200 < p.code.length) ∧ checkL p = (-1, 3)) ∨
    (headB p = true ∧ 1 ≤ p.code.length ∧ p.code.length ≤ 200 ∧ (∀ i ∈ p.code, insE p p.code.length i = 0) ∧ checkL p = (-1, 0)) ∨
    (headB p = true ∧ 1 ≤ p.code.length ∧ p.code.length ≤ 200 ∧ ∃ a i b, p.code = a ++ i :: b ∧ (∀ j ∈ a, insE p p.code.length j = 0) ∧ insE p p.code.length i ≠ 0 ∧ checkL p = ((a.length : Int), insE p p.code.length i)) := by
  rcases hh : headB p with _ | _
  · exact .inl ⟨rfl, check_head hh⟩
  · by_cases hn : p.code.length < 1 ∨ 200 < p.code.length
    · exact .inr (.inl ⟨rfl, hn, check_big hh hn⟩)
    · have e := check_code hh (by omega) (by omega)
      rcases firstE_cases (p := p) (n := p.code.length) p.code 0 with h | ⟨a, i, b, h1, h2, h3⟩
      · exact .inr (.inr (.inl ⟨rfl, by omega, by omega, h, by rw [e]; exact firstE_all 0 h⟩))
      · refine .inr (.inr (.inr ⟨rfl, by omega, by omega, a, i, b, h1, h2, h3, ?_⟩))
        rw [e]
        have : firstE p p.code.length 0 p.code = firstE p p.code.length 0 (a ++ i :: b) := by rw [← h1]
        rw [this, firstE_at 0 h2 h3]; simp
theorem insE_pos {p : PProg} {n : Int} {i : PIns} : insE p n i = 0 ∨ insE p n i = 4 ∨ insE p n i = 12 ∨ insE p n i = 5 := by
  unfold insE; split
  · simp
  · split
    · simp
    · split <;> simp
theorem check_ok (h : (checkL p).2 = 0) : headB p = true ∧ 1 ≤ p.code.length ∧ p.code.length ≤ 200 ∧ (∀ i ∈ p.code, insE p p.code.length i = 0) ∧ checkL p = (-1, 0) := by
  rcases check_cases p with ⟨_, e⟩ | ⟨_, _, e⟩ | h' | ⟨_, _, _, a, i, b, _, _, h3, e⟩
  · rw [e] at h; cases h
  · rw [e] at h; cases h
  · exact h'
  · rw [e] at h; exact absurd h h3

/-! ### The first error stays -/
theorem law_first (h2 : (checkL p).2 ≠ 0) (hz : 0 ≤ (checkL p).1) (hj : ∀ i ∈ p.code, jumpI i = false) (more : List PIns) (hl : p.code.length + more.length ≤ 200) :
    checkL { p with code := p.code ++ more } = checkL p ∧ (0 < (checkL p).1 → checkL { p with code := p.code.take (checkL p).1.toNat } = (-1, 0)) ∧ (checkL p).1 < p.code.length := by
  rcases check_cases p with ⟨_, e⟩ | ⟨_, _, e⟩ | ⟨_, _, _, _, e⟩ | ⟨hh, g1, g2, a, i, b, hc, ha, hi, e⟩
  · rw [e] at hz; simp at hz
  · rw [e] at hz; simp at hz
  · rw [e] at hz; simp at hz
  · have hja : ∀ j ∈ a, jumpI j = false := fun j hj' => hj j (by rw [hc]; simp [hj'])
    have hji : jumpI i = false := hj i (by rw [hc]; simp)
    rw [e]
    refine ⟨?_, ?_, ?_⟩
    · rw [check_code (p := { p with code := p.code ++ more }) hh (by simp; omega) (by simp; omega)]
      have e1 : ({ p with code := p.code ++ more } : PProg).code = a ++ i :: (b ++ more) := by show p.code ++ more = _; rw [hc]; simp
      rw [e1, firstE_at 0 (fun j hj' => ?_) ?_]
      · have : insE { p with code := p.code ++ more } (a ++ i :: (b ++ more)).length i = insE p p.code.length i := insE_nojump hji
        rw [this]; simp
      · have : insE { p with code := p.code ++ more } (a ++ i :: (b ++ more)).length i = insE p p.code.length i := insE_nojump hji
        rw [this]; exact hi
      · have : insE { p with code := p.code ++ more } (a ++ i :: (b ++ more)).length j = insE p p.code.length j := insE_nojump (hja j hj')
        rw [this]; exact ha j hj'
    · intro hpos
      simp only at hpos
      have et : p.code.take a.length = a := by rw [hc]; simp
      have e2 : p.code.take ((a.length : Int), insE p p.code.length i).1.toNat = a := by simpa using et
      rw [e2]
      have hal : a.length ≤ p.code.length := by rw [hc]; simp
      rw [check_code (p := { p with code := a }) hh (by simp; omega) (by simp; omega)]
      exact firstE_all 0 fun j hj' => by
        have : insE { p with code := a } a.length j = insE p p.code.length j := insE_nojump (hja j hj')
        rw [this]; exact ha j hj'
    · simp only; rw [hc]; simp; omega

/-! ### Without the last instruction -/
theorem insE_less {i : PIns} (h : insE p n i = 0) (hm : m ≤ n) : insE p m i = if jumpI i = true ∧ m < i.n then 12 else 0 := by
  unfold insE at h ⊢
  by_cases hr : rightL i = false
  · rw [if_pos hr] at h; cases h
  · rw [if_neg hr] at h ⊢
    by_cases hj : jumpI i = true ∧ (i.n < 0 ∨ n < i.n)
    · rw [if_pos hj] at h; cases h
    · rw [if_neg hj] at h
      by_cases hk : jumpI i = true ∧ m < i.n
      · rw [if_pos ⟨hk.1, .inr hk.2⟩, if_pos hk]
      · rw [if_neg (fun hh => hh.2.elim (fun h0 => hj ⟨hh.1, .inl h0⟩) (fun h0 => hk ⟨hh.1, h0⟩)), if_neg hk]
        exact h
def behindB (l : List PIns) : Bool := l.any fun i => jumpI i && decide ((l.length : Int) < i.n)
theorem law_fewer (h : (checkL p).2 = 0) (hl : 2 ≤ p.code.length) :
    if behindB (p.code.take (p.code.length - 1)) = true then (checkL { p with code := p.code.take (p.code.length - 1) }).2 = 12 ∧ 0 ≤ (checkL { p with code := p.code.take (p.code.length - 1) }).1
    else checkL { p with code := p.code.take (p.code.length - 1) } = (-1, 0) := by
  obtain ⟨hh, g1, g2, hi, _⟩ := check_ok h
  have hlen : (p.code.take (p.code.length - 1)).length = p.code.length - 1 := by simp
  have hq : ∀ i ∈ p.code.take (p.code.length - 1), insE { p with code := p.code.take (p.code.length - 1) } ((p.code.take (p.code.length - 1)).length : Nat) i = if jumpI i = true ∧ ((p.code.take (p.code.length - 1)).length : Int) < i.n then 12 else 0 := fun i hm => by
    have := insE_less (m := ((p.code.take (p.code.length - 1)).length : Nat)) (hi i (List.mem_of_mem_take hm)) (by rw [hlen]; omega)
    exact this
  generalize hQ : p.code.take (p.code.length - 1) = Q at *
  rcases check_cases { p with code := Q } with ⟨h1, _⟩ | ⟨_, h1, _⟩ | ⟨_, _, _, h1, e⟩ | ⟨_, _, _, a, i, b, hc, ha, hne, e⟩
  · exact absurd (show headB p = false from h1) (by rw [hh]; simp)
  · simp only at h1; omega
  · rw [if_neg]
    · exact e
    · intro hb
      unfold behindB at hb
      obtain ⟨i, him, hib⟩ := List.any_eq_true.1 hb
      simp only [Bool.and_eq_true, decide_eq_true_eq] at hib
      have h3 := h1 i him
      have h4 := hq i him
      rw [if_pos hib] at h4
      rw [show insE { p with code := Q } (Q.length : Nat) i = 0 from h3] at h4
      cases h4
  · have hm : i ∈ Q := by show i ∈ ({ p with code := Q } : PProg).code; rw [hc]; simp
    have h4 := hq i hm
    have hne' : insE { p with code := Q } (Q.length : Nat) i ≠ 0 := hne
    by_cases hj : jumpI i = true ∧ (Q.length : Int) < i.n
    · rw [if_pos hj] at h4
      rw [if_pos, e]
      · exact ⟨h4, by simp⟩
      · unfold behindB
        exact List.any_eq_true.2 ⟨i, hm, by simp [hj.1, hj.2]⟩
    · rw [if_neg hj] at h4; exact absurd h4 hne'

/-! ### Each instruction alone -/
def prI : PIns := ⟨14, 0, 0, 0, 0⟩
theorem prI_ok : insE p n prI = 0 := by
  have h1 : rightL prI = true := by decide
  unfold insE
  rw [if_neg (by rw [h1]; simp), if_neg (by rintro ⟨h, _⟩; revert h; decide)]
  have h2 : (intsB prI && kindsB p prI) = true := by
    have : kindsB p prI = true := rfl
    rw [this]; decide
  rw [if_neg (by rw [h2]; simp)]
theorem law_each {i : PIns} {k : Nat} (h1 : 1 ≤ p.code.length) (h2 : p.code.length ≤ 200) (hk : k < p.code.length) :
    checkL { p with code := (List.replicate p.code.length prI).set k i } = if headB p = false then (-1, 5) else if insE p p.code.length i = 0 then (-1, 0) else ((k : Int), insE p p.code.length i) := by
  rcases hh : headB p with _ | _
  · rw [if_pos rfl]; exact check_head hh
  · rw [if_neg (by simp)]
    have hl : ({ p with code := (List.replicate p.code.length prI).set k i } : PProg).code.length = p.code.length := by simp
    rw [check_code (p := { p with code := (List.replicate p.code.length prI).set k i }) hh (by rw [hl]; exact h1) (by rw [hl]; exact h2), hl]
    have e : (List.replicate p.code.length prI).set k i = List.replicate k prI ++ i :: List.replicate (p.code.length - (k + 1)) prI := by
      rw [List.set_eq_take_append_cons_drop, if_pos (by simpa using hk)]
      simp [Nat.min_eq_left (Nat.le_of_lt hk)]
    have e' : ({ p with code := (List.replicate p.code.length prI).set k i } : PProg).code = List.replicate k prI ++ i :: List.replicate (p.code.length - (k + 1)) prI := e
    rw [e']
    have hpr : ∀ (P : PProg) (c : Nat), ∀ j ∈ List.replicate c prI, insE P p.code.length j = 0 := fun P c j hj => by
      rw [(List.mem_replicate.1 hj).2]; exact prI_ok
    by_cases hi : insE p p.code.length i = 0
    · rw [if_pos hi]
      refine firstE_all 0 fun j hj => ?_
      rcases List.mem_append.1 hj with hj | hj
      · exact hpr _ _ j hj
      · rcases List.mem_cons.1 hj with rfl | hj
        · exact hi
        · exact hpr _ _ j hj
    · rw [if_neg hi, firstE_at 0 (hpr _ k) (show insE { p with code := (List.replicate p.code.length prI).set k i } p.code.length i ≠ 0 from hi)]
      simp only [List.length_replicate]
      refine Prod.ext ?_ rfl
      simp
end
end Go.Proofs.YtmnoohpkjgjphaaDoor
