/-
  Facts that came in, opened.
  What came in: a byte; a slice of instructions.
  Programs that may be run, in plain lists: of which types locals and globals are, what is wrong of an instruction, the first error.
  In plain lists: what a program that may be run names is there; with one type more it may be run as it could be without.
  How a program may go, in plain lists: the next places, safepoints, what can be reached, by rounds and by ways.
-/
import Derived.Test.YtapjgobkpehgfaaGreatDoorUAD
import Derived.Test.YtapjgobkpehgfaaGreatDoorUAE
import Derived.Test.YtapjgobkpehgfaaGreatDoorBPure

/- Facts that came in, opened. -/
namespace Go.Proofs.YtapjgobkpehgfaaGreatDoor
set_option linter.unusedSimpArgs false
set_option linter.unusedVariables false
open Go.RowKit Go.ChangeShapes Go.WideShapes Go.Deep Go.Joins

section
variable {H : Type} {enc : TypeId × Value → H} {w : World} {base : Nat} {spare : Nat → Bool} {held : Bool}
theorem open_facts_at {tS tF tB : TypeId} {fs : Array Field} (hS : Tryz.prog.underlying tS = some (.slice tF)) (hF : Tryz.prog.underlying tF = some (.struct fs)) (hone : oneCellFields Tryz.prog fs = true) (hC : Tryz.prog.cellsOf tF = fs.size)
    (h3 : fs.map (·.type) = #[tB, tB, tB]) (hB : Tryz.prog.underlying tB = some .bool) {v : Value} {fuel : Nat} {x : DataW H × List MemPlace} (h : DataW.trod enc Tryz.prog w base spare held fuel tS [v] = some x) : ∃ l : List PFact, FactsAt w v l := by
  have hs : fs.size = 3 := by have := congrArg Array.size h3; simpa using this
  have hg : ∀ j, j < 3 → ∃ f, fs[j]? = some f ∧ f.type = tB := by
    intro j hj
    have hj' : j < fs.size := by omega
    refine ⟨fs[j], Array.getElem?_eq_getElem hj', ?_⟩
    have h4 := congrArg (fun a => a[j]?) h3
    simp only [Array.getElem?_map, Array.getElem?_eq_getElem hj', Option.map_some] at h4
    rcases (by omega : j = 0 ∨ j = 1 ∨ j = 2) with rfl | rfl | rfl <;> exact Option.some.inj h4
  obtain ⟨f0, g0, e0⟩ := hg 0 (by omega)
  obtain ⟨f1, g1, e1⟩ := hg 1 (by omega)
  obtain ⟨f2, g2, e2⟩ := hg 2 (by omega)
  rcases open_slice_fields hS hF hone hC h with ⟨hcs, _⟩ | ⟨a, len, cap, m, D, hcs, hl, hm, hmm, _, hx⟩
  · simp at hcs
    subst hcs
    exact ⟨[], rowS_nil w⟩
  · simp at hcs
    subst hcs
    have hlm : len ≤ m := by rw [hmm]; split <;> omega
    have key : ∀ i, i < len → ∃ q : PFact, ∀ t u, (factC q)[t]? = some u → w.cell? (a.add (i * 3 + t)) = some u := by
      intro i hi
      obtain ⟨ys, n, hyl, hf⟩ := hx i (by omega)
      obtain ⟨v0, y0, c0, _, t0⟩ := hf 0 _ g0
      obtain ⟨v1, y1, c1, _, t1⟩ := hf 1 _ g1
      obtain ⟨v2, y2, c2, _, t2⟩ := hf 2 _ g2
      rw [e0] at t0; rw [e1] at t1; rw [e2] at t2
      rw [hs] at c0 c1 c2
      obtain ⟨x0, k0, _⟩ := DataW.trod_bool hB t0
      obtain ⟨x1, k1, _⟩ := DataW.trod_bool hB t1
      obtain ⟨x2, k2, _⟩ := DataW.trod_bool hB t2
      simp at k0 k1 k2
      subst k0 k1 k2
      refine ⟨⟨x0, x1, x2⟩, fun t u hu => ?_⟩
      rcases t with _ | _ | _ | t
      · simp [factC] at hu; subst hu; exact c0
      · simp [factC] at hu; subst hu; exact c1
      · simp [factC] at hu; subst hu; exact c2
      · simp [factC] at hu
    obtain ⟨f, hf⟩ : ∃ f : Nat → PFact, ∀ i, i < len → ∀ t u, (factC (f i))[t]? = some u → w.cell? (a.add (i * 3 + t)) = some u := by
      refine ⟨fun i => if h : i < len then Classical.choose (key i h) else noFact, fun i hi => ?_⟩
      simp only [hi, dif_pos]
      exact Classical.choose_spec (key i hi)
    refine ⟨(List.range len).map f, some a, cap, by simp, by simpa using hl, hm, fun j i hj => ?_⟩
    obtain ⟨hjl, he⟩ := List.getElem?_eq_some_iff.1 hj
    have hjl' : j < len := by simpa using hjl
    have hfi : f j = i := by simpa using he
    have hc := hf j hjl'
    rw [hfi] at hc
    have h0 := hc 0 _ rfl
    have h00 := hf 0 (by omega) 0 _ rfl
    rw [show a.add (0 * 3 + 0) = a by simp [Addr.add]] at h00
    have hsp := spot_of h00
    obtain ⟨b, off, sp⟩ := a
    dsimp only at hsp
    subst hsp
    rw [plain_add] at h0
    refine ⟨b, off, rfl, World.block_lt_of_cell? _ _ h0, fun t u hu => ?_⟩
    have := hc t u hu
    rw [plain_add] at this
    rw [Nat.add_assoc]; exact this
set_option maxRecDepth 100000 in
theorem open_facts {r : Reach} {b0 : Nat} {v : Value} {d : DataW H} {ps : List MemPlace} (hv : Value.okWide Tryz.prog w r b0 29 v) (h : DataW.Trod enc Tryz.prog w base spare held 29 v d ps) : ∃ l : List PFact, FactsAt w v l ∧ FormS v := by
  obtain ⟨a, n, c, rfl⟩ := okWide_slice Tryz.underlying29 hv
  obtain ⟨fuel, hf⟩ := h
  have hc : Value.cells (.slice a n c) = #[.slice a n c] := rfl
  rw [hc] at hf
  obtain ⟨l, hl⟩ := open_facts_at (tB := 4) Tryz.underlying29 Tryz.underlying35 (by kernel_rfl) (by kernel_rfl) (by simp) Tryz.underlying4 hf
  refine ⟨l, hl, ?_⟩
  rcases open_slice_fields Tryz.underlying29 Tryz.underlying35 (by kernel_rfl) (by kernel_rfl) hf with ⟨hcs, _⟩ | ⟨a', len, cap, m, D, hcs, _⟩
  · simp at hcs
    obtain ⟨rfl, rfl, rfl⟩ := hcs
    exact .inl rfl
  · simp at hcs
    obtain ⟨rfl, rfl, rfl⟩ := hcs
    exact .inr ⟨_, _, _, rfl⟩
set_option maxRecDepth 100000 in
theorem open_rfacts {r : Reach} {b0 : Nat} {v : Value} {d : DataW H} {ps : List MemPlace} (hv : Value.okWide Tryz.prog w r b0 26 v) (h : DataW.Trod enc Tryz.prog w base spare held 26 v d ps) : ∃ l : List PFact, FactsAt w v l ∧ FormS v := by
  obtain ⟨a, n, c, rfl⟩ := okWide_slice Tryz.underlying26 hv
  obtain ⟨fuel, hf⟩ := h
  have hc : Value.cells (.slice a n c) = #[.slice a n c] := rfl
  rw [hc] at hf
  obtain ⟨l, hl⟩ := open_facts_at (tB := 4) Tryz.underlying26 Tryz.underlying36 (by kernel_rfl) (by kernel_rfl) (by simp) Tryz.underlying4 hf
  refine ⟨l, hl, ?_⟩
  rcases open_slice_fields Tryz.underlying26 Tryz.underlying36 (by kernel_rfl) (by kernel_rfl) hf with ⟨hcs, _⟩ | ⟨a', len, cap, m, D, hcs, _⟩
  · simp at hcs
    obtain ⟨rfl, rfl, rfl⟩ := hcs
    exact .inl rfl
  · simp at hcs
    obtain ⟨rfl, rfl, rfl⟩ := hcs
    exact .inr ⟨_, _, _, rfl⟩
end
end Go.Proofs.YtapjgobkpehgfaaGreatDoor

/- What came in: a byte; a slice of instructions. -/
namespace Go.Proofs.YtapjgobkpehgfaaGreatDoor
set_option linter.unusedSimpArgs false
set_option linter.unusedVariables false
open Go.RowKit Go.ChangeShapes Go.WideShapes Go.Deep Go.Joins

section
variable {H : Type} {enc : TypeId × Value → H} {w : World} {base : Nat} {spare : Nat → Bool} {held : Bool}
set_option maxRecDepth 100000 in
theorem open_u8 {r : Reach} {b0 : Nat} {v : Value} {d : DataW H} {ps : List MemPlace} (hv : Value.okWide Tryz.prog w r b0 5 v) (h : DataW.Trod enc Tryz.prog w base spare held 5 v d ps) : ∃ n : Int, v = .int .u8 n ∧ d = .lit (.int .u8 n) ∧ ps = [] ∧ 0 ≤ n ∧ n ≤ 255 := by
  obtain ⟨n, e, e2, e3, hw⟩ := open_int Tryz.underlying5 hv h
  exact ⟨n, e, e2, e3, (of_wf_u8 hw).1, (of_wf_u8 hw).2⟩
set_option maxRecDepth 100000 in
theorem open_codeF {r : Reach} {b0 : Nat} {v : Value} {d : DataW H} {ps : List MemPlace} (hv : Value.okWide Tryz.prog w r b0 23 v) (h : DataW.Trod enc Tryz.prog w base spare held 23 v d ps) : ∃ code : List PIns, InsRow w v code ∧ (∀ i ∈ code, OkI i) ∧ FormS v := by
  obtain ⟨a, n, c, rfl⟩ := okWide_slice Tryz.underlying23 hv
  obtain ⟨fuel, hf⟩ := h
  have hc : Value.cells (.slice a n c) = #[.slice a n c] := rfl
  rw [hc] at hf
  obtain ⟨code, h1, h2⟩ := open_code hf
  refine ⟨code, h1, h2, ?_⟩
  rcases open_slice_fields Tryz.underlying23 Tryz.underlying46 (by kernel_rfl) cellsOf_ins hf with ⟨hcs, _⟩ | ⟨a', len, cap, m, D, hcs, _⟩
  · simp at hcs
    obtain ⟨rfl, rfl, rfl⟩ := hcs
    exact .inl rfl
  · simp at hcs
    obtain ⟨rfl, rfl, rfl⟩ := hcs
    exact .inr ⟨_, _, _, rfl⟩
end
end Go.Proofs.YtapjgobkpehgfaaGreatDoor

/- Programs that may be run, in plain lists: of which types locals and globals are, what is wrong of an instruction, the first error. -/
namespace Go.Proofs.YtapjgobkpehgfaaGreatDoor
set_option linter.unusedSimpArgs false
set_option linter.unusedVariables false

def baL (l : Bs) : ByteArray := ⟨l.toArray⟩
def tsP (ts : List Bs) : List ByteArray := ts.map baL
/-- The type that the letter at a names. -/
def namesI (ts : List Bs) (s : Bs) (a : Int) : Int := if 0 ≤ a ∧ a < s.length ∧ refsB (tsP ts) (baL [s.getD a.toNat 0]) = true then ((s.getD a.toNat 0).toNat : Int) - 48 else -1
def localI (p : PProg) (a : Int) : Int := namesI p.types p.locals a
def globI (p : PProg) (a : Int) : Int := namesI p.types p.globs a
def sizeP (ts : List Bs) (t : Int) : Int := sizeI (tsP ts) t
def toP (ts : List Bs) (t f : Int) : Int := toI (tsP ts) t f
def numF (ts : List Bs) (t n : Int) : Bool := decide (0 ≤ n) && decide (n < sizeP ts t) && decide (toP ts t n < 0)
def sameT (a b : Int) : Bool := decide (0 ≤ a) && decide (a = b)
def jumpI (i : PIns) : Bool := decide (i.op = 3) || decide (i.op = 4)
def intsB (i : PIns) : Bool :=
  if i.op = 1 ∨ i.op = 4 ∨ i.op = 8 ∨ i.op = 14 ∨ i.op = 15 then decide (i.a < 8)
  else if i.op = 2 then decide (i.a < 8) && decide (i.b < 8) && decide (i.c < 8)
  else if i.op = 9 then decide (i.b < 8) else true
def kindsB (p : PProg) (i : PIns) : Bool :=
  if i.op = 5 ∨ i.op = 6 then decide (0 ≤ localI p i.a)
  else if i.op = 7 then sameT (localI p i.a) (localI p i.b)
  else if i.op = 15 then sameT (localI p i.b) (localI p i.c)
  else if i.op = 8 then decide (0 ≤ localI p i.b) && numF p.types (localI p i.b) i.n
  else if i.op = 9 then decide (0 ≤ localI p i.a) && numF p.types (localI p i.a) i.n
  else if i.op = 10 then decide (0 ≤ localI p i.b) && sameT (localI p i.a) (toP p.types (localI p i.b) i.n)
  else if i.op = 11 then decide (0 ≤ localI p i.a) && sameT (localI p i.b) (toP p.types (localI p i.a) i.n)
  else if i.op = 12 then sameT (localI p i.a) (globI p i.b)
  else if i.op = 13 then sameT (localI p i.b) (globI p i.a)
  else true
/-- What is wrong of an instruction among n. -/
def insE (p : PProg) (n : Int) (i : PIns) : Nat :=
  if rightL i = false then 4 else if jumpI i = true ∧ (i.n < 0 ∨ n < i.n) then 12 else if (intsB i && kindsB p i) = false then 5 else 0
def headB (p : PProg) : Bool := refsB (tsP p.types) (baL p.locals) && refsB (tsP p.types) (baL p.globs) && decide (p.locals.length ≤ 8) && decide (p.globs.length ≤ 4)
def firstE (p : PProg) (n : Int) : Nat → List PIns → Int × Nat
  | _, [] => (-1, 0)
  | k, i :: r => if insE p n i = 0 then firstE p n (k + 1) r else ((k : Int), insE p n i)
def checkL (p : PProg) : Int × Nat := if headB p = false then (-1, 5) else if p.code.length < 1 ∨ 200 < p.code.length then (-1, 3) else firstE p p.code.length 0 p.code

/-! ### The first error -/
section
variable {p q : PProg} {n m : Int}
theorem firstE_app : ∀ (a b : List PIns) (k : Nat), (∀ i ∈ a, insE p n i = 0) → firstE p n k (a ++ b) = firstE p n (k + a.length) b
  | [], b, k, _ => rfl
  | i :: a, b, k, h => by
    show (if insE p n i = 0 then firstE p n (k + 1) (a ++ b) else _) = _
    rw [if_pos (h i (by simp)), firstE_app a b (k + 1) (fun j hj => h j (by simp [hj]))]
    simp only [List.length_cons]
    rw [show k + 1 + a.length = k + (a.length + 1) by omega]
theorem firstE_all {l : List PIns} (k : Nat) (h : ∀ i ∈ l, insE p n i = 0) : firstE p n k l = (-1, 0) := by
  have := firstE_app l [] k h
  rw [List.append_nil] at this
  rw [this]; rfl
theorem firstE_at {a b : List PIns} {i : PIns} (k : Nat) (h : ∀ j ∈ a, insE p n j = 0) (hi : insE p n i ≠ 0) : firstE p n k (a ++ i :: b) = ((k : Int) + a.length, insE p n i) := by
  rw [firstE_app a _ k h]
  show (if insE p n i = 0 then _ else (((k + a.length : Nat) : Int), insE p n i)) = _
  rw [if_neg hi]; simp
theorem firstE_cases : ∀ (l : List PIns) (k : Nat), (∀ i ∈ l, insE p n i = 0) ∨ ∃ a i b, l = a ++ i :: b ∧ (∀ j ∈ a, insE p n j = 0) ∧ insE p n i ≠ 0
  | [], _ => .inl (by simp)
  | i :: r, k => by
    by_cases hi : insE p n i = 0
    · rcases firstE_cases r k with h | ⟨a, j, b, rfl, h1, h2⟩
      · exact .inl fun j hj => by rcases List.mem_cons.1 hj with rfl | hj; exact hi; exact h j hj
      · exact .inr ⟨i :: a, j, b, rfl, fun x hx => by rcases List.mem_cons.1 hx with rfl | hx; exact hi; exact h1 x hx, h2⟩
    · exact .inr ⟨[], i, r, rfl, by simp, hi⟩
theorem check_head (h : headB p = false) : checkL p = (-1, 5) := by unfold checkL; rw [if_pos h]
theorem check_big (h : headB p = true) (hn : p.code.length < 1 ∨ 200 < p.code.length) : checkL p = (-1, 3) := by unfold checkL; rw [if_neg (by rw [h]; simp), if_pos hn]
theorem check_code (h : headB p = true) (h1 : 1 ≤ p.code.length) (h2 : p.code.length ≤ 200) : checkL p = firstE p p.code.length 0 p.code := by unfold checkL; rw [if_neg (by rw [h]; simp), if_neg (by omega)]
/-- What Check answers, in its four ways. -/
theorem check_cases (p : PProg) : (headB p = false ∧ checkL p = (-1, 5)) ∨ (headB p = true ∧ (p.code.length < 1 ∨ 200 < p.code.length) ∧ checkL p = (-1, 3)) ∨
    (headB p = true ∧ 1 ≤ p.code.length ∧ p.code.length ≤ 200 ∧ (∀ i ∈ p.code, insE p p.code.length i = 0) ∧ checkL p = (-1, 0)) ∨
    (headB p = true ∧ 1 ≤ p.code.length ∧ p.code.length ≤ 200 ∧ ∃ a i b, p.code = a ++ i :: b ∧ (∀ j ∈ a, insE p p.code.length j = 0) ∧ insE p p.code.length i ≠ 0 ∧ checkL p = ((a.length : Int), insE p p.code.length i)) := by
  rcases hh : headB p with _ | _
  · exact .inl ⟨rfl, check_head hh⟩
  · by_cases hn : p.code.length < 1 ∨ 200 < p.code.length
    · exact .inr (.inl ⟨rfl, hn, check_big hh hn⟩)
    · have e := check_code hh (by omega) (by omega)
      rcases firstE_cases (p := p) (n := p.code.length) p.code 0 with h | ⟨a, i, b, h1, h2, h3⟩
      · exact .inr (.inr (.inl ⟨rfl, by omega, by omega, h, by rw [e]; exact firstE_all 0 h⟩))
      · refine .inr (.inr (.inr ⟨rfl, by omega, by omega, a, i, b, h1, h2, h3, ?_⟩))
        rw [e]
        have : firstE p p.code.length 0 p.code = firstE p p.code.length 0 (a ++ i :: b) := by rw [← h1]
        rw [this, firstE_at 0 h2 h3]; simp
theorem check_ok (h : (checkL p).2 = 0) : headB p = true ∧ 1 ≤ p.code.length ∧ p.code.length ≤ 200 ∧ (∀ i ∈ p.code, insE p p.code.length i = 0) ∧ checkL p = (-1, 0) := by
  rcases check_cases p with ⟨_, e⟩ | ⟨_, _, e⟩ | h' | ⟨_, _, _, a, i, b, _, _, h3, e⟩
  · rw [e] at h; cases h
  · rw [e] at h; cases h
  · exact h'
  · rw [e] at h; exact absurd h h3

/-! ### Each instruction alone -/
def prI : PIns := ⟨14, 0, 0, 0, 0⟩
end
end Go.Proofs.YtapjgobkpehgfaaGreatDoor

/- In plain lists: what a program that may be run names is there; with one type more it may be run as it could be without. -/
namespace Go.Proofs.YtapjgobkpehgfaaGreatDoor
set_option linter.unusedSimpArgs false
set_option linter.unusedVariables false

theorem tsP_len (ts : List Bs) : (tsP ts).length = ts.length := by simp [tsP]
theorem ty_tsP {ts : List Bs} {t : Nat} (h : t < ts.length) : ty (tsP ts) t = baL (ts.getD t []) := by
  unfold ty tsP
  rw [List.getD_eq_getElem?_getD, List.getElem?_map, List.getElem?_eq_getElem h, List.getD_eq_getElem?_getD, List.getElem?_eq_getElem h]
  rfl
theorem refs_list {ts : List Bs} {s : Bs} : refsB (tsP ts) (baL s) = true ↔ rightB (tsP ts) = true ∧ ∀ c ∈ s, 48 ≤ c.toNat ∧ c.toNat < 48 + ts.length := by
  rw [refs_iff]
  refine and_congr_right fun _ => ⟨fun h c hc => ?_, fun h k hk => ?_⟩
  · obtain ⟨k, hk, rfl⟩ := List.getElem_of_mem hc
    have := dig_iff.1 (h k hk)
    rw [tsP_len] at this
    have e : byt (baL s) k = s[k].toNat := by
      show (s.getD k 0).toNat = _
      rw [List.getD_eq_getElem?_getD, List.getElem?_eq_getElem hk]; rfl
    rw [e] at this; exact this
  · have hk' : k < s.length := hk
    have e : byt (baL s) k = s[k].toNat := by
      show (s.getD k 0).toNat = _
      rw [List.getD_eq_getElem?_getD, List.getElem?_eq_getElem hk']; rfl
    rw [dig_iff, tsP_len, e]
    exact h _ (List.getElem_mem hk')
theorem getD_mem {s : Bs} {k : Nat} (h : k < s.length) : s.getD k 0 ∈ s := by
  rw [List.getD_eq_getElem?_getD, List.getElem?_eq_getElem h]
  exact List.getElem_mem h
theorem names_no {ts : List Bs} {s : Bs} {a : Int} (h : ¬ (0 ≤ a ∧ a < s.length)) : namesI ts s a = -1 := by
  unfold namesI; rw [if_neg (fun hh => h ⟨hh.1, hh.2.1⟩)]
theorem names_yes {ts : List Bs} {s : Bs} {a : Int} (h : refsB (tsP ts) (baL s) = true) (h0 : 0 ≤ a) (h1 : a < s.length) : namesI ts s a = ((s.getD a.toNat 0).toNat : Int) - 48 ∧ 48 ≤ (s.getD a.toNat 0).toNat ∧ (s.getD a.toNat 0).toNat < 48 + ts.length := by
  obtain ⟨hr, hc⟩ := refs_list.1 h
  have hm := hc _ (getD_mem (s := s) (k := a.toNat) (by omega))
  refine ⟨?_, hm⟩
  unfold namesI
  rw [if_pos ⟨h0, h1, refs_list.2 ⟨hr, fun c hc' => by simp at hc'; subst hc'; simpa using hm⟩⟩]
theorem names_lt {ts : List Bs} {s : Bs} {a : Int} (h : refsB (tsP ts) (baL s) = true) (h0 : 0 ≤ a) : (0 ≤ namesI ts s a ↔ a < s.length) ∧ namesI ts s a < ts.length := by
  by_cases h1 : a < s.length
  · obtain ⟨e, h2, h3⟩ := names_yes h h0 h1
    rw [e]
    exact ⟨⟨fun _ => h1, fun _ => by omega⟩, by omega⟩
  · rw [names_no (fun hh => h1 hh.2)]
    have := (right_iff.1 (refs_list.1 h).1).1
    rw [tsP_len] at this
    exact ⟨⟨fun hh => by omega, fun hh => absurd hh h1⟩, by omega⟩
theorem head_parts {p : PProg} (h : headB p = true) : refsB (tsP p.types) (baL p.locals) = true ∧ refsB (tsP p.types) (baL p.globs) = true ∧ p.locals.length ≤ 8 ∧ p.globs.length ≤ 4 := by
  unfold headB at h
  simp only [Bool.and_eq_true, decide_eq_true_eq] at h
  exact ⟨h.1.1.1, h.1.1.2, h.1.2, h.2⟩
theorem sizeP_one {ts : List Bs} {t : Nat} (h : rightB (tsP ts) = true) (ht : t < ts.length) : sizeP ts t = (ts.getD t []).length ∧ 1 ≤ sizeP ts t ∧ sizeP ts t ≤ 6 := by
  have ho : oneB (tsP ts) t = true := one_t (by omega) (by rw [tsP_len]; omega) h
  have e : sizeP ts t = (ts.getD t []).length := by
    unfold sizeP sizeI
    rw [if_pos ho, Int.toNat_natCast, ty_tsP ht]; rfl
  have hk := ok_iff.1 ((right_iff.1 h).2.2 t (by rw [tsP_len]; exact ht))
  rw [ty_tsP ht] at hk
  have : (baL (ts.getD t [])).size = (ts.getD t []).length := rfl
  rw [this] at hk
  exact ⟨e, by rw [e]; omega, by rw [e]; omega⟩
/-! ### One type more -/
section
variable {ts : List Bs}
end
end Go.Proofs.YtapjgobkpehgfaaGreatDoor

/- How a program may go, in plain lists: the next places, safepoints, what can be reached, by rounds and by ways. -/
namespace Go.Proofs.YtapjgobkpehgfaaGreatDoor
set_option linter.unusedSimpArgs false
set_option linter.unusedVariables false

/-- The next places of one instruction at a place. -/
def nextI (i : PIns) (k : Nat) : List Nat :=
  if i.op = 3 then [i.n.toNat]
  else if i.op = 4 then (if i.n < (k : Int) + 1 then [i.n.toNat, k + 1] else if (k : Int) + 1 < i.n then [k + 1, i.n.toNat] else [k + 1])
  else [k + 1]
def nextL (q : PProg) (k : Nat) : List Nat := match q.code[k]? with
  | some i => nextI i k
  | none => []
def safeL (q : PProg) (k : Nat) : Bool := match q.code[k]? with
  | some i => decide (i.op = 5) || (decide (i.op = 3) || decide (i.op = 4)) && decide (i.n ≤ (k : Int))
  | none => false
/-- All jumps go to places that there are. -/
def InP (q : PProg) : Prop := ∀ i ∈ q.code, i.op = 3 ∨ i.op = 4 → 0 ≤ i.n ∧ i.n ≤ q.code.length
theorem inP_check {q : PProg} (h : (checkL q).2 = 0) : InP q := fun i hi ho => by
  have he := (check_ok h).2.2.2.1 i hi
  unfold insE at he
  have hj : jumpI i = true := by unfold jumpI; simp; exact ho
  by_cases h1 : rightL i = false
  · rw [if_pos h1] at he; cases he
  rw [if_neg h1] at he
  by_cases h2 : jumpI i = true ∧ (i.n < 0 ∨ (q.code.length : Int) < i.n)
  · rw [if_pos h2] at he; cases he
  · have := not_and.1 h2 hj; omega
section
variable {q : PProg}
theorem next_le (h : InP q) {k n : Nat} (hn : n ∈ nextL q k) : n ≤ q.code.length ∧ k < q.code.length := by
  unfold nextL at hn
  rcases hi : q.code[k]? with _ | i
  · rw [hi] at hn; simp at hn
  · rw [hi] at hn
    have hlt := (List.getElem?_eq_some_iff.1 hi).1
    have hp := h i (List.mem_of_getElem? hi)
    simp only [nextI] at hn
    by_cases h3 : i.op = 3
    · rw [if_pos h3] at hn
      have := hp (.inl h3)
      simp at hn; omega
    · rw [if_neg h3] at hn
      by_cases h4 : i.op = 4
      · rw [if_pos h4] at hn
        have := hp (.inr h4)
        split at hn
        · simp at hn; omega
        · split at hn
          · simp at hn; omega
          · simp at hn; omega
      · rw [if_neg h4] at hn
        simp at hn; omega
/-- Where there is no safepoint one goes ahead. -/
theorem next_ahead {k n : Nat} (hn : n ∈ nextL q k) (hs : safeL q k = false) : k < n := by
  unfold nextL at hn
  unfold safeL at hs
  rcases hi : q.code[k]? with _ | i
  · rw [hi] at hn; simp at hn
  · rw [hi] at hn hs
    simp only [nextI] at hn
    simp only [Bool.or_eq_false_iff, Bool.and_eq_false_iff, decide_eq_false_iff_not] at hs
    by_cases h3 : i.op = 3
    · rw [if_pos h3] at hn
      simp at hn; omega
    · rw [if_neg h3] at hn
      by_cases h4 : i.op = 4
      · rw [if_pos h4] at hn
        split at hn
        · simp at hn; omega
        · split at hn
          · simp at hn; omega
          · simp at hn; omega
      · rw [if_neg h4] at hn
        simp at hn; omega
/-- A way of so many steps and one. -/
def WayN (q : PProg) : Nat → Nat → Nat → Prop
  | 0, a, b => b ∈ nextL q a
  | m + 1, a, b => ∃ c, WayN q m a c ∧ b ∈ nextL q c
def Way (q : PProg) (a b : Nat) : Prop := ∃ m, WayN q m a b
theorem Way.one {a b : Nat} (h : b ∈ nextL q a) : Way q a b := ⟨0, h⟩
theorem Way.step {a b c : Nat} (h : Way q a b) (hn : c ∈ nextL q b) : Way q a c := by
  obtain ⟨m, hm⟩ := h
  exact ⟨m + 1, b, hm, hn⟩
theorem Way.trans {a b c : Nat} (h : Way q a b) (h2 : Way q b c) : Way q a c := by
  obtain ⟨m, hm⟩ := h2
  induction m generalizing c with
  | zero => exact h.step hm
  | succ m ih =>
    obtain ⟨d, hd, hn⟩ := hm
    exact (ih hd).step hn
theorem Way.le (h : InP q) {a b : Nat} (hr : Way q a b) : b ≤ q.code.length := by
  obtain ⟨m, hm⟩ := hr
  cases m with
  | zero => exact (next_le h hm).1
  | succ m =>
    obtain ⟨d, _, hn⟩ := hm
    exact (next_le h hn).1

/-! ### By rounds -/
def markK (had : List Bool) (n : Nat) : List Bool := had.set n true
def stepK (q : PProg) (a : Nat) (had : List Bool) (k : Nat) : List Bool := if k = a ∨ had.getD k false = true then (nextL q k).foldl markK had else had
def roundK (q : PProg) (a : Nat) (had : List Bool) : List Bool := (List.range (q.code.length + 1)).foldl (stepK q a) had
def roundsK (q : PProg) (a : Nat) : Nat → List Bool → List Bool
  | 0, had => had
  | r + 1, had => roundsK q a r (roundK q a had)
def wayL (q : PProg) (a : Nat) : List Bool := roundsK q a (q.code.length + 1) (List.replicate (q.code.length + 1) false)
def loopL (q : PProg) (a : Nat) : Bool := (wayL q a).getD a false
def leB (x y : List Bool) : Prop := x.length = y.length ∧ ∀ k, x.getD k false = true → y.getD k false = true
theorem leB_refl (x : List Bool) : leB x x := ⟨rfl, fun _ h => h⟩
theorem leB.trans {x y z : List Bool} (h : leB x y) (h2 : leB y z) : leB x z := ⟨h.1.trans h2.1, fun k hk => h2.2 k (h.2 k hk)⟩
theorem getD_setB {l : List Bool} {k j : Nat} : (l.set k true).getD j false = if k = j ∧ k < l.length then true else l.getD j false := by
  rw [List.getD_eq_getElem?_getD, List.getElem?_set]
  by_cases h : k = j
  · subst h
    by_cases h2 : k < l.length
    · simp [h2]
    · simp [h2, List.getElem?_eq_none (Nat.le_of_not_lt h2)]
  · simp [h]
theorem mark_le (had : List Bool) (n : Nat) : leB had (markK had n) := ⟨by unfold markK; simp, fun k hk => by unfold markK; rw [getD_setB]; split; rfl; exact hk⟩
theorem marks_le (ns : List Nat) (had : List Bool) : leB had (ns.foldl markK had) := by
  induction ns generalizing had with
  | nil => exact leB_refl _
  | cons n ns ih => exact (mark_le had n).trans (ih _)
theorem step_le (a : Nat) (had : List Bool) (k : Nat) : leB had (stepK q a had k) := by
  unfold stepK
  split
  · exact marks_le _ _
  · exact leB_refl _
theorem steps_le (a : Nat) (ks : List Nat) (had : List Bool) : leB had (ks.foldl (stepK q a) had) := by
  induction ks generalizing had with
  | nil => exact leB_refl _
  | cons n ns ih => exact (step_le a had n).trans (ih _)
theorem round_le (a : Nat) (had : List Bool) : leB had (roundK q a had) := steps_le a _ had
theorem rounds_le (a r : Nat) (had : List Bool) : leB had (roundsK q a r had) := by
  induction r generalizing had with
  | zero => exact leB_refl _
  | succ r ih => exact (round_le a had).trans (ih _)
/-- What is marked can be reached. -/
def OkB (q : PProg) (a : Nat) (had : List Bool) : Prop := ∀ k, had.getD k false = true → Way q a k
theorem marks_ok {a : Nat} (ns : List Nat) (had : List Bool) (h : OkB q a had) (hn : ∀ n ∈ ns, Way q a n) : OkB q a (ns.foldl markK had) := by
  induction ns generalizing had with
  | nil => exact h
  | cons n ns ih =>
    refine ih _ (fun k hk => ?_) (fun m hm => hn m (by simp [hm]))
    unfold markK at hk
    rw [getD_setB] at hk
    split at hk
    · next e => rw [← e.1]; exact hn n (by simp)
    · exact h k hk
theorem step_ok {a : Nat} (had : List Bool) (k : Nat) (h : OkB q a had) : OkB q a (stepK q a had k) := by
  unfold stepK
  split
  · next e =>
    refine marks_ok _ _ h (fun n hn => ?_)
    rcases e with rfl | e
    · exact .one hn
    · exact (h k e).step hn
  · exact h
theorem steps_ok {a : Nat} (ks : List Nat) (had : List Bool) (h : OkB q a had) : OkB q a (ks.foldl (stepK q a) had) := by
  induction ks generalizing had with
  | nil => exact h
  | cons n ns ih => exact ih _ (step_ok _ _ h)
theorem rounds_ok {a : Nat} (r : Nat) (had : List Bool) (h : OkB q a had) : OkB q a (roundsK q a r had) := by
  induction r generalizing had with
  | zero => exact h
  | succ r ih => exact ih _ (steps_ok _ _ h)
/-- Nothing is left to be marked. -/
def Shut (q : PProg) (a : Nat) (had : List Bool) : Prop := ∀ k, k ≤ q.code.length → (k = a ∨ had.getD k false = true) → ∀ n ∈ nextL q k, had.getD n false = true
theorem leB.eq {x y : List Bool} (h : leB x y) (h2 : leB y x) : x = y := by
  refine List.ext_getElem h.1 fun i h1 h3 => ?_
  have a := h.2 i
  have b := h2.2 i
  simp only [List.getD_eq_getElem?_getD, List.getElem?_eq_getElem h1, List.getElem?_eq_getElem h3, Option.getD_some] at a b
  rcases hx : x[i] with _ | _ <;> rcases hy : y[i] with _ | _ <;> simp_all
theorem marks_all (ns : List Nat) (had : List Bool) (h : ∀ n ∈ ns, n < had.length) : ∀ n ∈ ns, (ns.foldl markK had).getD n false = true := by
  induction ns generalizing had with
  | nil => simp
  | cons n ns ih =>
    intro m hm
    rcases List.mem_cons.1 hm with rfl | hm
    · refine (marks_le ns _).2 m ?_
      unfold markK
      rw [getD_setB, if_pos ⟨rfl, h m (by simp)⟩]
    · exact ih _ (fun k hk => by unfold markK; rw [List.length_set]; exact h k (by simp [hk])) m hm
/-- A round that marks nothing new tells that nothing is left. -/
theorem shut_of_same {a : Nat} (hin : InP q) {had : List Bool} (hl : had.length = q.code.length + 1) (h : roundK q a had = had) : Shut q a had := by
  intro k hk hc n hn
  have hsplit : List.range (q.code.length + 1) = List.range k ++ k :: (List.range (q.code.length - k)).map (· + (k + 1)) := by
    rw [show q.code.length + 1 = k + (1 + (q.code.length - k)) by omega, List.range_add, List.range_add, List.range_one]
    simp [Function.comp_def, Nat.add_comm, Nat.add_left_comm, Nat.add_assoc]
  have h0 := h
  unfold roundK at h0
  rw [hsplit, List.foldl_append, List.foldl_cons] at h0
  have e1 : (List.range k).foldl (stepK q a) had = had := by
    refine leB.eq ?_ (steps_le a _ had)
    have := (step_le (q := q) a ((List.range k).foldl (stepK q a) had) k).trans (steps_le (q := q) a ((List.range (q.code.length - k)).map (· + (k + 1))) _)
    rw [h0] at this
    exact this
  rw [e1] at h0
  have e2 : stepK q a had k = had := by
    refine leB.eq ?_ (step_le a had k)
    have := steps_le (q := q) a ((List.range (q.code.length - k)).map (· + (k + 1))) (stepK q a had k)
    rw [h0] at this
    exact this
  unfold stepK at e2
  rw [if_pos hc] at e2
  rw [← e2]
  exact marks_all _ _ (fun m hm => by have := (next_le hin hm).1; omega) n hn
def cnt (l : List Bool) : Nat := l.countP id
theorem cnt_le {x y : List Bool} (h : leB x y) : cnt x ≤ cnt y ∧ (cnt x = cnt y → x = y) := by
  obtain ⟨hl, hk⟩ := h
  induction x generalizing y with
  | nil =>
    have : y = [] := List.length_eq_zero_iff.1 hl.symm
    subst this; exact ⟨Nat.le_refl _, fun _ => rfl⟩
  | cons b x ih =>
    rcases y with _ | ⟨c, y⟩
    · simp at hl
    · have h1 := ih (y := y) (by simpa using hl) (fun k hx => by have := hk (k + 1); simp at this hx ⊢; exact this hx)
      have h0 := hk 0
      simp at h0
      unfold cnt at h1 ⊢
      rcases b with _ | _ <;> rcases c with _ | _ <;> simp at h0 ⊢
      · exact ⟨h1.1, fun e => h1.2 e⟩
      · exact ⟨by omega, fun e => by omega⟩
      · exact ⟨h1.1, fun e => h1.2 e⟩
theorem cnt_max (l : List Bool) : cnt l ≤ l.length := List.countP_le_length
theorem rounds_same {a : Nat} (r : Nat) {had : List Bool} (h : roundK q a had = had) : roundsK q a r had = had := by
  induction r with
  | zero => rfl
  | succ r ih => unfold roundsK; rw [h]; exact ih
theorem rounds_shut {a : Nat} (hin : InP q) : ∀ (r : Nat) (had : List Bool), had.length = q.code.length + 1 → q.code.length + 1 ≤ cnt had + r → Shut q a (roundsK q a r had)
  | 0, had, hl, hc => by
    have hcm := cnt_max had
    have hall : had = List.replicate had.length true := by
      have : cnt had = had.length := by omega
      exact List.eq_replicate_iff.2 ⟨rfl, fun b hb => by have := List.countP_eq_length.1 this b hb; simpa using this⟩
    intro k _ _ n hn
    show had.getD n false = true
    have := (next_le hin hn).1
    rw [hall, List.getD_eq_getElem?_getD, List.getElem?_replicate, if_pos (by omega)]; rfl
  | r + 1, had, hl, hc => by
    by_cases hs : roundK q a had = had
    · rw [rounds_same _ hs]; exact shut_of_same hin hl hs
    · have hle := round_le (q := q) a had
      have h1 := cnt_le hle
      have hne : cnt had ≠ cnt (roundK q a had) := fun e => hs (h1.2 e).symm
      exact rounds_shut hin r (roundK q a had) (by rw [← hle.1]; exact hl) (by omega)
/-- The rounds tell just what can be reached. -/
theorem reach_iff (hin : InP q) {a b : Nat} (ha : a ≤ q.code.length) : (wayL q a).getD b false = true ↔ Way q a b := by
  have hl : (List.replicate (q.code.length + 1) false).length = q.code.length + 1 := by simp
  constructor
  · exact rounds_ok (a := a) _ _ (fun k hk => by rw [List.getD_eq_getElem?_getD, List.getElem?_replicate] at hk; split at hk <;> simp at hk) b
  · have hs := rounds_shut (a := a) hin (q.code.length + 1) _ hl (by omega)
    rintro ⟨m, hm⟩
    induction m generalizing b with
    | zero => exact hs a ha (.inl rfl) b hm
    | succ m ih =>
      obtain ⟨c, hc, hn⟩ := hm
      exact hs c (by have := (next_le hin hn).2; omega) (.inr (ih hc)) b hn
theorem reach_len (a : Nat) : (wayL q a).length = q.code.length + 1 := by
  have := (rounds_le (q := q) a (q.code.length + 1) (List.replicate (q.code.length + 1) false)).1
  rw [List.length_replicate] at this
  exact this.symm
theorem loops_iff (hin : InP q) {a : Nat} (ha : a ≤ q.code.length) : loopL q a = true ↔ Way q a a := reach_iff hin ha
end
end Go.Proofs.YtapjgobkpehgfaaGreatDoor
