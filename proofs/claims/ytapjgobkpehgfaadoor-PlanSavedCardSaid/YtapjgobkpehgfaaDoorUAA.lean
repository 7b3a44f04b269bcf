/-
  The wrap of a row that lists variables, the world's shape kept.
  Plain lists: texts as lines of words, as the document says them. No program is named here.   Plain lists: what Join tells comes back from Lines; lengths; texts one behind the other.   Plain lists: decimal words.   Plain lists: decimal numbers and their texts.   Programs as texts, in plain lists: what an operation is called, what a program's lines are, and what is read from lines.   Layer 3, in plain words: types as texts, their fields, what one comes to by them.   The letters of operations.
-/
import Derived.Test.YtapjgobkpehgfaaDoorRows
import Derived.HandedShaped
import Derived.Handed
import Derived.LaidMore
import Derived.Stop.Joined
import Derived.RowKit
import Derived.Lib.SplitLaws
import Derived.Lib.Join
import Derived.Lib.IndexBytes
import Derived.Lib.ItoaNum
import Derived.Lib.ParseIntB
import Derived.Lib.ParseIntBTie
import Derived.Lib.ItoaMem
import Derived.Lib.ItoaLen
import Derived.Lib.Hide

/- The wrap of a row that lists variables, the world's shape kept. -/
namespace Go.Proofs.YtapjgobkpehgfaaDoor
set_option linter.unusedSimpArgs false
set_option linter.unusedVariables false
open Go.RowKit

theorem handed_laid {H : Type} {enc : TypeId × Value → H} {a : Assume} {C : Checked} {os : Os} {f : FuncId} {fn : Func} {s : ChangeSpec} {conds : List PathCond} {apart fresh handsOn again : Bool} {X : World → Array Value → Prop}
    (hX : ∀ (w w' : World) (args : Array Value), w.heap = w'.heap → X w args → X w' args)
    (own : ownKnob C.prog.godebug = none) (started : os.Started) (noInit : C.prog.inits.idxOf? f = none) (hfn : C.prog.funcs[f]? = some fn)
    (witness : ∃ (w : World) (tape : Tape) (i : Input), w.os = os ∧ (w.forCall tape i).Shaped C.prog ∧ i.vars = [] ∧ Input.okWide C.prog (w.forCall tape i) .any w.heap.size f i ∧
      ((s.pre enc C.prog fn conds apart (w.forCall tape i).memory i.args ∧ X (w.forCall tape i).memory i.args) ∧ sizedMet enc C.prog fn (OpenSpec.ofChange s) apart (w.forCall tape i).memory i.args) ∧ a.holds C.prog (lone (Frame.enter C.prog f i.args .normal) [] (w.forCall tape i)))
    (contract : ∀ (W : World) (base : Nat) (args : Array Value) (ds gs : List (DataW H)) (before : List MemPlace),
      (∀ (j : Nat) t v, fn.params[j]? = some t → args[j]? = some v → Value.okWide C.prog W .any base t v) →
      DataW.Whole enc C.prog fn.params.toList s.vars apart W args.toList ds gs before →
      conds.all (PathCond.test C.prog ⟨fn.params.toList, ds, s.plain.varTypes C.prog, gs⟩) = true →
      (DataW.weightsEach C.prog (fn.params.toList ++ s.plain.varTypes C.prog) (ds ++ gs)).all (· ≤ reachBytes) = true →
      X W args → W.ShapedOpen C.prog →
      a.holds C.prog (lone (Frame.enter C.prog f args .normal) [] W) →
      Calls C.prog f args W fun e W' => ∃ v, e = .returned v ∧ s.post enc C.prog fn apart fresh handsOn again W args v W') :
    ReturnsInHanded a C os f .any (fun w args => (s.pre enc C.prog fn conds apart w args ∧ X w args) ∧ sizedMet enc C.prog fn (OpenSpec.ofChange s) apart w args) (s.post enc C.prog fn apart fresh handsOn again) := by
  refine returnsInHanded_of_calls own started noInit witness ?_
  intro w tape i _ hsh _ hok hpre hholds
  obtain ⟨_, _, _, fn', hfn', _, _, _, _, hval⟩ := hok
  have e : fn' = fn := Option.some.inj (hfn'.symm.trans hfn)
  subst e
  obtain ⟨⟨⟨ds, gs, before, hw, hc⟩, hx⟩, hz⟩ := hpre
  have hw' := DataW.Whole.of_heap (w' := w.forCall tape i) (by rfl) hw
  refine (contract (w.forCall tape i) w.heap.size i.args ds gs before hval hw' hc (hz.weights hw) (hX _ _ _ (by rfl) hx) hsh hholds).mono fun e W' ⟨v, he, hp⟩ => ?_
  subst he
  exact ChangeSpec.post_blind hp
end Go.Proofs.YtapjgobkpehgfaaDoor

/- Plain lists: texts as lines of words, as the document says them. No program is named here.   Plain lists: what Join tells comes back from Lines; lengths; texts one behind the other.   Plain lists: decimal words.   Plain lists: decimal numbers and their texts.   Programs as texts, in plain lists: what an operation is called, what a program's lines are, and what is read from lines.   Layer 3, in plain words: types as texts, their fields, what one comes to by them.   The letters of operations. -/
/- Plain lists: texts as lines of words, as the document says them. No program is named here. -/
namespace Go.Proofs.YtapjgobkpehgfaaDoor
set_option linter.unusedSimpArgs false
set_option linter.unusedVariables false

abbrev Bs := List UInt8

end Go.Proofs.YtapjgobkpehgfaaDoor

/- Plain lists: what Join tells comes back from Lines; lengths; texts one behind the other. -/
namespace Go.Proofs.YtapjgobkpehgfaaDoor
set_option linter.unusedSimpArgs false
set_option linter.unusedVariables false

end Go.Proofs.YtapjgobkpehgfaaDoor

/- Plain lists: decimal words. -/
namespace Go.Proofs.YtapjgobkpehgfaaDoor
set_option linter.unusedSimpArgs false
set_option linter.unusedVariables false

def digC (c : UInt8) : Bool := decide (48 ≤ c.toNat) && decide (c.toNat ≤ 57)
end Go.Proofs.YtapjgobkpehgfaaDoor

/- Plain lists: decimal numbers and their texts. -/
namespace Go.Proofs.YtapjgobkpehgfaaDoor
set_option linter.unusedSimpArgs false
set_option linter.unusedVariables false

end Go.Proofs.YtapjgobkpehgfaaDoor

/- Programs as texts, in plain lists: what an operation is called, what a program's lines are, and what is read from lines. -/
namespace Go.Proofs.YtapjgobkpehgfaaDoor
set_option linter.unusedSimpArgs false
set_option linter.unusedVariables false

structure PIns where
  op : Int
  a : Int
  b : Int
  c : Int
  n : Int

def OPS : List (Int × Bs × Bs) :=
  [(1, [115, 101, 116], [65, 78]), (2, [97, 100, 100], [65, 66, 67]), (3, [106, 117, 109, 112], [78]), (4, [122, 101, 114, 111], [65, 78]), (5, [110, 101, 119], [65]),
   (6, [110, 105, 108], [65]), (7, [109, 111, 118, 101], [65, 66]), (8, [108, 111, 97, 100, 105], [65, 66, 78]), (9, [115, 116, 111, 114, 101, 105], [65, 78, 66]), (10, [108, 111, 97, 100, 112], [65, 66, 78]),
   (11, [115, 116, 111, 114, 101, 112], [65, 78, 66]), (12, [108, 111, 97, 100, 103], [65, 66]), (13, [115, 116, 111, 114, 101, 103], [65, 66]), (14, [112, 114, 105, 110, 116], [65]), (15, [115, 97, 109, 101], [65, 66, 67])]
def byOpL (op : Int) : Option (Int × Bs × Bs) := OPS.find? (fun o => o.1 == op)
def setL (i : PIns) (c : UInt8) (v : Int) : PIns := if c = 65 then { i with a := v } else if c = 66 then { i with b := v } else if c = 67 then { i with c := v } else { i with n := v }
def clearL (i : PIns) : Bs → PIns
  | [] => i
  | c :: cs => clearL (setL i c 0) cs
def zeroI (i : PIns) : Bool := decide (i.a = 0) && decide (i.b = 0) && decide (i.c = 0) && decide (i.n = 0)
def rightL (i : PIns) : Bool := match byOpL i.op with
  | none => false
  | some o => zeroI (clearL i o.2.2)
structure OkI (i : PIns) : Prop where
  o0 : 0 ≤ i.op
  o1 : i.op ≤ 255
  a0 : 0 ≤ i.a
  a1 : i.a ≤ 255
  b0 : 0 ≤ i.b
  b1 : i.b ≤ 255
  c0 : 0 ≤ i.c
  c1 : i.c ≤ 255
  n0 : -9223372036854775808 ≤ i.n
  n1 : i.n ≤ 9223372036854775807

structure PProg where
  types : List Bs
  locals : Bs
  globs : Bs
  code : List PIns
/-! ### Operations -/
theorem byOp_mem {op : Int} {o : Int × Bs × Bs} (h : byOpL op = some o) : o ∈ OPS ∧ o.1 = op := by
  have h1 := List.mem_of_find?_eq_some h
  have h2 := List.find?_some h
  exact ⟨h1, by simpa using h2⟩
end Go.Proofs.YtapjgobkpehgfaaDoor

/- Layer 3, in plain words: types as texts, their fields, what one comes to by them. -/
namespace Go.Proofs.YtapjgobkpehgfaaDoor
set_option linter.unusedSimpArgs false
set_option linter.unusedVariables false

/-- The byte at k, as a number. -/
def byt (s : ByteArray) (k : Nat) : Nat := (s.data.toList.getD k 0).toNat
theorem byt_at {s : ByteArray} {k : Nat} (h : k < s.size) : s[k].toNat = byt s k := by
  have h' : k < s.data.toList.length := by rw [Array.length_toList]; exact h
  unfold byt
  rw [List.getD_eq_getElem?_getD, List.getElem?_eq_getElem h']
  rfl
theorem byt_lt (s : ByteArray) (k : Nat) : byt s k < 256 := UInt8.toNat_lt _

def digB (n c : Nat) : Bool := decide (48 ≤ c ∧ c < 48 + n)
def letB (n c : Nat) : Bool := c == 105 || digB n c
def okB (n : Nat) (s : ByteArray) : Bool := decide (1 ≤ s.size ∧ s.size ≤ 6 ∧ ∀ k, k < s.size → letB n (byt s k) = true)
def ty (ts : List ByteArray) (t : Nat) : ByteArray := ts.getD t ByteArray.empty
def rightB (ts : List ByteArray) : Bool := decide (1 ≤ ts.length ∧ ts.length ≤ 8 ∧ ∀ t, t < ts.length → okB ts.length (ty ts t) = true)
def refsB (ts : List ByteArray) (s : ByteArray) : Bool := rightB ts && decide (∀ k, k < s.size → digB ts.length (byt s k) = true)
def oneB (ts : List ByteArray) (t : Int) : Bool := decide (0 ≤ t ∧ t < ts.length) && rightB ts

theorem ty_get {ts : List ByteArray} {t : Nat} (h : t < ts.length) : ts[t]? = some (ty ts t) := by
  unfold ty
  rw [List.getD_eq_getElem?_getD, List.getElem?_eq_getElem h]
  rfl
theorem ty_mem {ts : List ByteArray} {t : Nat} (h : t < ts.length) : ty ts t ∈ ts := List.mem_of_getElem? (ty_get h)

theorem dig_iff {n c : Nat} : digB n c = true ↔ 48 ≤ c ∧ c < 48 + n := by simp [digB]
theorem dig_no {n c : Nat} : digB n c = false ↔ ¬ (48 ≤ c ∧ c < 48 + n) := by simp only [digB, decide_eq_false_iff_not]
theorem let_iff {n c : Nat} : letB n c = true ↔ c = 105 ∨ digB n c = true := by simp [letB]
theorem let_no {n c : Nat} : letB n c = false ↔ c ≠ 105 ∧ digB n c = false := by simp [letB]
theorem ok_iff {n : Nat} {s : ByteArray} : okB n s = true ↔ 1 ≤ s.size ∧ s.size ≤ 6 ∧ ∀ k, k < s.size → letB n (byt s k) = true := by simp [okB]
theorem ok_size {n : Nat} {s : ByteArray} (h : s.size < 1 ∨ 6 < s.size) : okB n s = false := by
  rw [Bool.eq_false_iff]; intro h'
  have := ok_iff.1 h'
  omega
theorem ok_let {n k : Nat} {s : ByteArray} (hk : k < s.size) (h : letB n (byt s k) = false) : okB n s = false := by
  rw [Bool.eq_false_iff]; intro h'
  rw [(ok_iff.1 h').2.2 k hk] at h
  exact absurd h (by decide)
theorem right_iff {ts : List ByteArray} : rightB ts = true ↔ 1 ≤ ts.length ∧ ts.length ≤ 8 ∧ ∀ t, t < ts.length → okB ts.length (ty ts t) = true := by simp [rightB]
theorem right_size {ts : List ByteArray} (h : ts.length < 1 ∨ 8 < ts.length) : rightB ts = false := by
  rw [Bool.eq_false_iff]; intro h'
  have := right_iff.1 h'
  omega
theorem right_ok {ts : List ByteArray} {t : Nat} (ht : t < ts.length) (h : okB ts.length (ty ts t) = false) : rightB ts = false := by
  rw [Bool.eq_false_iff]; intro h'
  rw [(right_iff.1 h').2.2 t ht] at h
  exact absurd h (by decide)
theorem one_iff {ts : List ByteArray} {t : Int} : oneB ts t = true ↔ 0 ≤ t ∧ t < ts.length ∧ rightB ts = true := by
  simp [oneB, and_assoc]
theorem one_no {ts : List ByteArray} {t : Int} : oneB ts t = false ↔ (t < 0 ∨ (ts.length : Int) ≤ t) ∨ rightB ts = false := by
  rw [Bool.eq_false_iff, Ne, one_iff]
  cases rightB ts <;> simp <;> omega
theorem refs_iff {ts : List ByteArray} {s : ByteArray} : refsB ts s = true ↔ rightB ts = true ∧ ∀ k, k < s.size → digB ts.length (byt s k) = true := by simp [refsB]
theorem refs_no {ts : List ByteArray} {s : ByteArray} {k : Nat} (hk : k < s.size) (h : digB ts.length (byt s k) = false) : refsB ts s = false := by
  rw [Bool.eq_false_iff]; intro h'
  rw [(refs_iff.1 h').2 k hk] at h
  exact absurd h (by decide)
theorem refs_right {ts : List ByteArray} {s : ByteArray} (h : rightB ts = false) : refsB ts s = false := by
  unfold refsB; rw [h]; rfl

/-- What a letter points to; -1: it is a number. -/
def ptrI (c : Nat) : Int := if c = 105 then -1 else (c : Int) - 48
theorem ptr_i : ptrI 105 = -1 := rfl
theorem ptr_d {c : Nat} (h : c ≠ 105) : ptrI c = (c : Int) - 48 := by simp [ptrI, h]

def sizeI (ts : List ByteArray) (t : Int) : Int := if oneB ts t = true then ((ty ts t.toNat).size : Int) else 0
def toI (ts : List ByteArray) (t f : Int) : Int := if oneB ts t = true ∧ 0 ≤ f ∧ f < (ty ts t.toNat).size then ptrI (byt (ty ts t.toNat) f.toNat) else -1
/-- One field of a points to b. -/
def Edge (ts : List ByteArray) (a b : Nat) : Prop := a < ts.length ∧ ∃ k, k < (ty ts a).size ∧ byt (ty ts a) k ≠ 105 ∧ byt (ty ts a) k = b + 48
inductive Rch (ts : List ByteArray) (t : Nat) : Nat → Prop
  | here : Rch ts t t
  | more {a b : Nat} : Rch ts t a → Edge ts a b → Rch ts t b
theorem edge_lt {ts : List ByteArray} (h : rightB ts = true) {a b : Nat} (he : Edge ts a b) : b < ts.length := by
  obtain ⟨ha, k, hk, h1, h2⟩ := he
  have := (ok_iff.1 ((right_iff.1 h).2.2 a ha)).2.2 k hk
  rcases let_iff.1 this with h3 | h3
  · exact absurd h3 h1
  · have := dig_iff.1 h3; omega
theorem Rch.lt {ts : List ByteArray} (h : rightB ts = true) {t : Nat} (ht : t < ts.length) {n : Nat} (hr : Rch ts t n) : n < ts.length := by
  induction hr with
  | here => exact ht
  | more _ he _ => exact edge_lt h he
theorem Rch.trans {ts : List ByteArray} {a b c : Nat} (h1 : Rch ts a b) (h2 : Rch ts b c) : Rch ts a c := by
  induction h2 with
  | here => exact h1
  | more _ he ih => exact ih.more he

end Go.Proofs.YtapjgobkpehgfaaDoor

/- The letters of operations. -/
namespace Go.Proofs.YtapjgobkpehgfaaDoor
set_option linter.unusedSimpArgs false
set_option linter.unusedVariables false
/-- The letters that an operation has. -/
def FourL (hs : Bs) : Prop := ∀ c ∈ hs, c = 65 ∨ c = 66 ∨ c = 67 ∨ c = 78
theorem four_ops {o : Int × Bs × Bs} (h : o ∈ OPS) : FourL o.2.2 := by
  have h0 : OPS.all (fun o => o.2.2.all (fun c => decide (c = 65) || decide (c = 66) || decide (c = 67) || decide (c = 78))) = true := by decide
  have this := List.all_eq_true.1 h0 o h
  intro c hc
  have h1 := List.all_eq_true.1 this c hc
  simp only [Bool.or_eq_true, decide_eq_true_eq] at h1
  rcases h1 with ((h1 | h1) | h1) | h1 <;> simp [h1]
end Go.Proofs.YtapjgobkpehgfaaDoor
