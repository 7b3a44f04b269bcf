/-
  What the statements of layer 12 carry along.
-/
import Derived.Test.YtapjgobkpehgfaaGreatDoorUBL
import Derived.Test.YtapjgobkpehgfaaGreatDoorUAY

/- What the statements of layer 12 carry along. -/
namespace Go.Proofs.YtapjgobkpehgfaaGreatDoor
set_option linter.unusedSimpArgs false
set_option linter.unusedVariables false
open Go.RowKit

/-- Best's answer, opened. -/
def BestPost (w : World) (p : PProg) (e : Ending) (w' : World) : Prop := ∃ a c, e = .returned (.tuple #[.slice a p.code.length c, .int .i64 0]) ∧ p.code.length ≤ c ∧ c ≤ 9223372036854775807 ∧ FactsAt w' (.slice a p.code.length c) (bestL p) ∧ Below w.heap.size w w'
theorem best_post {v : Value} {p : PProg} {w : World} (h : ProgAt w v p) (hs : OkP p) (hO : HasO w) (hc : (checkL p).2 = 0) : Calls Tryz.prog 9 #[v] w (BestPost w p) := by
  refine (plbest_n v p w h hs hO hc).mono ?_
  rintro e w' ⟨v1, rfl, hr, hb⟩
  obtain ⟨a, c, rfl, h1, h2⟩ := hr.form
  rw [best_len] at h1 hr ⊢
  exact ⟨a, c, rfl, h1, h2, hr, hb⟩
structure PK (w wr : World) (xm : Option Addr) (cm : Nat) (x x' : Option Addr) (kx kx' : Nat) (p : PProg) : Prop where
  keep : Keep wr w.heap.size (.slice x p.types.length kx) (.slice x' p.code.length kx') p
  below : Below w.heap.size w wr
  facts : FactsAt wr (.slice xm p.code.length cm) (bestL p)
section
variable {w wr w' : World} {xm x x' : Option Addr} {cm kx kx' : Nat} {p : PProg}
theorem PK.next (h : PK w wr xm cm x x' kx kx' p) (hb : Below wr.heap.size wr w') : PK w w' xm cm x x' kx kx' p :=
  ⟨h.keep.below hb, h.below.trans (hb.mono h.below.size), h.facts.below hb⟩
end
section
variable {q : PProg} {i : PIns} {k : Nat}
theorem loopV_nat {m : Nat} (hm : m ≤ q.code.length) : loopV q m = loopL q m := by unfold loopV wayV; rw [if_pos ⟨by omega, by omega⟩]; simp [loopL]
theorem best_cases : ((bestI q k i).st = false ∧ (bestI q k i).ra = false ∧ (bestI q k i).pl = false) ∨ ((bestI q k i).st = false ∧ (bestI q k i).ra = false ∧ (bestI q k i).pl = true ∧ i.op = 11) ∨ ((bestI q k i).st = false ∧ (bestI q k i).ra = true ∧ (bestI q k i).pl = false ∧ i.op = 5) ∨
    ((bestI q k i).st = true ∧ (bestI q k i).pl = false ∧ i.op = 5 ∧ loopL q k = false) := by
  rcases hs : (bestI q k i).st with _ | _
  · rcases hr : (bestI q k i).ra with _ | _
    · rcases hp : (bestI q k i).pl with _ | _
      · exact .inl ⟨rfl, rfl, rfl⟩
      · exact .inr (.inl ⟨rfl, rfl, rfl, (best_pl hp).1⟩)
    · have h5 := (best_ra hr).1
      rcases hp : (bestI q k i).pl with _ | _
      · exact .inr (.inr (.inl ⟨rfl, rfl, rfl, h5⟩))
      · have := (best_pl hp).1; omega
  · obtain ⟨h5, -, hl⟩ := best_st hs
    rcases hp : (bestI q k i).pl with _ | _
    · exact .inr (.inr (.inr ⟨rfl, rfl, h5, hl⟩))
    · have := (best_pl hp).1; omega
theorem plain_lt (hc : (checkL q).2 = 0) (hok : ∀ i ∈ q.code, OkI i) (hi : q.code[k]? = some i) (hp : (bestI q k i).pl = true) : 0 ≤ i.a ∧ i.a < 8 := by
  obtain ⟨h11, hb⟩ := best_pl hp
  have hm := List.mem_of_getElem? hi
  obtain ⟨hh, _, _, hall, _⟩ := check_ok hc
  obtain ⟨_, _, _, hk⟩ := ins_parts (hall i hm)
  obtain ⟨o0, o1, a0, a1, b0, b1, c0, c1, n0, n1⟩ := hok i hm
  have hl : 0 ≤ localI q i.a ∧ sameT (localI q i.b) (toP q.types (localI q i.a) i.n) = true := by unfold kindsB at hk; rw [h11] at hk; simpa using hk
  have hlt := (local_lt hh a0 hl.1).1
  have := (head_parts hh).2.2.1
  omega
theorem on_keep (hin : InP q) {s t : PSt} {seen : Nat → Bool} (h : OnI q s seen) (hi : q.code[s.pc]? = some i) (hd : doI q (onI s) i = some t) : OnI q t seen := by
  have h1 := on_next hin h hi hd false
  refine ⟨fun k hk => h1.way k ?_⟩
  split
  · simpa using hk
  · exact hk
theorem on_mark (hin : InP q) {s t : PSt} {seen : Nat → Bool} (h : OnI q s seen) (hi : q.code[s.pc]? = some i) (hd : doI q (onI s) i = some t) : OnI q t (addB seen s.pc) := by
  have h1 := on_next hin h hi hd true
  refine ⟨fun k hk => h1.way k ?_⟩
  split
  · rfl
  · next hne =>
    have : k = s.pc ∨ seen k = true := by simpa [addB] using hk
    exact this.resolve_left hne
theorem saved_two : ∀ l : List PFact, (∀ f ∈ l, f.pl = true → f.st = false ∧ f.ra = false) → savedS l + savedR l + savedP l ≤ 2 * l.length
  | [], _ => by simp [savedS, savedR, savedP]
  | f :: l, h => by
    have ih := saved_two l fun g hg => h g (List.mem_cons_of_mem _ hg)
    have h0 := h f List.mem_cons_self
    unfold savedS savedR savedP at ih ⊢
    rw [List.countP_cons, List.countP_cons, List.countP_cons, List.length_cons]
    rcases hp : f.pl with _ | _
    · simp only [Bool.false_eq_true, if_false]
      split <;> split <;> omega
    · obtain ⟨h1, h2⟩ := h0 hp
      rw [h1, h2]
      simp only [Bool.false_eq_true, if_false, if_true]
      omega
theorem best_mem {f : PFact} (h : f ∈ bestL q) : ∃ (k : Nat) (i : PIns), q.code[k]? = some i ∧ f = bestI q k i := by
  unfold bestL at h
  obtain ⟨k, hk, rfl⟩ := List.mem_map.1 h
  have hk := List.mem_range.1 hk
  have hi : q.code[k]? = some q.code[k] := List.getElem?_eq_getElem hk
  exact ⟨k, _, hi, by unfold bestK; rw [hi]⟩
/-- How much Best leaves out, as numbers. -/
theorem saved_nums (p : PProg) (_hc : (checkL p).2 = 0) (_hok : ∀ i ∈ p.code, OkI i) : ∃ s r t : Nat, (∀ w1 vl, FactsAt w1 vl (bestL p) → Calls Tryz.prog 15 #[vl] w1 (AggPost w1 (.tuple #[.int .i64 (s : Int), .int .i64 (r : Int), .int .i64 (t : Int)]))) ∧ s + r + t ≤ 2 * p.code.length ∧ s ≤ p.code.length ∧ r ≤ p.code.length ∧ t ≤ p.code.length := by
  refine ⟨savedS (bestL p), savedR (bestL p), savedP (bestL p), fun w1 vl h => plsaved_n vl _ w1 h, ?_, ?_⟩
  · rw [← best_len (q := p)]
    refine saved_two _ fun f hf hp => ?_
    obtain ⟨k, i, _, rfl⟩ := best_mem hf
    have h11 := (best_pl hp).1
    constructor
    · rcases hs : (bestI p k i).st with _ | _
      · rfl
      · have := (best_st hs).1; omega
    · rcases hs : (bestI p k i).ra with _ | _
      · rfl
      · have := (best_ra hs).1; omega
  · have h := saved_le (bestL p)
    rw [best_len] at h
    exact h
end
end Go.Proofs.YtapjgobkpehgfaaGreatDoor
