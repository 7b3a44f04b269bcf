/-
  The wrap of a row that lists variables, the world's shape kept.
  Plain lists: texts as lines of words, as the document says them. No program is named here.
  Contracts: which bytes, and which words, may be (the program's and the document's).
  Slices of texts, and slices of these, as they lie in memory; the contract of allMayBe.
  Plain lists: decimal words.
-/
import Derived.Test.YtcjhgibhenocpaaGreatDoorRows
import Derived.HandedShaped
import Derived.Handed
import Derived.LaidMore
import Derived.Stop.Joined
import Derived.RowKit
import Derived.Lib.SplitLaws
import Derived.Lib.Join
import Derived.Lib.IndexBytes
import Derived.Test.YtcjhgibhenocpaaGreatDoorChecked
import Derived.WalkKit
import Derived.IntWalk
import Derived.Lib.Hide
import Derived.OwnWalk
import Derived.Laws.OwnMore
import Derived.Lib.SmallJoins
import Derived.Below

/- The wrap of a row that lists variables, the world's shape kept. -/
namespace Go.Proofs.YtcjhgibhenocpaaGreatDoor
set_option linter.unusedSimpArgs false
set_option linter.unusedVariables false
open Go.RowKit

theorem handed_laid {H : Type} {enc : TypeId × Value → H} {a : Assume} {C : Checked} {os : Os} {f : FuncId} {fn : Func} {s : ChangeSpec} {conds : List PathCond} {apart fresh handsOn again : Bool} {X : World → Array Value → Prop}
    (hX : ∀ (w w' : World) (args : Array Value), w.heap = w'.heap → X w args → X w' args)
    (own : ownKnob C.prog.godebug = none) (started : os.Started) (noInit : C.prog.inits.idxOf? f = none) (hfn : C.prog.funcs[f]? = some fn)
    (witness : ∃ (w : World) (tape : Tape) (i : Input), w.os = os ∧ (w.forCall tape i).Shaped C.prog ∧ i.vars = [] ∧ Input.okWide C.prog (w.forCall tape i) .any w.heap.size f i ∧
      ((s.pre enc C.prog fn conds apart (w.forCall tape i).memory i.args ∧ X (w.forCall tape i).memory i.args) ∧ sizedMet enc C.prog fn (OpenSpec.ofChange s) apart (w.forCall tape i).memory i.args) ∧ a.holds C.prog (lone (Frame.enter C.prog f i.args .normal) [] (w.forCall tape i)))
    (contract : ∀ (W : World) (base : Nat) (args : Array Value) (ds gs : List (DataW H)) (before : List MemPlace),
      (∀ (j : Nat) t v, fn.params[j]? = some t → args[j]? = some v → Value.okWide C.prog W .any base t v) →
      DataW.Whole enc C.prog fn.params.toList s.vars apart W args.toList ds gs before →
      conds.all (PathCond.test C.prog ⟨fn.params.toList, ds, s.plain.varTypes C.prog, gs⟩) = true →
      (DataW.weightsEach C.prog (fn.params.toList ++ s.plain.varTypes C.prog) (ds ++ gs)).all (· ≤ reachBytes) = true →
      X W args → W.ShapedOpen C.prog →
      a.holds C.prog (lone (Frame.enter C.prog f args .normal) [] W) →
      Calls C.prog f args W fun e W' => ∃ v, e = .returned v ∧ s.post enc C.prog fn apart fresh handsOn again W args v W') :
    ReturnsInHanded a C os f .any (fun w args => (s.pre enc C.prog fn conds apart w args ∧ X w args) ∧ sizedMet enc C.prog fn (OpenSpec.ofChange s) apart w args) (s.post enc C.prog fn apart fresh handsOn again) := by
  refine returnsInHanded_of_calls own started noInit witness ?_
  intro w tape i _ hsh _ hok hpre hholds
  obtain ⟨_, _, _, fn', hfn', _, _, _, _, hval⟩ := hok
  have e : fn' = fn := Option.some.inj (hfn'.symm.trans hfn)
  subst e
  obtain ⟨⟨⟨ds, gs, before, hw, hc⟩, hx⟩, hz⟩ := hpre
  have hw' := DataW.Whole.of_heap (w' := w.forCall tape i) (by rfl) hw
  refine (contract (w.forCall tape i) w.heap.size i.args ds gs before hval hw' hc (hz.weights hw) (hX _ _ _ (by rfl) hx) hsh hholds).mono fun e W' ⟨v, he, hp⟩ => ?_
  subst he
  exact ChangeSpec.post_blind hp
end Go.Proofs.YtcjhgibhenocpaaGreatDoor

/- Plain lists: texts as lines of words, as the document says them. No program is named here. -/
namespace Go.Proofs.YtcjhgibhenocpaaGreatDoor
set_option linter.unusedSimpArgs false
set_option linter.unusedVariables false

abbrev Bs := List UInt8

/-- The pieces between the bytes c. -/
def splitL (c : UInt8) : Bs → List Bs
  | [] => [[]]
  | x :: r => if x = c then [] :: splitL c r else
      match splitL c r with
      | [] => [[x]]
      | p :: ps => (x :: p) :: ps

def wordsL (l : Bs) : List Bs := (splitL 32 (l.takeWhile (fun c => c != 35))).filter (fun w => !w.isEmpty)
def okC (c : UInt8) : Bool := (decide (97 ≤ c.toNat) && decide (c.toNat ≤ 122)) || (decide (48 ≤ c.toNat) && decide (c.toNat ≤ 57)) || decide (c.toNat = 45)
def mayL (w : Bs) : Bool := decide (w.length ≤ 30) && w.all okC
def okLine (l : Bs) : Bool := (wordsL l).all mayL
def badAt : Nat → List Bs → Option Nat
  | _, [] => none
  | n, l :: r => if okLine l then badAt (n + 1) r else some n
def goodL (ls : List Bs) : List (List Bs) := (ls.map wordsL).filter (fun x => !x.isEmpty)
def linesL (s : Bs) : List (List Bs) × Nat × Nat :=
  if 20000 < s.length then ([], 0, 3) else
    match badAt 1 (splitL 10 s) with
    | some n => ([], n, 4)
    | none => (goodL (splitL 10 s), 0, 0)
def joinL (xss : List (List Bs)) : Bs := (xss.map (fun x => Lib.join x [32] ++ [10])).flatten

theorem splitL_ne (c : UInt8) (s : Bs) : splitL c s ≠ [] := by
  cases s with
  | nil => simp [splitL]
  | cons x r =>
    unfold splitL
    split
    · simp
    · split <;> simp

theorem splitL_none (c : UInt8) : ∀ s : Bs, (∀ x ∈ s, x ≠ c) → splitL c s = [s]
  | [], _ => rfl
  | x :: r, h => by
    unfold splitL
    rw [if_neg (h x (by simp)), splitL_none c r (fun y hy => h y (by simp [hy]))]

theorem splitL_at (c : UInt8) : ∀ a b : Bs, (∀ x ∈ a, x ≠ c) → splitL c (a ++ c :: b) = a :: splitL c b
  | [], b, _ => by simp [splitL]
  | x :: a, b, h => by
    rw [List.cons_append, splitL, if_neg (h x (by simp)), splitL_at c a b (fun y hy => h y (by simp [hy]))]

theorem splitL_length (c : UInt8) : ∀ s : Bs, (splitL c s).length = s.count c + 1
  | [] => rfl
  | x :: r => by
    have ih := splitL_length c r
    unfold splitL
    split
    · next h => subst h; simp [ih]
    · next h =>
      rw [List.count_cons, if_neg (by simpa using h)]
      split
      · next e => exact absurd e (splitL_ne c r)
      · next p ps e => rw [e] at ih; simpa using ih

theorem splitL_len (c : UInt8) : ∀ s : Bs, ∀ x ∈ splitL c s, x.length ≤ s.length
  | [], x, h => by simp [splitL] at h; simp [h]
  | y :: r, x, h => by
    have ih := splitL_len c r
    unfold splitL at h
    split at h
    · rcases List.mem_cons.1 h with rfl | h
      · simp
      · have := ih x h; simp; omega
    · split at h
      · next e => exact absurd e (splitL_ne c r)
      · next p ps e =>
        rcases List.mem_cons.1 h with rfl | h
        · have := ih p (by rw [e]; simp); simp; omega
        · have := ih x (by rw [e]; simp [h]); simp; omega

/-- The library's pieces are these. -/
theorem splitK_eq (c : UInt8) : ∀ (k : Nat) (s : Bs), s.count c ≤ k → Lib.splitK [c] 0 k s = splitL c s
  | 0, s, h => by
    rw [splitL_none c s (fun x hx e => by subst e; have := List.count_pos_iff.2 hx; omega)]; rfl
  | k + 1, s, h => by
    unfold Lib.splitK
    rw [Lib.index_one]
    split
    · next e =>
      have hn := Lib.indexByte_none (beq_iff_eq.1 e)
      rw [splitL_none c s]
      intro x hx e'
      subst e'
      obtain ⟨j, hj⟩ := List.getElem?_of_mem hx
      exact hn j hj
    · next e =>
      have hge := Lib.indexByte_ge s c
      have hne : Lib.indexByte s c ≠ -1 := fun h' => e (beq_iff_eq.2 h')
      obtain ⟨o, ho⟩ : ∃ o : Nat, Lib.indexByte s c = o := ⟨(Lib.indexByte s c).toNat, by omega⟩
      obtain ⟨h1, h2⟩ := Lib.indexByte_some ho
      rw [ho]
      simp only [Int.toNat_natCast, Nat.add_zero, List.length_singleton]
      have hlt : o < s.length := (List.getElem?_eq_some_iff.1 h1).1
      have hs : s = s.take o ++ c :: s.drop (o + 1) := by
        conv => lhs; rw [← List.take_append_drop o s]
        congr 1
        rw [List.drop_eq_getElem_cons hlt]
        congr 1
        exact (List.getElem?_eq_some_iff.1 h1).2
      have ha : ∀ x ∈ s.take o, x ≠ c := by
        intro x hx e'
        subst e'
        obtain ⟨j, hj⟩ := List.getElem?_of_mem hx
        have hjo : j < o := by
          have := (List.getElem?_eq_some_iff.1 hj).1
          simp at this; omega
        rw [List.getElem?_take, if_pos hjo] at hj
        exact h2 j hjo hj
      have hc : (s.drop (o + 1)).count c ≤ k := by
        have : s.count c = (s.take o).count c + (1 + (s.drop (o + 1)).count c) := by
          conv => lhs; rw [hs]
          rw [List.count_append, List.count_cons_self]; omega
        omega
      rw [splitK_eq c k _ hc]
      conv => rhs; rw [hs]
      exact (splitL_at c _ _ ha).symm

theorem split_cells (c : UInt8) (s : ByteArray) : (Lib.splitB ⟨#[c]⟩ 0 (Lib.countB s ⟨#[c]⟩) s).map Value.string = (splitL c s.data.toList).map fun l => Value.string ⟨l.toArray⟩ := by
  have h := Lib.splitB_data ⟨#[c]⟩ 0 (Lib.countB s ⟨#[c]⟩) s
  have hc : Lib.countB s ⟨#[c]⟩ = s.data.toList.count c := Lib.count_one c s.data.toList
  have e := splitK_eq c (Lib.countB s ⟨#[c]⟩) s.data.toList (by rw [hc]; exact Nat.le_refl _)
  have h' : (Lib.splitB ⟨#[c]⟩ 0 (Lib.countB s ⟨#[c]⟩) s).map (·.data.toList) = splitL c s.data.toList := by rw [← e]; exact h
  rw [← h', List.map_map]
  rfl

theorem count_pieces (c : UInt8) (s : ByteArray) : Lib.countB s ⟨#[c]⟩ + 1 = (splitL c s.data.toList).length := by
  rw [splitL_length]
  exact congrArg (· + 1) (Lib.count_one c s.data.toList)

theorem takeWhile_whole {α : Type} (p : α → Bool) : ∀ l : List α, (∀ x ∈ l, p x = true) → l.takeWhile p = l
  | [], _ => rfl
  | x :: r, h => by rw [List.takeWhile_cons, if_pos (h x (by simp)), takeWhile_whole p r (fun y hy => h y (by simp [hy]))]

theorem cut_hash : ∀ l : Bs, (Lib.cut l [35]).1 = l.takeWhile (fun c => c != 35) := by
  intro l
  unfold Lib.cut
  rw [Lib.index_one]
  have hge := Lib.indexByte_ge l 35
  split
  · next h =>
    obtain ⟨o, ho⟩ : ∃ o : Nat, Lib.indexByte l 35 = o := ⟨(Lib.indexByte l 35).toNat, by omega⟩
    obtain ⟨h1, h2⟩ := Lib.indexByte_some ho
    rw [ho]
    simp only [Int.toNat_natCast]
    have hlt : o < l.length := (List.getElem?_eq_some_iff.1 h1).1
    have hs : l = l.take o ++ 35 :: l.drop (o + 1) := by
      conv => lhs; rw [← List.take_append_drop o l]
      congr 1
      rw [List.drop_eq_getElem_cons hlt]
      congr 1
      exact (List.getElem?_eq_some_iff.1 h1).2
    have ha : ∀ x ∈ l.take o, (x != 35) = true := by
      intro x hx
      obtain ⟨j, hj⟩ := List.getElem?_of_mem hx
      have hjo : j < o := by
        have := (List.getElem?_eq_some_iff.1 hj).1
        simp at this; omega
      rw [List.getElem?_take, if_pos hjo] at hj
      have := h2 j hjo
      rw [hj] at this
      simpa using this
    conv => rhs; rw [hs]
    rw [List.takeWhile_append_of_pos ha]
    simp
  · next h =>
    have hn := Lib.indexByte_none (show Lib.indexByte l 35 = -1 by omega)
    refine Eq.symm (takeWhile_whole _ l ?_)
    intro x hx
    obtain ⟨j, hj⟩ := List.getElem?_of_mem hx
    have := hn j
    rw [hj] at this
    simpa using this

theorem badAt_none (n : Nat) (ls : List Bs) (h : ∀ l ∈ ls, okLine l = true) : badAt n ls = none := by
  induction ls generalizing n with
  | nil => rfl
  | cons l r ih => unfold badAt; rw [if_pos (h l (by simp))]; exact ih _ (fun x hx => h x (by simp [hx]))

theorem badAt_some (n k : Nat) (ls : List Bs) (l : Bs) (h : ∀ x ∈ ls.take k, okLine x = true) (hk : ls[k]? = some l) (hb : okLine l = false) : badAt n ls = some (n + k) := by
  induction k generalizing n ls with
  | zero =>
    cases ls with
    | nil => simp at hk
    | cons x r => simp at hk; subst hk; unfold badAt; rw [if_neg (by simp [hb])]; rfl
  | succ k ih =>
    cases ls with
    | nil => simp at hk
    | cons x r =>
      unfold badAt
      rw [if_pos (h x (by simp)), ih (n + 1) r (fun y hy => h y (by simp [hy])) (by simpa using hk)]
      congr 1; omega

end Go.Proofs.YtcjhgibhenocpaaGreatDoor

/- Contracts: which bytes, and which words, may be (the program's and the document's). -/
namespace Go.Proofs.YtcjhgibhenocpaaGreatDoor
set_option linter.unusedSimpArgs false
set_option linter.unusedVariables false
open Go.RowKit

theorem isLetter_t (c : Int) (w : World) (h1 : 97 ≤ c) (h2 : c ≤ 122) : Calls Tryz.prog 141 #[.int .u8 c] w fun e w' => e = .returned (.bool true) ∧ w = w' := by
  go_enter Tryz.func141, Tryz.ntmps141
  go_wp2
  go_ret
  exact ⟨rfl, rfl⟩
theorem isLetter_f (c : Int) (w : World) (h : c < 97 ∨ 122 < c) : Calls Tryz.prog 141 #[.int .u8 c] w fun e w' => e = .returned (.bool false) ∧ w = w' := by
  by_cases h1 : 97 ≤ c
  · have h2 : ¬ c ≤ 122 := by omega
    clear h
    go_enter Tryz.func141, Tryz.ntmps141
    go_wp2
    go_ret
    exact ⟨rfl, rfl⟩
  · clear h
    go_enter Tryz.func141, Tryz.ntmps141
    go_wp2
    go_ret
    exact ⟨rfl, rfl⟩
theorem isDigit_t (c : Int) (w : World) (h1 : 48 ≤ c) (h2 : c ≤ 57) : Calls Tryz.prog 142 #[.int .u8 c] w fun e w' => e = .returned (.bool true) ∧ w = w' := by
  go_enter Tryz.func142, Tryz.ntmps142
  go_wp2
  go_ret
  exact ⟨rfl, rfl⟩
theorem isDigit_f (c : Int) (w : World) (h : c < 48 ∨ 57 < c) : Calls Tryz.prog 142 #[.int .u8 c] w fun e w' => e = .returned (.bool false) ∧ w = w' := by
  by_cases h1 : 48 ≤ c
  · have h2 : ¬ c ≤ 57 := by omega
    clear h
    go_enter Tryz.func142, Tryz.ntmps142
    go_wp2
    go_ret
    exact ⟨rfl, rfl⟩
  · clear h
    go_enter Tryz.func142, Tryz.ntmps142
    go_wp2
    go_ret
    exact ⟨rfl, rfl⟩

theorem take_snoc (s : ByteArray) (k : Nat) (h : k < s.size) : s.data.toList.take (k + 1) = s.data.toList.take k ++ [s[k]] := by
  rw [List.take_succ_eq_append_getElem (by simpa using h)]; rfl

/-- The first k bytes may all be. -/
def OkTo (s : ByteArray) (k : Nat) : Prop := ∀ c ∈ s.data.toList.take k, okC c = true
theorem OkTo.next {s : ByteArray} {k : Nat} (h : OkTo s k) (hk : k < s.size) (hc : okC s[k] = true) : OkTo s (k + 1) := by
  intro c hm
  rw [take_snoc s k hk] at hm
  rcases List.mem_append.1 hm with h' | h'
  · exact h c h'
  · simp at h'; subst h'; exact hc
theorem okTo_zero (s : ByteArray) : OkTo s 0 := by intro c h; simp at h
theorem len_size (s : ByteArray) : s.data.toList.length = s.size := by rw [Array.length_toList]; rfl
theorem OkTo.all {s : ByteArray} (h : OkTo s s.size) : s.data.toList.all okC = true := by
  have e : s.data.toList.take s.size = s.data.toList := List.take_of_length_le (by rw [len_size]; exact Nat.le_refl _)
  rw [OkTo, e] at h
  exact List.all_eq_true.2 h
theorem not_all {s : ByteArray} {k : Nat} (hk : k < s.size) (hc : okC s[k] = false) : s.data.toList.all okC = false := by
  rw [Bool.eq_false_iff]
  intro h
  have := List.all_eq_true.1 h s[k] (by
    have : s[k] = s.data.toList[k]'(by simpa using hk) := rfl
    rw [this]; exact List.getElem_mem _)
  rw [hc] at this
  exact absurd this (by decide)
theorem may_of {s : ByteArray} (hl : s.size ≤ 30) (h : OkTo s s.size) : mayL s.data.toList = true := by
  have : s.data.toList.length ≤ 30 := by rw [len_size]; exact hl
  unfold mayL; rw [h.all, decide_eq_true this]; rfl
theorem may_not {s : ByteArray} {k : Nat} (hk : k < s.size) (hc : okC s[k] = false) : mayL s.data.toList = false := by
  unfold mayL; rw [not_all hk hc, Bool.and_false]
theorem may_long {s : ByteArray} (h : 30 < s.size) : mayL s.data.toList = false := by
  have : ¬ s.data.toList.length ≤ 30 := by rw [len_size]; omega
  simp only [mayL, decide_eq_false this, Bool.false_and]
theorem ret_bool {a b : Bool} (h : a = b) : Ending.returned (.bool a) = .returned (.bool b) := by rw [h]

theorem okC_cases (c : UInt8) : ((97 ≤ (c.toNat : Int) ∧ (c.toNat : Int) ≤ 122) ∧ okC c = true) ∨ (((c.toNat : Int) < 97 ∨ 122 < (c.toNat : Int)) ∧ (48 ≤ (c.toNat : Int) ∧ (c.toNat : Int) ≤ 57) ∧ okC c = true) ∨
    (((c.toNat : Int) < 97 ∨ 122 < (c.toNat : Int)) ∧ ((c.toNat : Int) < 48 ∨ 57 < (c.toNat : Int)) ∧ (c.toNat : Int) = 45 ∧ okC c = true) ∨
    (((c.toNat : Int) < 97 ∨ 122 < (c.toNat : Int)) ∧ ((c.toNat : Int) < 48 ∨ 57 < (c.toNat : Int)) ∧ (c.toNat : Int) ≠ 45 ∧ okC c = false) := by
  by_cases h1 : 97 ≤ c.toNat ∧ c.toNat ≤ 122
  · left; refine ⟨by omega, ?_⟩; simp [okC, h1.1, h1.2]
  · right
    by_cases h2 : 48 ≤ c.toNat ∧ c.toNat ≤ 57
    · left; refine ⟨by omega, by omega, ?_⟩; simp [okC, h2.1, h2.2]
    · right
      by_cases h3 : c.toNat = 45
      · left; refine ⟨by omega, by omega, by omega, ?_⟩; simp [okC, h3]
      · right; refine ⟨by omega, by omega, by omega, ?_⟩
        simp only [okC, Bool.or_eq_false_iff, Bool.and_eq_false_iff, decide_eq_false_iff_not]
        omega

set_option maxHeartbeats 1000000 in
theorem mayBe_any (s : ByteArray) (w : World) (hs : s.size ≤ maxLen) : Calls Tryz.prog 94 #[.string s] w fun e w' => e = .returned (.bool (mayL s.data.toList)) ∧ w = w' := by
  unfold maxLen at hs
  by_cases hl : 30 < s.size
  · go_enter Tryz.func94, Tryz.ntmps94
    go_wp2
    go_ret
    exact ⟨ret_bool (may_long hl).symm, rfl⟩
  · go_enter Tryz.func94, Tryz.ntmps94
    go_wp2
    go_loop [9] (fun i => ∃ k : Nat, k ≤ s.size ∧ i = .int .i64 k ∧ OkTo s k) (fun i => s.size - (intOf i).toNat)
    case atStart => exact ⟨0, Nat.zero_le _, rfl, okTo_zero s⟩
    case round =>
      obtain ⟨k, hk, rfl, hok⟩ := hrel
      by_cases hlt : k < s.size
      · rcases okC_cases s[k] with ⟨⟨h1, h2⟩, hc⟩ | ⟨h1, ⟨h2, h3⟩, hc⟩ | ⟨h1, h2, h3, hc⟩ | ⟨h1, h2, h3, hc⟩
        · have HC := Lib.hid hc
          clear hc
          go_wp2_with (first | (go_at_call 141; refine (isLetter_t _ _ (by assumption) (by assumption)).mono ?_; rintro e w' ⟨rfl, rfl⟩))
          go_round
          case rel => exact ⟨k + 1, by omega, by go_num, hok.next hlt HC.out⟩
          case measure => simp [intOf]; omega
        · have HC := Lib.hid hc
          clear hc
          go_wp2_with (first | (go_at_call 141; refine (isLetter_f _ _ (by assumption)).mono ?_; rintro e w' ⟨rfl, rfl⟩) | (go_at_call 142; refine (isDigit_t _ _ (by assumption) (by assumption)).mono ?_; rintro e w' ⟨rfl, rfl⟩))
          go_round
          case rel => exact ⟨k + 1, by omega, by go_num, hok.next hlt HC.out⟩
          case measure => simp [intOf]; omega
        · have HC := Lib.hid hc
          have e1 : (((s[k].toNat : Nat) : Int) != 45) = false := by simp [h3]
          clear hc h3
          go_wp2_with (first | (go_at_call 141; refine (isLetter_f _ _ (by assumption)).mono ?_; rintro e w' ⟨rfl, rfl⟩) | (go_at_call 142; refine (isDigit_f _ _ (by assumption)).mono ?_; rintro e w' ⟨rfl, rfl⟩))
          go_round
          case rel => exact ⟨k + 1, by omega, by go_num, hok.next hlt HC.out⟩
          case measure => simp [intOf]; omega
        · have HC := Lib.hid hc
          have e1 : (((s[k].toNat : Nat) : Int) != 45) = true := by simpa using h3
          clear hc h3
          go_wp2_with (first | (go_at_call 141; refine (isLetter_f _ _ (by assumption)).mono ?_; rintro e w' ⟨rfl, rfl⟩) | (go_at_call 142; refine (isDigit_f _ _ (by assumption)).mono ?_; rintro e w' ⟨rfl, rfl⟩))
          go_ret
          exact ⟨ret_bool (may_not hlt HC.out).symm, rfl⟩
      · go_wp2
        go_ret
        obtain rfl : k = s.size := by omega
        exact ⟨ret_bool (may_of (by omega) hok).symm, rfl⟩

end Go.Proofs.YtcjhgibhenocpaaGreatDoor

/- Slices of texts, and slices of these, as they lie in memory; the contract of allMayBe. -/
namespace Go.Proofs.YtcjhgibhenocpaaGreatDoor
set_option linter.unusedSimpArgs false
set_option linter.unusedVariables false
open Go.RowKit

abbrev str (l : Bs) : Value := .string ⟨l.toArray⟩

theorem bcell {W w1 : World} (hb : Below W.heap.size W w1) : (∀ b o, b < W.heap.size → w1.cell? ⟨b, o, none⟩ = W.cell? ⟨b, o, none⟩) ∧ (∀ b o, b < W.heap.size → w1.frozen? ⟨b, o, none⟩ = W.frozen? ⟨b, o, none⟩) :=
  ⟨fun b o h => hb.cell (p := ⟨b, o, none⟩) h, fun b o h => hb.frozen (p := ⟨b, o, none⟩) h⟩

theorem ownsRow_le {w : World} {base base' size n : Nat} {e : TypeId} {v : Value} {xs : List Value} (h : w.ownsRow base e size v n xs) (hb : base' ≤ base) : w.ownsRow base' e size v n xs := by
  obtain ⟨h1, h2⟩ := h
  refine ⟨h1, h2.imp id ?_⟩
  rintro ⟨g, cap, cur, rfl, hg, rest⟩
  exact ⟨g, cap, cur, rfl, by omega, rest⟩
theorem ownsRow_forms {w : World} {base size n : Nat} {e : TypeId} {v : Value} {xs : List Value} (h : w.ownsRow base e size v n xs) : (v = .slice none 0 0 ∧ n = 0) ∨ ∃ g cap, v = .slice (some ⟨g, 0, none⟩) n cap := by
  rcases h.2 with h2 | ⟨g, cap, cur, rfl, _⟩
  · exact .inl h2
  · exact .inr ⟨g, cap, rfl⟩
theorem own_below {w w' : World} {base size n : Nat} {e : TypeId} {v : Value} {xs : List Value} (h : w.ownsRow base e size v n xs) (hb : Below w.heap.size w w') : w'.ownsRow base e size v n xs := by
  obtain ⟨h1, h2⟩ := h
  refine ⟨h1, h2.imp id ?_⟩
  rintro ⟨g, cap, cur, rfl, hg, hc, rest⟩
  exact ⟨g, cap, cur, rfl, hg, by rw [hb.block g (Array.getElem?_eq_some_iff.1 hc).1]; exact hc, rest⟩

/-- A slice value whose elements are these cells (of one cell each). -/
def RowAt (w : World) (v : Value) (cs : List Value) : Prop :=
  ∃ a c, v = .slice a cs.length c ∧ cs.length ≤ c ∧ c ≤ maxLen ∧ (cs = [] ∨ ∃ b o, a = some ⟨b, o, none⟩ ∧ b < w.heap.size ∧ ∀ j x, cs[j]? = some x → w.cell? ⟨b, o + j, none⟩ = some x)

theorem RowAt.below {w w' : World} {v : Value} {cs : List Value} (h : RowAt w v cs) (hb : Below w.heap.size w w') : RowAt w' v cs := by
  obtain ⟨a, c, rfl, h1, h2, h3⟩ := h
  refine ⟨a, c, rfl, h1, h2, h3.imp id ?_⟩
  rintro ⟨b, o, rfl, hlt, hc⟩
  exact ⟨b, o, rfl, Nat.lt_of_lt_of_le hlt hb.size, fun j x hx => by rw [(bcell hb).1 b _ hlt]; exact hc j x hx⟩

theorem RowAt.of_own {w : World} {B : Nat} {e : TypeId} {v : Value} {n : Nat} {cs : List Value} (h : w.ownsRow B e 1 v n cs) : RowAt w v cs := by
  obtain ⟨hl, h2⟩ := h
  rcases h2 with ⟨rfl, rfl⟩ | ⟨g, cap, cur, rfl, hb, hg, h3, h4, h5, h6⟩
  · have : cs = [] := List.length_eq_zero_iff.1 (by simpa using hl)
    subst this
    exact ⟨none, 0, rfl, Nat.le_refl _, Nat.zero_le _, .inl rfl⟩
  · have hl' : cs.length = n := by simpa using hl
    refine ⟨some ⟨g, 0, none⟩, cap, by rw [hl'], by omega, h4, .inr ⟨g, 0, rfl, (Array.getElem?_eq_some_iff.1 hg).1, ?_⟩⟩
    intro j x hx
    have hj : j < n := by have := (List.getElem?_eq_some_iff.1 hx).1; omega
    rw [← h6, List.getElem?_take] at hx
    have hx' : cur.toList[j]? = some x := by
      split at hx
      · exact hx
      · cases hx
    simp only [World.cell?, hg, Nat.zero_add]
    simpa using hx'

/-- Every text of these lists is short enough. -/
def Short (xs : List Bs) : Prop := ∀ x ∈ xs, x.length ≤ 140737488351232

theorem bs_size (l : Bs) : (⟨l.toArray⟩ : ByteArray).size = l.length := rfl
/-- The contract of mayBe at the text of a list. -/
theorem mayBe_list (x : Bs) (w : World) (hx : x.length ≤ 140737488351232) : Calls Tryz.prog 94 #[str x] w fun e w' => e = .returned (.bool (mayL x)) ∧ w = w' :=
  mayBe_any ⟨x.toArray⟩ w (by rw [bs_size]; unfold maxLen; omega)
theorem mayBe_t (x : Bs) (w : World) (hx : x.length ≤ 140737488351232) (h : Hid (mayL x = true)) : Calls Tryz.prog 94 #[str x] w fun e w' => e = .returned (.bool true) ∧ w = w' :=
  (mayBe_list x w hx).mono fun e w' ⟨h1, h2⟩ => ⟨by rw [h1, h.out], h2⟩
theorem mayBe_f (x : Bs) (w : World) (hx : x.length ≤ 140737488351232) (h : Hid (mayL x = false)) : Calls Tryz.prog 94 #[str x] w fun e w' => e = .returned (.bool false) ∧ w = w' :=
  (mayBe_list x w hx).mono fun e w' ⟨h1, h2⟩ => ⟨by rw [h1, h.out], h2⟩

theorem all_take_next {α : Type} {p : α → Bool} {xs : List α} {k : Nat} {x : α} (h : (xs.take k).all p = true) (hx : xs[k]? = some x) (hp : p x = true) : (xs.take (k + 1)).all p = true := by
  obtain ⟨hlt, rfl⟩ := List.getElem?_eq_some_iff.1 hx
  rw [List.take_succ_eq_append_getElem hlt, List.all_append, h]
  simp [hp]
theorem all_not {α : Type} {p : α → Bool} {xs : List α} {k : Nat} {x : α} (hx : xs[k]? = some x) (hp : p x = false) : xs.all p = false := by
  rw [Bool.eq_false_iff]
  intro h
  have := List.all_eq_true.1 h x (List.mem_of_getElem? hx)
  rw [hp] at this
  exact absurd this (by decide)

/-- What the round of a loop over a row needs of it. -/
theorem RowAt.cases {w : World} {v : Value} {xs : List Bs} (h : RowAt w v (xs.map str)) :
    ∃ a c, v = .slice a xs.length c ∧ xs.length ≤ c ∧ c ≤ 9223372036854775807 ∧ (xs = [] ∨ ∃ b o, a = some ⟨b, o, none⟩ ∧ b < w.heap.size ∧ ∀ j x, xs[j]? = some x → w.cell? ⟨b, o + j, none⟩ = some (str x)) := by
  obtain ⟨a, c, rfl, h1, h2, h3⟩ := h
  rw [List.length_map] at h1
  refine ⟨a, c, by rw [List.length_map], h1, by unfold maxLen at h2; omega, ?_⟩
  rcases h3 with h3 | ⟨b, o, rfl, hb, hc⟩
  · left; simpa using h3
  · exact .inr ⟨b, o, rfl, hb, fun j x hx => hc j (str x) (by simp [hx])⟩

set_option maxHeartbeats 1000000 in
theorem allMayBe_any (v : Value) (xs : List Bs) (w : World) (h : RowAt w v (xs.map str)) (hs : Short xs) :
    Calls Tryz.prog 54 #[v] w fun e w' => e = .returned (.bool (xs.all mayL)) ∧ w = w' := by
  obtain ⟨a, c, rfl, h1, h2, h3⟩ := h.cases
  rcases h3 with rfl | ⟨b, o, rfl, hb, hc⟩
  · go_enter Tryz.func54, Tryz.ntmps54
    go_wp2
    go_loop [7] (fun i => i = .int .i64 0) (fun _ => 0)
    case atStart => rfl
    case round =>
      subst hrel
      go_wp2
      go_ret
      exact ⟨rfl, rfl⟩
  · have HC := Lib.hid hc
    have HS := Lib.hid hs
    clear hc hs
    go_enter Tryz.func54, Tryz.ntmps54
    go_wp2
    go_loop [7] (fun i => ∃ k : Nat, k ≤ xs.length ∧ i = .int .i64 k ∧ Hid ((xs.take k).all mayL = true)) (fun i => xs.length - (intOf i).toNat)
    case atStart => exact ⟨0, Nat.zero_le _, rfl, Lib.hid (by simp)⟩
    case round =>
      obtain ⟨k, hk, rfl, hok⟩ := hrel
      by_cases hlt : k < xs.length
      · have hx : xs[k]? = some xs[k] := List.getElem?_eq_getElem hlt
        have hsx := HS.out xs[k] (List.getElem_mem hlt)
        have hcx := HC.out k _ hx
        generalize hX : xs[k] = x at hx hsx hcx
        clear hX
        have HX := Lib.hid hx
        clear hx
        rcases hm : mayL x with _ | _
        · have HM := Lib.hid hm
          clear hm
          go_wp2_with (go_at_call 94; refine (mayBe_f x _ hsx HM).mono ?_; rintro e w' ⟨rfl, rfl⟩)
          go_ret
          exact ⟨ret_bool (all_not HX.out HM.out).symm, rfl⟩
        · have HM := Lib.hid hm
          clear hm
          go_wp2_with (go_at_call 94; refine (mayBe_t x _ hsx HM).mono ?_; rintro e w' ⟨rfl, rfl⟩)
          go_round
          case rel => exact ⟨k + 1, by omega, by go_num, Lib.hid (all_take_next hok.out HX.out HM.out)⟩
          case measure => simp [intOf]; omega
      · go_wp2
        go_ret
        obtain rfl : k = xs.length := by omega
        exact ⟨ret_bool (by have := hok.out; rw [List.take_length] at this; exact this.symm), rfl⟩

end Go.Proofs.YtcjhgibhenocpaaGreatDoor

/- Plain lists: decimal words. -/
namespace Go.Proofs.YtcjhgibhenocpaaGreatDoor
set_option linter.unusedSimpArgs false
set_option linter.unusedVariables false

def trimL : Bs → Bs
  | [] => []
  | c :: r => if c = 45 then r else c :: r
def digC (c : UInt8) : Bool := decide (48 ≤ c.toNat) && decide (c.toNat ≤ 57)
def decL (l : Bs) : Bool := !(trimL l).isEmpty && (trimL l).all digC && ((trimL l).head? != some 48 || l == [48])
end Go.Proofs.YtcjhgibhenocpaaGreatDoor
