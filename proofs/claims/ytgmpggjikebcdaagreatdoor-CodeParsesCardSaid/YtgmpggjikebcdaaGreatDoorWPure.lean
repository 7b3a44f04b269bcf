/-
  Plain lists: texts as lines of words, as the document says them. No program is named here.
-/
import Derived.Lib.SplitLaws
import Derived.Lib.Join
import Derived.Lib.IndexBytes
namespace Go.Proofs.YtgmpggjikebcdaaGreatDoor

abbrev Bs := List UInt8

/-- The pieces between the bytes c. -/
def splitL (c : UInt8) : Bs → List Bs
  | [] => [[]]
  | x :: r => if x = c then [] :: splitL c r else
      match splitL c r with
      | [] => [[x]]
      | p :: ps => (x :: p) :: ps

def wordsL (l : Bs) : List Bs := (splitL 32 (l.takeWhile (fun c => c != 35))).filter (fun w => !w.isEmpty)
def okC (c : UInt8) : Bool := (decide (97 ≤ c.toNat) && decide (c.toNat ≤ 122)) || (decide (48 ≤ c.toNat) && decide (c.toNat ≤ 57)) || decide (c.toNat = 45)
def mayL (w : Bs) : Bool := decide (w.length ≤ 30) && w.all okC
def okLine (l : Bs) : Bool := (wordsL l).all mayL
def badAt : Nat → List Bs → Option Nat
  | _, [] => none
  | n, l :: r => if okLine l then badAt (n + 1) r else some n
def goodL (ls : List Bs) : List (List Bs) := (ls.map wordsL).filter (fun x => !x.isEmpty)
def linesL (s : Bs) : List (List Bs) × Nat × Nat :=
  if 20000 < s.length then ([], 0, 3) else
    match badAt 1 (splitL 10 s) with
    | some n => ([], n, 4)
    | none => (goodL (splitL 10 s), 0, 0)
def joinL (xss : List (List Bs)) : Bs := (xss.map (fun x => Lib.join x [32] ++ [10])).flatten

theorem splitL_ne (c : UInt8) (s : Bs) : splitL c s ≠ [] := by
  cases s with
  | nil => simp [splitL]
  | cons x r =>
    unfold splitL
    split
    · simp
    · split <;> simp

theorem splitL_none (c : UInt8) : ∀ s : Bs, (∀ x ∈ s, x ≠ c) → splitL c s = [s]
  | [], _ => rfl
  | x :: r, h => by
    unfold splitL
    rw [if_neg (h x (by simp)), splitL_none c r (fun y hy => h y (by simp [hy]))]

theorem splitL_at (c : UInt8) : ∀ a b : Bs, (∀ x ∈ a, x ≠ c) → splitL c (a ++ c :: b) = a :: splitL c b
  | [], b, _ => by simp [splitL]
  | x :: a, b, h => by
    rw [List.cons_append, splitL, if_neg (h x (by simp)), splitL_at c a b (fun y hy => h y (by simp [hy]))]

/-- Two texts with a byte c between. -/
theorem splitL_two (c : UInt8) : ∀ a b : Bs, splitL c (a ++ c :: b) = splitL c a ++ splitL c b
  | [], b => by simp [splitL]
  | x :: a, b => by
    rw [List.cons_append, splitL, splitL, splitL_two c a b]
    split
    · rfl
    · cases h : splitL c a with
      | nil => exact absurd h (splitL_ne c a)
      | cons p ps => simp

theorem splitL_length (c : UInt8) : ∀ s : Bs, (splitL c s).length = s.count c + 1
  | [] => rfl
  | x :: r => by
    have ih := splitL_length c r
    unfold splitL
    split
    · next h => subst h; simp [ih]
    · next h =>
      rw [List.count_cons, if_neg (by simpa using h)]
      split
      · next e => exact absurd e (splitL_ne c r)
      · next p ps e => rw [e] at ih; simpa using ih

theorem splitL_len (c : UInt8) : ∀ s : Bs, ∀ x ∈ splitL c s, x.length ≤ s.length
  | [], x, h => by simp [splitL] at h; simp [h]
  | y :: r, x, h => by
    have ih := splitL_len c r
    unfold splitL at h
    split at h
    · rcases List.mem_cons.1 h with rfl | h
      · simp
      · have := ih x h; simp; omega
    · split at h
      · next e => exact absurd e (splitL_ne c r)
      · next p ps e =>
        rcases List.mem_cons.1 h with rfl | h
        · have := ih p (by rw [e]; simp); simp; omega
        · have := ih x (by rw [e]; simp [h]); simp; omega

/-- The library's pieces are these. -/
theorem splitK_eq (c : UInt8) : ∀ (k : Nat) (s : Bs), s.count c ≤ k → Lib.splitK [c] 0 k s = splitL c s
  | 0, s, h => by
    rw [splitL_none c s (fun x hx e => by subst e; have := List.count_pos_iff.2 hx; omega)]; rfl
  | k + 1, s, h => by
    unfold Lib.splitK
    rw [Lib.index_one]
    split
    · next e =>
      have hn := Lib.indexByte_none (beq_iff_eq.1 e)
      rw [splitL_none c s]
      intro x hx e'
      subst e'
      obtain ⟨j, hj⟩ := List.getElem?_of_mem hx
      exact hn j hj
    · next e =>
      have hge := Lib.indexByte_ge s c
      have hne : Lib.indexByte s c ≠ -1 := fun h' => e (beq_iff_eq.2 h')
      obtain ⟨o, ho⟩ : ∃ o : Nat, Lib.indexByte s c = o := ⟨(Lib.indexByte s c).toNat, by omega⟩
      obtain ⟨h1, h2⟩ := Lib.indexByte_some ho
      rw [ho]
      simp only [Int.toNat_natCast, Nat.add_zero, List.length_singleton]
      have hlt : o < s.length := (List.getElem?_eq_some_iff.1 h1).1
      have hs : s = s.take o ++ c :: s.drop (o + 1) := by
        conv => lhs; rw [← List.take_append_drop o s]
        congr 1
        rw [List.drop_eq_getElem_cons hlt]
        congr 1
        exact (List.getElem?_eq_some_iff.1 h1).2
      have ha : ∀ x ∈ s.take o, x ≠ c := by
        intro x hx e'
        subst e'
        obtain ⟨j, hj⟩ := List.getElem?_of_mem hx
        have hjo : j < o := by
          have := (List.getElem?_eq_some_iff.1 hj).1
          simp at this; omega
        rw [List.getElem?_take, if_pos hjo] at hj
        exact h2 j hjo hj
      have hc : (s.drop (o + 1)).count c ≤ k := by
        have : s.count c = (s.take o).count c + (1 + (s.drop (o + 1)).count c) := by
          conv => lhs; rw [hs]
          rw [List.count_append, List.count_cons_self]; omega
        omega
      rw [splitK_eq c k _ hc]
      conv => rhs; rw [hs]
      exact (splitL_at c _ _ ha).symm

theorem split_cells (c : UInt8) (s : ByteArray) : (Lib.splitB ⟨#[c]⟩ 0 (Lib.countB s ⟨#[c]⟩) s).map Value.string = (splitL c s.data.toList).map fun l => Value.string ⟨l.toArray⟩ := by
  have h := Lib.splitB_data ⟨#[c]⟩ 0 (Lib.countB s ⟨#[c]⟩) s
  have hc : Lib.countB s ⟨#[c]⟩ = s.data.toList.count c := Lib.count_one c s.data.toList
  have e := splitK_eq c (Lib.countB s ⟨#[c]⟩) s.data.toList (by rw [hc]; exact Nat.le_refl _)
  have h' : (Lib.splitB ⟨#[c]⟩ 0 (Lib.countB s ⟨#[c]⟩) s).map (·.data.toList) = splitL c s.data.toList := by rw [← e]; exact h
  rw [← h', List.map_map]
  rfl

theorem count_pieces (c : UInt8) (s : ByteArray) : Lib.countB s ⟨#[c]⟩ + 1 = (splitL c s.data.toList).length := by
  rw [splitL_length]
  exact congrArg (· + 1) (Lib.count_one c s.data.toList)

theorem takeWhile_whole {α : Type} (p : α → Bool) : ∀ l : List α, (∀ x ∈ l, p x = true) → l.takeWhile p = l
  | [], _ => rfl
  | x :: r, h => by rw [List.takeWhile_cons, if_pos (h x (by simp)), takeWhile_whole p r (fun y hy => h y (by simp [hy]))]

theorem cut_hash : ∀ l : Bs, (Lib.cut l [35]).1 = l.takeWhile (fun c => c != 35) := by
  intro l
  unfold Lib.cut
  rw [Lib.index_one]
  have hge := Lib.indexByte_ge l 35
  split
  · next h =>
    obtain ⟨o, ho⟩ : ∃ o : Nat, Lib.indexByte l 35 = o := ⟨(Lib.indexByte l 35).toNat, by omega⟩
    obtain ⟨h1, h2⟩ := Lib.indexByte_some ho
    rw [ho]
    simp only [Int.toNat_natCast]
    have hlt : o < l.length := (List.getElem?_eq_some_iff.1 h1).1
    have hs : l = l.take o ++ 35 :: l.drop (o + 1) := by
      conv => lhs; rw [← List.take_append_drop o l]
      congr 1
      rw [List.drop_eq_getElem_cons hlt]
      congr 1
      exact (List.getElem?_eq_some_iff.1 h1).2
    have ha : ∀ x ∈ l.take o, (x != 35) = true := by
      intro x hx
      obtain ⟨j, hj⟩ := List.getElem?_of_mem hx
      have hjo : j < o := by
        have := (List.getElem?_eq_some_iff.1 hj).1
        simp at this; omega
      rw [List.getElem?_take, if_pos hjo] at hj
      have := h2 j hjo
      rw [hj] at this
      simpa using this
    conv => rhs; rw [hs]
    rw [List.takeWhile_append_of_pos ha]
    simp
  · next h =>
    have hn := Lib.indexByte_none (show Lib.indexByte l 35 = -1 by omega)
    refine Eq.symm (takeWhile_whole _ l ?_)
    intro x hx
    obtain ⟨j, hj⟩ := List.getElem?_of_mem hx
    have := hn j
    rw [hj] at this
    simpa using this

theorem badAt_none (n : Nat) (ls : List Bs) (h : ∀ l ∈ ls, okLine l = true) : badAt n ls = none := by
  induction ls generalizing n with
  | nil => rfl
  | cons l r ih => unfold badAt; rw [if_pos (h l (by simp))]; exact ih _ (fun x hx => h x (by simp [hx]))

theorem badAt_some (n k : Nat) (ls : List Bs) (l : Bs) (h : ∀ x ∈ ls.take k, okLine x = true) (hk : ls[k]? = some l) (hb : okLine l = false) : badAt n ls = some (n + k) := by
  induction k generalizing n ls with
  | zero =>
    cases ls with
    | nil => simp at hk
    | cons x r => simp at hk; subst hk; unfold badAt; rw [if_neg (by simp [hb])]; rfl
  | succ k ih =>
    cases ls with
    | nil => simp at hk
    | cons x r =>
      unfold badAt
      rw [if_pos (h x (by simp)), ih (n + 1) r (fun y hy => h y (by simp [hy])) (by simpa using hk)]
      congr 1; omega

end Go.Proofs.YtgmpggjikebcdaaGreatDoor
