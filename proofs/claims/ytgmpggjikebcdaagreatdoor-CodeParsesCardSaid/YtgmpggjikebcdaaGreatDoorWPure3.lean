/-
  Plain lists: two texts on lines of their own; a word that may not be; more spaces, and what stands behind a hash.
-/
import Derived.Test.YtgmpggjikebcdaaGreatDoorWPure2
namespace Go.Proofs.YtgmpggjikebcdaaGreatDoor

theorem goodL_append (a b : List Bs) : goodL (a ++ b) = goodL a ++ goodL b := by unfold goodL; simp

theorem linesL_of_bad {s : Bs} {k : Nat} {l : Bs} (hs : s.length ≤ 20000) (h : ∀ x ∈ (splitL 10 s).take k, okLine x = true) (hk : (splitL 10 s)[k]? = some l) (hb : okLine l = false) : linesL s = ([], k + 1, 4) := by
  unfold linesL
  rw [if_neg (by omega), badAt_some 1 k _ l h hk hb, Nat.add_comm]
theorem linesL_of_good {s : Bs} (hs : s.length ≤ 20000) (h : ∀ x ∈ splitL 10 s, okLine x = true) : linesL s = (goodL (splitL 10 s), 0, 0) := by
  unfold linesL
  rw [if_neg (by omega), badAt_none 1 _ h]

/-- Two texts: the first one's error is the error. -/
theorem two_err1 {s t : Bs} {k : Nat} {l : Bs} (hs : (s ++ 10 :: t).length ≤ 20000) (hk : (splitL 10 s)[k]? = some l) (hb : okLine l = false) (h : ∀ x ∈ (splitL 10 s).take k, okLine x = true) : linesL (s ++ 10 :: t) = ([], k + 1, 4) := by
  have hlt : k < (splitL 10 s).length := (List.getElem?_eq_some_iff.1 hk).1
  refine linesL_of_bad (l := l) hs ?_ ?_ hb
  · rw [splitL_two, List.take_append_of_le_length (by omega)]; exact h
  · rw [splitL_two, List.getElem?_append_left hlt]; exact hk
theorem two_err2 {s t : Bs} {k : Nat} {l : Bs} (hs : (s ++ 10 :: t).length ≤ 20000) (h1 : ∀ x ∈ splitL 10 s, okLine x = true) (hk : (splitL 10 t)[k]? = some l) (hb : okLine l = false) (h : ∀ x ∈ (splitL 10 t).take k, okLine x = true) :
    linesL (s ++ 10 :: t) = ([], (s.count 10 + 1) + (k + 1), 4) := by
  have e := splitL_length 10 s
  rw [linesL_of_bad (k := (splitL 10 s).length + k) (l := l) hs ?_ ?_ hb]
  · rw [e]; congr 1
  · rw [splitL_two, List.take_length_add_append]
    intro x hx
    rcases List.mem_append.1 hx with hx | hx
    · exact h1 x hx
    · exact h x hx
  · rw [splitL_two, List.getElem?_append_right (by omega)]
    rw [show (splitL 10 s).length + k - (splitL 10 s).length = k by omega]; exact hk
theorem two_ok {s t : Bs} (hs : (s ++ 10 :: t).length ≤ 20000) (h1 : ∀ x ∈ splitL 10 s, okLine x = true) (h2 : ∀ x ∈ splitL 10 t, okLine x = true) :
    linesL (s ++ 10 :: t) = (goodL (splitL 10 s) ++ goodL (splitL 10 t), 0, 0) := by
  rw [linesL_of_good hs, splitL_two, goodL_append]
  rw [splitL_two]
  intro x hx
  rcases List.mem_append.1 hx with hx | hx
  · exact h1 x hx
  · exact h2 x hx

/-- A word that may not be, behind a text that is right. -/
theorem bad_line {c : UInt8} (h : okC c = false) (h1 : c ≠ 32) (h2 : c ≠ 35) : okLine [111, 107, 32, c] = false := by
  have e : wordsL [111, 107, 32, c] = [[111, 107], [c]] := by
    unfold wordsL
    have hc : (c != 35) = true := by simpa using h2
    rw [takeWhile_whole _ _ (by intro x hx; simp at hx; rcases hx with rfl | rfl | rfl | rfl <;> first | decide | exact hc)]
    rw [show ([111, 107, 32, c] : Bs) = [111, 107] ++ 32 :: [c] from rfl, splitL_two, splitL_none 32 [c] (by simpa using h1)]
    rfl
  unfold okLine
  rw [e]
  simp [mayL, h]
theorem errs {s t : Bs} {c : UInt8} (hs : (s ++ 10 :: ([111, 107, 32, c] ++ 10 :: t)).length ≤ 20000) (h1 : ∀ x ∈ splitL 10 s, okLine x = true) (h : okC c = false) (h2 : c ≠ 32) (h3 : c ≠ 35) (h4 : c ≠ 10) :
    linesL (s ++ 10 :: ([111, 107, 32, c] ++ 10 :: t)) = ([], s.count 10 + 2, 4) := by
  have e : splitL 10 ([111, 107, 32, c] ++ 10 :: t) = [111, 107, 32, c] :: splitL 10 t := splitL_at 10 _ _ (by
    intro x hx; simp at hx; rcases hx with rfl | rfl | rfl | rfl <;> first | decide | exact h4)
  have := two_err2 (k := 0) (l := [111, 107, 32, c]) hs h1 (by rw [e]; rfl) (bad_line h h2 h3) (by simp)
  rw [this]

/-- The pieces of two texts, one right behind the other. -/
theorem splitL_glue (c : UInt8) : ∀ a b : Bs, ∃ (i : List Bs) (l p : Bs) (ps : List Bs), splitL c a = i ++ [l] ∧ splitL c b = p :: ps ∧ splitL c (a ++ b) = i ++ (l ++ p) :: ps
  | [], b => by
    cases h : splitL c b with
    | nil => exact absurd h (splitL_ne c b)
    | cons p ps => exact ⟨[], [], p, ps, rfl, rfl, by simpa using h⟩
  | x :: a, b => by
    obtain ⟨i, l, p, ps, h1, h2, h3⟩ := splitL_glue c a b
    by_cases hx : x = c
    · refine ⟨[] :: i, l, p, ps, ?_, h2, ?_⟩
      · rw [splitL, if_pos hx, h1]; rfl
      · rw [List.cons_append, splitL, if_pos hx, h3]; rfl
    · cases i with
      | nil =>
        refine ⟨[], x :: l, p, ps, ?_, h2, ?_⟩
        · rw [splitL, if_neg hx, h1]; rfl
        · rw [List.cons_append, splitL, if_neg hx, h3]; rfl
      | cons y i =>
        refine ⟨(x :: y) :: i, l, p, ps, ?_, h2, ?_⟩
        · rw [splitL, if_neg hx, h1]; rfl
        · rw [List.cons_append, splitL, if_neg hx, h3]; rfl

theorem takeWhile_split (l q : Bs) : ((l ++ q).takeWhile (fun c => c != 35) = l.takeWhile (fun c => c != 35) ∧ l.takeWhile (fun c => c != 35) ≠ l) ∨ ((l ++ q).takeWhile (fun c => c != 35) = l ++ q.takeWhile (fun c => c != 35) ∧ l.takeWhile (fun c => c != 35) = l) := by
  by_cases h : ∀ x ∈ l, (x != 35) = true
  · right; exact ⟨List.takeWhile_append_of_pos h, takeWhile_whole _ _ h⟩
  · left
    constructor
    · rw [List.takeWhile_append]
      rw [if_neg]
      intro e
      apply h
      intro x hx
      have e2 : l.takeWhile (fun c => c != 35) = l := (List.takeWhile_sublist _).eq_of_length e
      rw [← e2] at hx
      exact (List.all_eq_true.1 (List.all_takeWhile (p := fun c : UInt8 => c != 35) (l := l))) x hx
    · intro e
      apply h
      intro x hx
      rw [← e] at hx
      exact (List.all_eq_true.1 (List.all_takeWhile (p := fun c : UInt8 => c != 35) (l := l))) x hx

theorem words_hash (l q : Bs) : wordsL (l ++ 32 :: 35 :: q) = wordsL l := by
  unfold wordsL
  rcases takeWhile_split l (32 :: 35 :: q) with ⟨h, _⟩ | ⟨h, h'⟩
  · rw [h]
  · rw [h, h', show ((32 :: 35 :: q : Bs).takeWhile (fun c => c != 35)) = [32] from by simp, splitL_two, List.filter_append]
    simp [splitL]
theorem words_double (l p : Bs) : wordsL (l ++ 32 :: 32 :: p) = wordsL (l ++ 32 :: p) := by
  unfold wordsL
  rcases takeWhile_split l (32 :: 32 :: p) with ⟨h, hn⟩ | ⟨h, h'⟩
  · rcases takeWhile_split l (32 :: p) with ⟨g, _⟩ | ⟨_, g'⟩
    · rw [h, g]
    · exact absurd g' hn
  · rcases takeWhile_split l (32 :: p) with ⟨_, gn⟩ | ⟨g, _⟩
    · exact absurd h' gn
    · rw [h, g]
      have e1 : ((32 :: 32 :: p : Bs).takeWhile (fun c => c != 35)) = 32 :: 32 :: p.takeWhile (fun c => c != 35) := by simp
      have e2 : ((32 :: p : Bs).takeWhile (fun c => c != 35)) = 32 :: p.takeWhile (fun c => c != 35) := by simp
      rw [e1, e2, splitL_two, splitL_two, List.filter_append, List.filter_append]
      congr 1
/-- Lists of lines whose words are the same. -/
theorem alike {a b : List Bs} (h : a.map wordsL = b.map wordsL) : goodL a = goodL b ∧ ((∀ x ∈ a, okLine x = true) → ∀ x ∈ b, okLine x = true) := by
  refine ⟨by unfold goodL; rw [h], fun ha x hx => ?_⟩
  have hm : wordsL x ∈ a.map wordsL := by rw [h]; exact List.mem_map_of_mem hx
  obtain ⟨y, hy, e⟩ := List.mem_map.1 hm
  have := ha y hy
  unfold okLine at this ⊢
  rw [← e]; exact this

theorem spaces_double {a b : Bs} (hs : (a ++ 32 :: 32 :: b).length ≤ 20000) (h : ∀ x ∈ splitL 10 (a ++ 32 :: b), okLine x = true) : linesL (a ++ 32 :: 32 :: b) = (goodL (splitL 10 (a ++ 32 :: b)), 0, 0) := by
  obtain ⟨i, l, p, ps, h1, h2, h3⟩ := splitL_glue 10 a (32 :: b)
  obtain ⟨i', l', p', ps', g1, g2, g3⟩ := splitL_glue 10 a (32 :: 32 :: b)
  have e : i = i' ∧ l = l' := by
    have := h1.symm.trans g1
    have := List.append_inj' this rfl
    exact ⟨this.1, by simpa using this.2⟩
  obtain ⟨rfl, rfl⟩ := e
  obtain ⟨r, rs, hr⟩ : ∃ r rs, splitL 10 b = r :: rs := by
    cases hb : splitL 10 b with
    | nil => exact absurd hb (splitL_ne 10 b)
    | cons r rs => exact ⟨r, rs, rfl⟩
  have e1 : splitL 10 (32 :: b) = (32 :: r) :: rs := by rw [splitL, if_neg (by decide), hr]
  have e2 : splitL 10 (32 :: 32 :: b) = (32 :: 32 :: r) :: rs := by rw [splitL, if_neg (by decide), e1]
  rw [e1] at h2; rw [e2] at g2
  obtain ⟨rfl, rfl⟩ := List.cons.inj h2
  obtain ⟨rfl, rfl⟩ := List.cons.inj g2
  have hw : (splitL 10 (a ++ 32 :: b)).map wordsL = (splitL 10 (a ++ 32 :: 32 :: b)).map wordsL := by
    rw [h3, g3]
    simp only [List.map_append, List.map_cons]
    rw [words_double]
  have := alike hw
  rw [linesL_of_good hs (this.2 h), this.1]

theorem spaces_more {s m : Bs} (hm : ∀ x ∈ m, x ≠ 10) (hs : (10 :: 10 :: (s ++ (32 :: 35 :: m ++ [10, 32, 10]))).length ≤ 20000) (h : ∀ x ∈ splitL 10 s, okLine x = true) :
    linesL (10 :: 10 :: (s ++ (32 :: 35 :: m ++ [10, 32, 10]))) = (goodL (splitL 10 s), 0, 0) := by
  have e0 : splitL 10 (32 :: 35 :: m ++ [10, 32, 10]) = [32 :: 35 :: m, [32], []] := by
    have : ∀ x ∈ (32 :: 35 :: m : Bs), x ≠ 10 := by
      intro x hx; simp at hx; rcases hx with rfl | rfl | hx
      · decide
      · decide
      · exact hm x hx
    rw [show ([10, 32, 10] : Bs) = 10 :: [32, 10] from rfl, splitL_at 10 _ _ this]
    rfl
  obtain ⟨i, l, p, ps, h1, h2, h3⟩ := splitL_glue 10 s (32 :: 35 :: m ++ [10, 32, 10])
  rw [e0] at h2
  obtain ⟨rfl, rfl⟩ := List.cons.inj h2
  have e : splitL 10 (10 :: 10 :: (s ++ (32 :: 35 :: m ++ [10, 32, 10]))) = [] :: [] :: (i ++ (l ++ 32 :: 35 :: m) :: [[32], []]) := by
    rw [splitL, if_pos rfl, splitL, if_pos rfl, h3]
  have w0 : wordsL [] = [] := rfl
  have w1 : wordsL [32] = [] := by decide
  have hg : goodL (splitL 10 (10 :: 10 :: (s ++ (32 :: 35 :: m ++ [10, 32, 10])))) = goodL (splitL 10 s) := by
    rw [e, h1]
    unfold goodL
    simp only [List.map_append, List.map_cons, List.map_nil, w0, w1, words_hash, List.filter_append, List.filter_cons]
    simp
  rw [linesL_of_good hs, hg]
  rw [h1] at h
  rw [e]
  intro x hx
  have hk : okLine ([] : Bs) = true := rfl
  rcases List.mem_cons.1 hx with rfl | hx
  · exact hk
  rcases List.mem_cons.1 hx with rfl | hx
  · exact hk
  rcases List.mem_append.1 hx with hx | hx
  · exact h x (by simp [hx])
  rcases List.mem_cons.1 hx with rfl | hx
  · have := h l (by simp)
    unfold okLine at this ⊢
    rw [words_hash]; exact this
  · simp at hx
    rcases hx with rfl | rfl
    · decide
    · exact hk
end Go.Proofs.YtgmpggjikebcdaaGreatDoor
