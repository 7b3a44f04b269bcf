/-
  Plain lists: what Join tells comes back from Lines; lengths; texts one behind the other.
-/
import Derived.Test.YtgmpggjikebcdaaGreatDoorWPure
namespace Go.Proofs.YtgmpggjikebcdaaGreatDoor

def GoodW (x : List Bs) : Prop := x ≠ [] ∧ ∀ y ∈ x, y ≠ [] ∧ mayL y = true

theorem okC_not {c : UInt8} (h : okC c = true) : c ≠ 10 ∧ c ≠ 32 ∧ c ≠ 35 := by
  refine ⟨?_, ?_, ?_⟩ <;> (intro e; subst e; revert h; decide)
theorem may_chars {y : Bs} (h : mayL y = true) : ∀ c ∈ y, okC c = true := by
  unfold mayL at h
  exact List.all_eq_true.1 (Bool.and_eq_true_iff.1 h).2

theorem join_two (x y : Bs) (r : List Bs) : Lib.join (x :: y :: r) [32] = x ++ 32 :: Lib.join (y :: r) [32] := by
  rw [Lib.join_cons, Lib.join_cons]; simp [Lib.joinTail]
theorem join_chars (x : List Bs) (h : ∀ y ∈ x, mayL y = true) : ∀ c ∈ Lib.join x [32], okC c = true ∨ c = 32 := by
  induction x with
  | nil => intro c hc; simp [Lib.join, List.intercalate] at hc
  | cons a r ih =>
    cases r with
    | nil => intro c hc; rw [Lib.join_one] at hc; exact .inl (may_chars (h a (by simp)) c hc)
    | cons b r =>
      intro c hc
      rw [join_two] at hc
      rcases List.mem_append.1 hc with h1 | h1
      · exact .inl (may_chars (h a (by simp)) c h1)
      · rcases List.mem_cons.1 h1 with h2 | h2
        · exact .inr h2
        · exact ih (fun y hy => h y (by simp at hy ⊢; right; exact hy)) c h2

theorem split_join (x : List Bs) (h0 : x ≠ []) (h : ∀ y ∈ x, mayL y = true) : splitL 32 (Lib.join x [32]) = x := by
  induction x with
  | nil => exact absurd rfl h0
  | cons a r ih =>
    have ha : ∀ c ∈ a, c ≠ 32 := fun c hc => (okC_not (may_chars (h a (by simp)) c hc)).2.1
    cases r with
    | nil => rw [Lib.join_one, splitL_none 32 a ha]
    | cons b r =>
      rw [join_two, splitL_at 32 a _ ha, ih (by simp) (fun y hy => h y (by simp at hy ⊢; right; exact hy))]

theorem words_join (x : List Bs) (h : GoodW x) : wordsL (Lib.join x [32]) = x := by
  have hm : ∀ y ∈ x, mayL y = true := fun y hy => (h.2 y hy).2
  unfold wordsL
  rw [takeWhile_whole _ _ (fun c hc => by
    rcases join_chars x hm c hc with h1 | rfl
    · have := (okC_not h1).2.2; simpa using this
    · decide), split_join x h.1 hm, List.filter_eq_self]
  intro y hy
  have := (h.2 y hy).1
  cases y with
  | nil => exact absurd rfl this
  | cons _ _ => rfl

theorem joinL_cons (x : List Bs) (G : List (List Bs)) : joinL (x :: G) = Lib.join x [32] ++ 10 :: joinL G := by
  unfold joinL; simp
theorem split_joinL (G : List (List Bs)) (hG : ∀ x ∈ G, GoodW x) : splitL 10 (joinL G) = G.map (fun x => Lib.join x [32]) ++ [[]] := by
  induction G with
  | nil => rfl
  | cons x G ih =>
    rw [joinL_cons, splitL_at 10 _ _ (fun c hc => by
      rcases join_chars x (fun y hy => ((hG x (by simp)).2 y hy).2) c hc with h1 | rfl
      · exact (okC_not h1).1
      · decide), ih (fun y hy => hG y (by simp [hy]))]
    rfl

theorem good_join (G : List (List Bs)) (hG : ∀ x ∈ G, GoodW x) : goodL (G.map (fun x => Lib.join x [32]) ++ [[]]) = G := by
  unfold goodL
  have e : (G.map (fun x => Lib.join x [32])).map wordsL = G := by
    rw [List.map_map]
    exact (List.map_congr_left (fun x hx => words_join x (hG x hx))).trans (List.map_id G)
  rw [List.map_append, e, List.filter_append, List.filter_eq_self.2]
  · have : wordsL [] = [] := rfl
    simp [this]
  · intro x hx
    have := (hG x hx).1
    cases x with
    | nil => exact absurd rfl this
    | cons _ _ => rfl

theorem lines_join (G : List (List Bs)) (hG : ∀ x ∈ G, GoodW x) (hl : (joinL G).length ≤ 20000) : linesL (joinL G) = (G, 0, 0) := by
  unfold linesL
  rw [if_neg (by omega), split_joinL G hG, badAt_none, good_join G hG]
  intro l hl
  rcases List.mem_append.1 hl with h1 | h1
  · obtain ⟨x, hx, rfl⟩ := List.mem_map.1 h1
    unfold okLine
    rw [words_join x (hG x hx)]
    exact List.all_eq_true.2 (fun y hy => ((hG x hx).2 y hy).2)
  · simp at h1; subst h1; rfl

/-- What Lines answers of a text that is not too long. -/
theorem badAt_cases (n : Nat) (ls : List Bs) : (badAt n ls = none ∧ ∀ l ∈ ls, okLine l = true) ∨ ∃ k l, badAt n ls = some (n + k) ∧ ls[k]? = some l ∧ okLine l = false ∧ ∀ x ∈ ls.take k, okLine x = true := by
  induction ls generalizing n with
  | nil => left; exact ⟨rfl, by simp⟩
  | cons l r ih =>
    by_cases h : okLine l = true
    · rcases ih (n + 1) with ⟨h1, h2⟩ | ⟨k, x, h1, h2, h3, h4⟩
      · left; refine ⟨by unfold badAt; rw [if_pos h]; exact h1, fun y hy => ?_⟩
        rcases List.mem_cons.1 hy with rfl | hy
        · exact h
        · exact h2 y hy
      · right; refine ⟨k + 1, x, by unfold badAt; rw [if_pos h, h1]; congr 1; omega, by simpa using h2, h3, fun y hy => ?_⟩
        rw [List.take_succ_cons] at hy
        rcases List.mem_cons.1 hy with rfl | hy
        · exact h
        · exact h4 y hy
    · right; exact ⟨0, l, by unfold badAt; rw [if_neg h]; rfl, rfl, by simpa using h, by simp⟩
theorem linesL_cases (s : Bs) (hs : s.length ≤ 20000) :
    (linesL s = (goodL (splitL 10 s), 0, 0) ∧ ∀ l ∈ splitL 10 s, okLine l = true) ∨ ∃ k l, linesL s = ([], k + 1, 4) ∧ (splitL 10 s)[k]? = some l ∧ okLine l = false ∧ ∀ x ∈ (splitL 10 s).take k, okLine x = true := by
  rcases badAt_cases 1 (splitL 10 s) with ⟨h1, h2⟩ | ⟨k, l, h1, h2⟩
  · left; exact ⟨by unfold linesL; rw [if_neg (by omega), h1], h2⟩
  · right; exact ⟨k, l, by unfold linesL; rw [if_neg (by omega), h1, Nat.add_comm], h2⟩

theorem goodL_good (ls : List Bs) (h : ∀ l ∈ ls, okLine l = true) : ∀ x ∈ goodL ls, GoodW x := by
  intro x hx
  obtain ⟨h1, h2⟩ := List.mem_filter.1 hx
  obtain ⟨l, hl, rfl⟩ := List.mem_map.1 h1
  refine ⟨by intro e; rw [e] at h2; simp at h2, fun y hy => ⟨?_, List.all_eq_true.1 (h l hl) y hy⟩⟩
  have := (List.mem_filter.1 hy).2
  intro e; subst e; simp at this

/-- Lengths. -/
def lens1 (xs : List Bs) : Nat := (xs.map fun x => x.length + 1).sum
theorem lens1_cons (x : Bs) (r : List Bs) : lens1 (x :: r) = x.length + 1 + lens1 r := by simp [lens1]
theorem split_lens (c : UInt8) : ∀ s : Bs, lens1 (splitL c s) = s.length + 1
  | [] => rfl
  | x :: r => by
    have ih := split_lens c r
    unfold splitL
    split
    · rw [lens1_cons, ih]; simp; omega
    · split
      · next e => exact absurd e (splitL_ne c r)
      · next p ps e => rw [e] at ih; rw [lens1_cons] at ih ⊢; simp at ih ⊢; omega
theorem lens1_filter (p : Bs → Bool) (xs : List Bs) : lens1 (xs.filter p) ≤ lens1 xs := by
  induction xs with
  | nil => simp
  | cons x r ih =>
    rw [List.filter_cons]
    split <;> (simp only [lens1_cons]; omega)
theorem join_len (x : List Bs) : (Lib.join x [32]).length ≤ lens1 x - 1 := by
  induction x with
  | nil => simp [Lib.join, List.intercalate]
  | cons a r ih =>
    cases r with
    | nil => rw [Lib.join_one, lens1_cons]; simp [lens1]
    | cons b r =>
      rw [join_two, lens1_cons]
      have : 1 ≤ lens1 (b :: r) := by rw [lens1_cons]; omega
      simp; omega
theorem words_len (l : Bs) : (Lib.join (wordsL l) [32]).length ≤ l.length := by
  have h1 := join_len (wordsL l)
  have h2 := lens1_filter (fun w => !w.isEmpty) (splitL 32 (l.takeWhile (fun c => c != 35)))
  have h3 := split_lens 32 (l.takeWhile (fun c => c != 35))
  have h4 := (List.takeWhile_sublist (fun c : UInt8 => c != 35) (l := l)).length_le
  unfold wordsL at h1 ⊢
  omega
theorem joinL_len (ls : List Bs) : (joinL (goodL ls)).length ≤ lens1 ls := by
  induction ls with
  | nil => simp [goodL, joinL, lens1]
  | cons l r ih =>
    have e : goodL (l :: r) = (if wordsL l = [] then [] else [wordsL l]) ++ goodL r := by
      unfold goodL
      rw [List.map_cons, List.filter_cons]
      by_cases h : wordsL l = [] <;> simp [h]
    rw [e, lens1_cons]
    have := words_len l
    by_cases h : wordsL l = []
    · rw [if_pos h]; simp; omega
    · rw [if_neg h, List.singleton_append, joinL_cons]; simp; omega
theorem again_len (s : Bs) : (joinL (goodL (splitL 10 s))).length ≤ s.length + 1 := by
  have := joinL_len (splitL 10 s)
  rw [split_lens] at this
  exact this
end Go.Proofs.YtgmpggjikebcdaaGreatDoor
