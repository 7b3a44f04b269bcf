/-
  In plain lists: what a program that may be run names is there; with one type more it may be run as it could be without.
-/
import Derived.Test.YtmnoohpkjgjphaaDoorHPure
namespace Go.Proofs.YtmnoohpkjgjphaaDoor
set_option linter.unusedSimpArgs false
set_option linter.unusedVariables false

theorem tsP_len (ts : List Bs) : (tsP ts).length = ts.length := by simp [tsP]
theorem ty_tsP {ts : List Bs} {t : Nat} (h : t < ts.length) : ty (tsP ts) t = baL (ts.getD t []) := by
  unfold ty tsP
  rw [List.getD_eq_getElem?_getD, List.getElem?_map, List.getElem?_eq_getElem h, List.getD_eq_getElem?_getD, List.getElem?_eq_getElem h]
  rfl
theorem refs_list {ts : List Bs} {s : Bs} : refsB (tsP ts) (baL s) = true ↔ rightB (tsP ts) = true ∧ ∀ c ∈ s, 48 ≤ c.toNat ∧ c.toNat < 48 + ts.length := by
  rw [refs_iff]
  refine and_congr_right fun _ => ⟨fun h c hc => ?_, fun h k hk => ?_⟩
  · obtain ⟨k, hk, rfl⟩ := List.getElem_of_mem hc
    have := dig_iff.1 (h k hk)
    rw [tsP_len] at this
    have e : byt (baL s) k = s[k].toNat := by
      show (s.getD k 0).toNat = _
      rw [List.getD_eq_getElem?_getD, List.getElem?_eq_getElem hk]; rfl
    rw [e] at this; exact this
  · have hk' : k < s.length := hk
    have e : byt (baL s) k = s[k].toNat := by
      show (s.getD k 0).toNat = _
      rw [List.getD_eq_getElem?_getD, List.getElem?_eq_getElem hk']; rfl
    rw [dig_iff, tsP_len, e]
    exact h _ (List.getElem_mem hk')
theorem getD_mem {s : Bs} {k : Nat} (h : k < s.length) : s.getD k 0 ∈ s := by
  rw [List.getD_eq_getElem?_getD, List.getElem?_eq_getElem h]
  exact List.getElem_mem h
theorem names_no {ts : List Bs} {s : Bs} {a : Int} (h : ¬ (0 ≤ a ∧ a < s.length)) : namesI ts s a = -1 := by
  unfold namesI; rw [if_neg (fun hh => h ⟨hh.1, hh.2.1⟩)]
theorem names_yes {ts : List Bs} {s : Bs} {a : Int} (h : refsB (tsP ts) (baL s) = true) (h0 : 0 ≤ a) (h1 : a < s.length) : namesI ts s a = ((s.getD a.toNat 0).toNat : Int) - 48 ∧ 48 ≤ (s.getD a.toNat 0).toNat ∧ (s.getD a.toNat 0).toNat < 48 + ts.length := by
  obtain ⟨hr, hc⟩ := refs_list.1 h
  have hm := hc _ (getD_mem (s := s) (k := a.toNat) (by omega))
  refine ⟨?_, hm⟩
  unfold namesI
  rw [if_pos ⟨h0, h1, refs_list.2 ⟨hr, fun c hc' => by simp at hc'; subst hc'; simpa using hm⟩⟩]
theorem names_lt {ts : List Bs} {s : Bs} {a : Int} (h : refsB (tsP ts) (baL s) = true) (h0 : 0 ≤ a) : (0 ≤ namesI ts s a ↔ a < s.length) ∧ namesI ts s a < ts.length := by
  by_cases h1 : a < s.length
  · obtain ⟨e, h2, h3⟩ := names_yes h h0 h1
    rw [e]
    exact ⟨⟨fun _ => h1, fun _ => by omega⟩, by omega⟩
  · rw [names_no (fun hh => h1 hh.2)]
    have := (right_iff.1 (refs_list.1 h).1).1
    rw [tsP_len] at this
    exact ⟨⟨fun hh => by omega, fun hh => absurd hh h1⟩, by omega⟩
theorem names_range {ts : List Bs} {s : Bs} (a : Int) (h : refsB (tsP ts) (baL s) = true) : namesI ts s a = -1 ∨ (0 ≤ namesI ts s a ∧ namesI ts s a < ts.length) := by
  by_cases h0 : 0 ≤ a ∧ a < s.length
  · obtain ⟨e, h2, h3⟩ := names_yes h h0.1 h0.2
    right; rw [e]; omega
  · exact .inl (names_no h0)
theorem head_parts {p : PProg} (h : headB p = true) : refsB (tsP p.types) (baL p.locals) = true ∧ refsB (tsP p.types) (baL p.globs) = true ∧ p.locals.length ≤ 8 ∧ p.globs.length ≤ 4 := by
  unfold headB at h
  simp only [Bool.and_eq_true, decide_eq_true_eq] at h
  exact ⟨h.1.1.1, h.1.1.2, h.1.2, h.2⟩
theorem sizeP_one {ts : List Bs} {t : Nat} (h : rightB (tsP ts) = true) (ht : t < ts.length) : sizeP ts t = (ts.getD t []).length ∧ 1 ≤ sizeP ts t ∧ sizeP ts t ≤ 6 := by
  have ho : oneB (tsP ts) t = true := one_t (by omega) (by rw [tsP_len]; omega) h
  have e : sizeP ts t = (ts.getD t []).length := by
    unfold sizeP sizeI
    rw [if_pos ho, Int.toNat_natCast, ty_tsP ht]; rfl
  have hk := ok_iff.1 ((right_iff.1 h).2.2 t (by rw [tsP_len]; exact ht))
  rw [ty_tsP ht] at hk
  have : (baL (ts.getD t [])).size = (ts.getD t []).length := rfl
  rw [this] at hk
  exact ⟨e, by rw [e]; omega, by rw [e]; omega⟩
theorem needTo_le {ts : List Bs} (h : rightB (tsP ts) = true) : ∀ k, k ≤ ts.length → 0 ≤ needTo ts k ∧ needTo ts k ≤ 6 ∧ (1 ≤ k → 1 ≤ needTo ts k)
  | 0, _ => ⟨Int.le_refl _, by show (0 : Int) ≤ 6; decide, fun h => absurd h (by omega)⟩
  | k + 1, hk => by
    obtain ⟨h1, h2, h3⟩ := needTo_le h k (by omega)
    obtain ⟨_, h4, h5⟩ := sizeP_one h (show k < ts.length by omega)
    have e : needTo ts (k + 1) = max (needTo ts k) (sizeP ts k) := rfl
    rw [e]
    refine ⟨by omega, by omega, fun _ => by omega⟩
theorem law_names {p : PProg} (h : (checkL p).2 = 0) (a : Int) (h0 : 0 ≤ a) :
    (0 ≤ localI p a ↔ a < p.locals.length) ∧ (0 ≤ globI p a ↔ a < p.globs.length) ∧ localI p a < p.types.length ∧ globI p a < p.types.length ∧ 1 ≤ needI p.types ∧ needI p.types ≤ 6 := by
  obtain ⟨h1, h2, _, _⟩ := head_parts (check_ok h).1
  have hr := (refs_list.1 h1).1
  have hl := (right_iff.1 hr).1
  rw [tsP_len] at hl
  obtain ⟨_, n1, n2⟩ := needTo_le hr p.types.length (Nat.le_refl _)
  exact ⟨(names_lt h1 h0).1, (names_lt h2 h0).1, (names_lt h1 h0).2, (names_lt h2 h0).2, n2 hl, n1⟩

/-! ### One type more -/
section
variable {ts : List Bs}
def ii : Bs := [105, 105]
theorem ty_more {t : Nat} (h : t < ts.length) : ty (tsP (ts ++ [ii])) t = ty (tsP ts) t := by
  rw [ty_tsP (by simp; omega), ty_tsP h]
  congr 1
  rw [List.getD_eq_getElem?_getD, List.getD_eq_getElem?_getD, List.getElem?_append_left h]
theorem ty_last : ty (tsP (ts ++ [ii])) ts.length = baL ii := by
  rw [ty_tsP (by simp)]
  congr 1
  rw [List.getD_eq_getElem?_getD, List.getElem?_append_right (Nat.le_refl _)]; simp
theorem let_mono {n m c : Nat} (h : letB n c = true) (hm : n ≤ m) : letB m c = true := by
  rcases let_iff.1 h with h | h
  · exact let_iff.2 (.inl h)
  · have := dig_iff.1 h
    exact let_iff.2 (.inr (dig_iff.2 (by omega)))
theorem right_more (h : rightB (tsP ts) = true) (hl : ts.length < 8) : rightB (tsP (ts ++ [ii])) = true := by
  obtain ⟨h1, h2, h3⟩ := right_iff.1 h
  rw [tsP_len] at h1 h2 h3
  refine right_iff.2 ?_
  rw [tsP_len]
  simp only [List.length_append, List.length_cons, List.length_nil]
  refine ⟨by omega, by omega, fun t ht => ?_⟩
  by_cases hlt : t < ts.length
  · rw [ty_more hlt]
    obtain ⟨a, b, c⟩ := ok_iff.1 (h3 t hlt)
    exact ok_iff.2 ⟨a, b, fun k hk => let_mono (c k hk) (by omega)⟩
  · obtain rfl : t = ts.length := by omega
    rw [ty_last]
    refine ok_iff.2 ⟨by decide, by decide, fun k hk => ?_⟩
    have hk' : k < 2 := hk
    have : byt (baL ii) k = 105 := by
      rcases (by omega : k = 0 ∨ k = 1) with rfl | rfl <;> rfl
    rw [this]; exact let_iff.2 (.inl rfl)
theorem one_more (h : rightB (tsP ts) = true) (hl : ts.length < 8) {t : Int} (h0 : 0 ≤ t) (h1 : t < ts.length) : oneB (tsP (ts ++ [ii])) t = true ∧ oneB (tsP ts) t = true :=
  ⟨one_t h0 (by rw [tsP_len]; simp; omega) (right_more h hl), one_t h0 (by rw [tsP_len]; exact h1) h⟩
theorem sizeP_more (h : rightB (tsP ts) = true) (hl : ts.length < 8) {t : Int} (h0 : 0 ≤ t) (h1 : t < ts.length) : sizeP (ts ++ [ii]) t = sizeP ts t := by
  obtain ⟨a, b⟩ := one_more h hl h0 h1
  unfold sizeP sizeI
  rw [if_pos a, if_pos b, ty_more (by omega)]
theorem toP_more (h : rightB (tsP ts) = true) (hl : ts.length < 8) {t : Int} (f : Int) (h0 : 0 ≤ t) (h1 : t < ts.length) : toP (ts ++ [ii]) t f = toP ts t f := by
  obtain ⟨a, b⟩ := one_more h hl h0 h1
  unfold toP toI
  rw [a, b, ty_more (by omega)]
theorem refs_more {s : Bs} (h : refsB (tsP ts) (baL s) = true) (hl : ts.length < 8) : refsB (tsP (ts ++ [ii])) (baL s) = true := by
  obtain ⟨h1, h2⟩ := refs_list.1 h
  refine refs_list.2 ⟨right_more h1 hl, fun c hc => ?_⟩
  have := h2 c hc
  simp only [List.length_append, List.length_cons, List.length_nil]
  omega
theorem names_more {s : Bs} (h : refsB (tsP ts) (baL s) = true) (hl : ts.length < 8) (a : Int) : namesI (ts ++ [ii]) s a = namesI ts s a := by
  by_cases h0 : 0 ≤ a ∧ a < s.length
  · rw [(names_yes h h0.1 h0.2).1, (names_yes (refs_more h hl) h0.1 h0.2).1]
  · rw [names_no h0, names_no h0]
theorem needTo_more (h : rightB (tsP ts) = true) (hl : ts.length < 8) : ∀ k, k ≤ ts.length → needTo (ts ++ [ii]) k = needTo ts k
  | 0, _ => rfl
  | k + 1, hk => by
    show max (needTo (ts ++ [ii]) k) (sizeP (ts ++ [ii]) k) = max (needTo ts k) (sizeP ts k)
    rw [needTo_more h hl k (by omega), sizeP_more h hl (by omega) (by omega)]
theorem need_more (h : rightB (tsP ts) = true) (hl : ts.length < 8) : needI (ts ++ [ii]) = max (needI ts) 2 := by
  unfold needI
  have e : (ts ++ [ii]).length = ts.length + 1 := by simp
  rw [e]
  show max (needTo (ts ++ [ii]) ts.length) (sizeP (ts ++ [ii]) ts.length) = _
  rw [needTo_more h hl _ (Nat.le_refl _)]
  have := (sizeP_one (right_more h hl) (t := ts.length) (by simp)).1
  rw [this, List.getD_eq_getElem?_getD, List.getElem?_append_right (Nat.le_refl _)]
  simp [ii]
end
theorem kinds_more {p : PProg} (hh : headB p = true) (hl : p.types.length < 8) (i : PIns) : kindsB { p with types := p.types ++ [ii] } i = kindsB p i := by
  obtain ⟨h1, h2, _, _⟩ := head_parts hh
  have hr := (refs_list.1 h1).1
  have el : ∀ a, localI { p with types := p.types ++ [ii] } a = localI p a := fun a => names_more h1 hl a
  have eg : ∀ a, globI { p with types := p.types ++ [ii] } a = globI p a := fun a => names_more h2 hl a
  have en : ∀ a n, (decide (0 ≤ localI p a) && numF (p.types ++ [ii]) (localI p a) n) = (decide (0 ≤ localI p a) && numF p.types (localI p a) n) := fun a n => by
    rcases names_range a h1 with e | ⟨e0, e1⟩
    · have e' : localI p a = -1 := e
      rw [e']; rfl
    · unfold numF
      rw [show localI p a = namesI p.types p.locals a from rfl, sizeP_more hr hl e0 e1, toP_more hr hl n e0 e1]
  have et : ∀ a n x, (decide (0 ≤ localI p a) && sameT x (toP (p.types ++ [ii]) (localI p a) n)) = (decide (0 ≤ localI p a) && sameT x (toP p.types (localI p a) n)) := fun a n x => by
    rcases names_range a h1 with e | ⟨e0, e1⟩
    · have e' : localI p a = -1 := e
      rw [e']; rfl
    · rw [show localI p a = namesI p.types p.locals a from rfl, toP_more hr hl n e0 e1]
  unfold kindsB
  simp only [el, eg]
  rw [en, en, et, et]
theorem law_needs {p : PProg} (h : (checkL p).2 = 0) (hl : p.types.length < 8) :
    checkL { p with types := p.types ++ [ii] } = (-1, 0) ∧ needI (p.types ++ [ii]) = max (needI p.types) 2 := by
  obtain ⟨hh, g1, g2, hi, _⟩ := check_ok h
  obtain ⟨h1, h2, h3, h4⟩ := head_parts hh
  have hr := (refs_list.1 h1).1
  refine ⟨?_, need_more hr hl⟩
  have hh' : headB { p with types := p.types ++ [ii] } = true := by
    unfold headB
    simp only [Bool.and_eq_true, decide_eq_true_eq]
    exact ⟨⟨⟨refs_more h1 hl, refs_more h2 hl⟩, h3⟩, h4⟩
  rw [check_code hh' g1 g2]
  refine firstE_all 0 fun i him => ?_
  have := hi i him
  unfold insE at this ⊢
  rw [kinds_more hh hl]; exact this
end Go.Proofs.YtmnoohpkjgjphaaDoor
