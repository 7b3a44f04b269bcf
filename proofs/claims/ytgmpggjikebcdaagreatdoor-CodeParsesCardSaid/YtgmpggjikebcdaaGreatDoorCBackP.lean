/-
  In plain lists: a program that may be printed is read from its lines; what is read from lines has those lines.
-/
import Derived.Test.YtgmpggjikebcdaaGreatDoorCFew
namespace Go.Proofs.YtgmpggjikebcdaaGreatDoor

theorem lc_ok {c : UInt8} (h : lcC c = true) : okC c = true := by
  unfold lcC at h
  unfold okC
  simp only [Bool.or_eq_true, Bool.and_eq_true, decide_eq_true_eq] at h ⊢
  omega
theorem are_may {s : Bs} (h : areL s = true) : mayL s = true := by
  unfold areL at h
  unfold mayL
  simp only [Bool.and_eq_true, decide_eq_true_eq] at h ⊢
  exact ⟨h.1, List.all_eq_true.2 fun c hc => lc_ok (List.all_eq_true.1 h.2 c hc)⟩
theorem are_dash {s : Bs} (h : areL s = true) : s ≠ [45] := by
  intro e
  subst e
  revert h
  decide
theorem dig_ok {c : UInt8} (h : digC c = true) : okC c = true := by
  have := dig_le h
  unfold okC
  simp only [Bool.or_eq_true, Bool.and_eq_true, decide_eq_true_eq]
  omega
theorem itoa_may {v : Int} (h0 : -9223372036854775808 ≤ v) (h1 : v ≤ 9223372036854775807) : Lib.itoa v ≠ [] ∧ mayL (Lib.itoa v) = true := by
  have hl := itoa_len h0 h1
  have hd := (num_itoa v h0 h1).2
  obtain ⟨d1, d2, _⟩ := decL_parts hd
  generalize Lib.itoa v = s at *
  have hne : s ≠ [] := by intro e; subst e; exact d1 rfl
  refine ⟨hne, ?_⟩
  unfold mayL
  simp only [Bool.and_eq_true, decide_eq_true_eq]
  refine ⟨by omega, ?_⟩
  rcases s with _ | ⟨c, r⟩
  · exact absurd rfl hne
  · by_cases hc : c = 45
    · subst hc
      rw [trim_minus] at d2
      rw [List.all_cons]
      simp only [Bool.and_eq_true]
      exact ⟨by decide, List.all_eq_true.2 fun x hx => dig_ok (List.all_eq_true.1 d2 x hx)⟩
    · rw [trim_other hc] at d2
      exact List.all_eq_true.2 fun x hx => dig_ok (List.all_eq_true.1 d2 x hx)
theorem words_good {i : PIns} (ho : OkI i) (h : rightL i = true) : GoodW (wordsI i) := by
  unfold rightL at h
  rcases hb : byOpL i.op with _ | o
  · rw [hb] at h; cases h
  · obtain ⟨_, _, hne, _, hm, _, _, _, _⟩ := ops_cases (byOp_mem hb).1
    have e : wordsI i = o.2.1 :: o.2.2.map (fun c => Lib.itoa (partL i c)) := by unfold wordsI; rw [hb]
    rw [e]
    refine ⟨by simp, ?_⟩
    intro y hy
    rcases List.mem_cons.1 hy with rfl | hy
    · exact ⟨hne, hm⟩
    · obtain ⟨c, _, rfl⟩ := List.mem_map.1 hy
      obtain ⟨o0, o1, a0, a1, b0, b1, c0, c1, n0, n1⟩ := ho
      unfold partL
      split
      · exact itoa_may (by omega) (by omega)
      · split
        · exact itoa_may (by omega) (by omega)
        · split
          · exact itoa_may (by omega) (by omega)
          · exact itoa_may n0 n1
theorem or_good {s : Bs} (h : areL s = true) : orL s ≠ [] ∧ mayL (orL s) = true := by
  unfold orL
  split
  · exact ⟨by simp, by decide⟩
  · next hn => exact ⟨hn, are_may h⟩
theorem lines_good {p : PProg} (hs : OkP p) (h : mayP p = true) : ∀ x ∈ linesP p, GoodW x := by
  obtain ⟨h1, h2, h3, _, h5⟩ := mayP_all h
  intro x hx
  unfold linesP at hx
  simp only [List.mem_append, List.mem_map, List.mem_cons, List.not_mem_nil, or_false] at hx
  rcases hx with ⟨t, ht, rfl⟩ | ⟨rfl | rfl⟩ | ⟨i, hi, rfl⟩
  · refine ⟨by simp, fun y hy => ?_⟩
    simp only [List.mem_cons, List.not_mem_nil, or_false] at hy
    rcases hy with rfl | rfl
    · exact ⟨by decide, by decide⟩
    · exact ⟨(h1 _ ht).1, are_may (h1 _ ht).2⟩
  · refine ⟨by simp, fun y hy => ?_⟩
    simp only [List.mem_cons, List.not_mem_nil, or_false] at hy
    rcases hy with rfl | rfl
    · exact ⟨by decide, by decide⟩
    · exact or_good h2
  · refine ⟨by simp, fun y hy => ?_⟩
    simp only [List.mem_cons, List.not_mem_nil, or_false] at hy
    rcases hy with rfl | rfl
    · exact ⟨by decide, by decide⟩
    · exact or_good h3
  · exact words_good (hs.ins i hi) (h5 i hi)

/-! ### Forth -/
theorem pair_mk (nm s : Bs) : pairL nm [nm, s] = true := by unfold pairL; simp
theorem types_lines (ts : List Bs) (r : List (List Bs)) (h : ∀ t ∈ ts, typeL t = true) (hr : typesL r = []) : typesL (ts.map (fun t => [kType, t]) ++ r) = ts := by
  induction ts with
  | nil => simpa using hr
  | cons t ts ih =>
    show (if pairL kType [kType, t] && typeL (snd [kType, t]) then snd [kType, t] :: typesL (ts.map (fun t => [kType, t]) ++ r) else []) = _
    rw [pair_mk, ih (fun y hy => h y (by simp [hy]))]
    have : typeL (snd [kType, t]) = true := h t (by simp)
    rw [this]; rfl
theorem letters_line {nm s : Bs} (r : List (List Bs)) (h : areL s = true) : lettersL nm ([nm, orL s] :: r) = (s, true) := by
  show (if pairL nm [nm, orL s] then (if snd [nm, orL s] = [45] then ([], true) else (snd [nm, orL s], areL (snd [nm, orL s]))) else ([], false)) = _
  rw [pair_mk, if_pos rfl]
  have e : snd [nm, orL s] = orL s := rfl
  rw [e]
  by_cases hs : s = []
  · subst hs; rfl
  · have e2 : orL s = s := by unfold orL; rw [if_neg hs]
    rw [e2, if_neg (are_dash h), h]
theorem program_lines {p : PProg} (hs : OkP p) (h : mayP p = true) : programL (linesP p) = (p, (linesP p).length, true) := by
  have h0 := h
  obtain ⟨h1, h2, h3, h4, h5⟩ := mayP_all h
  have ht : typesL (linesP p) = p.types := by
    unfold linesP
    refine types_lines p.types _ (fun t ht => ?_) ?_
    · unfold typeL; simp [(h1 t ht).1, (h1 t ht).2]
    · show (if pairL kType [kLocals, orL p.locals] && typeL (snd [kLocals, orL p.locals]) then _ else []) = []
      have : pairL kType [kLocals, orL p.locals] = false := by unfold pairL; simp [kLocals, kType]
      rw [this]; rfl
  have hd : ∀ n, (linesP p).drop (p.types.length + n) = ([[kLocals, orL p.locals], [kGlobals, orL p.globs]] ++ p.code.map wordsI).drop n := by
    intro n
    unfold linesP
    rw [List.drop_append]
    simp
  have hl : lettersL kLocals ((linesP p).drop p.types.length) = (p.locals, true) := by
    rw [show p.types.length = p.types.length + 0 from rfl, hd]
    exact letters_line _ h2
  have hg : lettersL kGlobals ((linesP p).drop (p.types.length + 1)) = (p.globs, true) := by
    rw [hd]
    exact letters_line _ h3
  have hc : codeL 0 ((linesP p).drop (p.types.length + 2)) = .ok p.code := by
    rw [hd]
    refine codeL_all _ 0 _ ?_ (by simp; omega)
    show (p.code.map wordsI).map instrL = _
    rw [List.map_map]
    exact List.map_congr_left fun i hi => instr_words (hs.ins i hi) (h5 i hi)
  unfold programL
  simp only
  rw [ht, hl, hg, hc]
  rfl
/-- A program that may be printed is parsed from its text. -/
theorem parse_text {p : PProg} (hs : OkP p) (h : mayP p = true) (hl : (joinL (linesP p)).length ≤ 20000) : parseL (joinL (linesP p)) = (p, 0, 0) := by
  unfold parseL
  rw [lines_join _ (lines_good hs h) hl]
  simp only
  rw [program_lines hs h]
  rfl

/-! ### Back -/
theorem types_split : ∀ G : List (List Bs), G = (typesL G).map (fun t => [kType, t]) ++ G.drop (typesL G).length ∧ ∀ t ∈ typesL G, typeL t = true
  | [] => ⟨rfl, fun t ht => by simp [typesL] at ht⟩
  | x :: r => by
    have ih := types_split r
    have e : typesL (x :: r) = if pairL kType x && typeL (snd x) then snd x :: typesL r else [] := rfl
    rw [e]
    by_cases hc : (pairL kType x && typeL (snd x)) = true
    · rw [if_pos hc]
      simp only [Bool.and_eq_true] at hc
      obtain ⟨s, rfl⟩ := pair_parts hc.1
      refine ⟨?_, ?_⟩
      · simp only [List.map_cons, List.length_cons, List.drop_succ_cons, List.cons_append]
        rw [← ih.1]; rfl
      · intro t ht
        rcases List.mem_cons.1 ht with rfl | ht
        · exact hc.2
        · exact ih.2 t ht
    · rw [if_neg hc]
      exact ⟨rfl, fun t ht => by simp at ht⟩
theorem letters_back {nm : Bs} {G : List (List Bs)} {l : Bs} (hG : ∀ x ∈ G, GoodW x) (h : lettersL nm G = (l, true)) : ∃ r, G = [nm, orL l] :: r ∧ areL l = true := by
  rcases G with _ | ⟨x, r⟩
  · simp [lettersL] at h
  · have h' : (if pairL nm x then (if snd x = [45] then (([] : Bs), true) else (snd x, areL (snd x))) else ([], false)) = (l, true) := h
    by_cases hp : pairL nm x = true
    · rw [if_pos hp] at h'
      obtain ⟨s, rfl⟩ := pair_parts hp
      have e : snd [nm, s] = s := rfl
      rw [e] at h'
      have hs : s ≠ [] := ((hG [nm, s] (by simp)).2 s (by simp)).1
      by_cases hd : s = [45]
      · rw [if_pos hd] at h'
        have : l = [] := (Prod.mk.inj h').1.symm
        subst this; subst hd
        exact ⟨r, rfl, by decide⟩
      · rw [if_neg hd] at h'
        obtain ⟨e1, e2⟩ := Prod.mk.inj h'
        subst e1
        exact ⟨r, by unfold orL; rw [if_neg hs], e2⟩
    · rw [if_neg hp] at h'
      cases (Prod.mk.inj h').2
theorem codeL_back : ∀ (ls : List (List Bs)) (k0 : Nat) (is : List PIns), codeL k0 ls = .ok is → is.map wordsI = ls ∧ (∀ i ∈ is, rightL i = true ∧ OkI i) ∧ (ls = [] ∨ k0 + ls.length ≤ 200)
  | [], _, is, h => by
    have : is = [] := by simpa [codeL] using h.symm
    subst this; exact ⟨rfl, by simp, .inl rfl⟩
  | x :: r, k0, is, h => by
    unfold codeL at h
    rcases hi : instrL x with _ | i
    · rw [hi] at h; simp at h
    · rw [hi] at h
      simp only at h
      by_cases hk : 200 ≤ k0
      · rw [if_pos hk] at h; simp at h
      · rw [if_neg hk] at h
        rcases hc : codeL (k0 + 1) r with m | js
        · rw [hc] at h; simp at h
        · rw [hc] at h
          have : is = i :: js := by simpa using h.symm
          subst this
          obtain ⟨h1, h2, h3⟩ := codeL_back r (k0 + 1) js hc
          obtain ⟨w1, w2, w3⟩ := words_instr hi
          refine ⟨by rw [List.map_cons, w1, h1], ?_, ?_⟩
          · intro j hj
            rcases List.mem_cons.1 hj with rfl | hj
            · exact ⟨w2, w3⟩
            · exact h2 j hj
          · right
            rcases h3 with rfl | h3
            · simp; omega
            · simp only [List.length_cons]; omega
/-- What is read from lines may be printed, and has those lines. -/
theorem lines_program {G : List (List Bs)} {p : PProg} {n : Nat} (hG : ∀ x ∈ G, GoodW x) (h : programL G = (p, n, true)) : mayP p = true ∧ linesP p = G ∧ OkP p := by
  obtain ⟨hs, ht⟩ := types_split G
  rcases hl : lettersL kLocals (G.drop (typesL G).length) with ⟨l, lb⟩
  rcases hg : lettersL kGlobals (G.drop ((typesL G).length + 1)) with ⟨g, gb⟩
  rcases lb with _ | _
  · rw [prog_l (by rw [hl])] at h; cases (Prod.mk.inj (Prod.mk.inj h).2).2
  · rcases gb with _ | _
    · rw [prog_g (by rw [hl]) (by rw [hg])] at h; cases (Prod.mk.inj (Prod.mk.inj h).2).2
    · rcases hc : codeL 0 (G.drop ((typesL G).length + 2)) with k | is
      · rw [prog_c (by rw [hl]) (by rw [hg]) hc] at h; cases (Prod.mk.inj (Prod.mk.inj h).2).2
      · rw [prog_o (by rw [hl]) (by rw [hg]) hc, hl, hg] at h
        have hp : (⟨typesL G, l, g, is⟩ : PProg) = p := (Prod.mk.inj h).1
        subst hp
        have hgd : ∀ m, ∀ x ∈ G.drop m, GoodW x := fun m x hx => hG x (List.mem_of_mem_drop hx)
        obtain ⟨r1, e1, al⟩ := letters_back (hgd _) hl
        obtain ⟨r2, e2, ag⟩ := letters_back (hgd _) hg
        obtain ⟨c1, c2, c3⟩ := codeL_back _ _ _ hc
        have d1 : G.drop ((typesL G).length + 1) = r1 := by
          rw [← List.drop_drop, e1]; rfl
        have d2 : G.drop ((typesL G).length + 2) = r2 := by
          have : G.drop ((typesL G).length + 1 + 1) = r2 := by rw [← List.drop_drop, e2]; rfl
          exact this
        have hlen : is.length ≤ 200 := by
          have := congrArg List.length c1
          rw [List.length_map] at this
          rcases c3 with c3 | c3
          · rw [c3] at this; simp at this; rw [this]; simp
          · omega
        refine ⟨?_, ?_, ?_⟩
        · unfold mayP
          simp only [Bool.and_eq_true, decide_eq_true_eq]
          exact ⟨⟨List.all_eq_true.2 ht, ⟨al, ag⟩, hlen⟩, List.all_eq_true.2 fun i hi => (c2 i hi).1⟩
        · unfold linesP
          simp only
          rw [c1, d2]
          conv => rhs; rw [hs, e1, ← d1, e2]
          simp
        · exact ⟨fun t ht' => by have := areL_len (typeL_parts (ht t ht')).2; unfold maxLen; omega, by have := areL_len al; unfold maxLen; simp only; omega, by have := areL_len ag; unfold maxLen; simp only; omega, fun i hi => (c2 i hi).2⟩
theorem lines_inj {p q : PProg} (hp : OkP p) (hq : OkP q) (h1 : mayP p = true) (h2 : mayP q = true) (h : linesP p = linesP q) : p = q := by
  have e1 := program_lines hp h1
  have e2 := program_lines hq h2
  rw [h, e2] at e1
  exact (Prod.mk.inj e1).1.symm
theorem text_inj {p q : PProg} (hp : OkP p) (hq : OkP q) (h1 : mayP p = true) (h2 : mayP q = true) (hl : (joinL (linesP p)).length ≤ 20000) (hl2 : (joinL (linesP q)).length ≤ 20000) (h : joinL (linesP p) = joinL (linesP q)) : p = q := by
  have e1 := parse_text hp h1 hl
  have e2 := parse_text hq h2 hl2
  rw [h, e2] at e1
  exact (Prod.mk.inj e1).1.symm
end Go.Proofs.YtgmpggjikebcdaaGreatDoor
