/-
  CodeCuts: the texts.
-/
import Derived.Test.YtgmpggjikebcdaaDoorRCounts
namespace Go.Proofs.YtgmpggjikebcdaaDoor
open Go.RowKit

def what : Bs := [119, 104, 97, 116]
theorem what_good : goodL [what] = [[what]] := by kernel_rfl
theorem what_ok : okLine what = true := by kernel_rfl
theorem what_no : instrL [what] = none := by kernel_rfl
theorem what_type : typesL [[what]] = [] := by kernel_rfl
/-- A text of lines, and a word behind it. -/
theorem lines_what (G : List (List Bs)) (hne : G ≠ []) (hG : ∀ x ∈ G, GoodW x) (hl : (joinL G).length ≤ 19996) : linesL (joinL G ++ what) = (G ++ [[what]], 0, 0) := by
  obtain ⟨i, hi⟩ := joinL_last hne
  have h1 : splitL 10 i = G.map (fun x => Lib.join x [32]) := by
    have h := split_joinL G hG
    rw [hi, splitL_two, show splitL 10 ([] : Bs) = [[]] from rfl] at h
    exact List.append_cancel_right h
  have h2 : splitL 10 (joinL G ++ what) = G.map (fun x => Lib.join x [32]) ++ [what] := by
    rw [hi, show i ++ [10] ++ what = i ++ 10 :: what by simp, splitL_two, h1, splitL_none 10 what (by decide)]
  have h3 : goodL (G.map (fun x => Lib.join x [32])) = G := by
    have h := good_join G hG
    rw [goodL_append, show goodL [([] : Bs)] = [] by kernel_rfl, List.append_nil] at h
    exact h
  rw [linesL_of_good (by simp [what]; omega), h2, goodL_append, h3, what_good]
  intro l hl
  rw [h2] at hl
  rcases List.mem_append.1 hl with h | h
  · obtain ⟨x, hx, rfl⟩ := List.mem_map.1 h
    unfold okLine
    rw [words_join x (hG x hx)]
    exact List.all_eq_true.2 (fun y hy => ((hG x hx).2 y hy).2)
  · simp at h; subst h; exact what_ok
theorem program_what {p : PProg} (hs : OkP p) (h : mayP p = true) : programL (linesP p ++ [[what]]) = (noneP, p.types.length + 2 + p.code.length, false) := by
  obtain ⟨h1, h2, h3, h4, h5⟩ := mayP_all h
  have e : linesP p ++ [[what]] = p.types.map (fun t => [kType, t]) ++ ([[kLocals, orL p.locals], [kGlobals, orL p.globs]] ++ (p.code.map wordsI ++ [[what]])) := by unfold linesP; simp
  rw [e]
  have ht : typesL (p.types.map (fun t => [kType, t]) ++ ([[kLocals, orL p.locals], [kGlobals, orL p.globs]] ++ (p.code.map wordsI ++ [[what]]))) = p.types := by
    refine types_lines p.types _ (fun t ht => ?_) ?_
    · unfold typeL; simp [(h1 t ht).1, (h1 t ht).2]
    · show (if pairL kType [kLocals, orL p.locals] && typeL (snd [kLocals, orL p.locals]) then _ else []) = []
      have : pairL kType [kLocals, orL p.locals] = false := by unfold pairL; simp [kLocals, kType]
      rw [this]; rfl
  have hd : ∀ n, (p.types.map (fun t => [kType, t]) ++ ([[kLocals, orL p.locals], [kGlobals, orL p.globs]] ++ (p.code.map wordsI ++ [[what]]))).drop (p.types.length + n) = ([[kLocals, orL p.locals], [kGlobals, orL p.globs]] ++ (p.code.map wordsI ++ [[what]])).drop n := by
    intro n
    rw [List.drop_append]
    simp
  refine prog_c (k := p.code.length) ?_ ?_ ?_ |>.trans ?_
  · rw [ht, show p.types.length = p.types.length + 0 from rfl, hd]
    show (lettersL kLocals ([kLocals, orL p.locals] :: _)).2 = true
    rw [letters_line _ h2]
  · rw [ht, hd]
    show (lettersL kGlobals ([kGlobals, orL p.globs] :: _)).2 = true
    rw [letters_line _ h3]
  · rw [ht, hd]
    show codeL 0 (p.code.map wordsI ++ [[what]]) = _
    have hlen : (p.code.map wordsI).length = p.code.length := by simp
    have := codeL_at (p.code.map wordsI ++ [[what]]) 0 p.code.length p.code [what] (by
      rw [List.take_append_of_le_length (by omega), List.take_of_length_le (by omega), List.map_map]
      exact List.map_congr_left fun i hi => instr_words (hs.ins i hi) (h5 i hi)) (by omega) (by
      rw [List.getElem?_append_right (by omega), hlen, Nat.sub_self]; rfl) (.inl what_no)
    rw [this]; simp
  · rw [ht]
theorem parse_what {p : PProg} (hs : OkP p) (h : mayP p = true) (hl : (joinL (linesP p)).length ≤ 19996) : parseL (joinL (linesP p) ++ what) = (noneP, p.types.length + 3 + p.code.length, 4) := by
  have hne : linesP p ≠ [] := by intro h; have := linesP_len p; rw [h] at this; simp at this; omega
  unfold parseL
  rw [lines_what _ hne (lines_good hs h) hl]
  simp only
  rw [program_what hs h]
  simp; omega

/-- Without its last instruction. -/
def cutP (p : PProg) : PProg := { p with code := p.code.take (p.code.length - 1) }
theorem cutP_ok {p : PProg} (h : OkP p) : OkP (cutP p) := ⟨h.ty, h.lo, h.gl, fun i hi => h.ins i (List.mem_of_mem_take hi)⟩
theorem cutP_may {p : PProg} (h : mayP p = true) : mayP (cutP p) = true := by
  rw [may_split] at h ⊢
  rw [show noCode (cutP p) = noCode p from rfl]
  simp only [Bool.and_eq_true, decide_eq_true_eq] at h ⊢
  obtain ⟨⟨h4, h5⟩, h6⟩ := h
  refine ⟨⟨?_, ?_⟩, h6⟩
  · show (p.code.take _).length ≤ 200; rw [List.length_take]; omega
  · exact List.all_eq_true.2 fun i hi => List.all_eq_true.1 h5 i (List.mem_of_mem_take hi)
theorem lines_cut {p : PProg} (h : 1 ≤ p.code.length) : ∃ i, i ∈ p.code ∧ linesP p = linesP (cutP p) ++ [wordsI i] := by
  have hlt : p.code.length - 1 < p.code.length := by omega
  refine ⟨p.code[p.code.length - 1], List.getElem_mem hlt, ?_⟩
  have e : p.code = p.code.take (p.code.length - 1) ++ [p.code[p.code.length - 1]] := by
    have := List.take_succ_eq_append_getElem hlt
    rw [← this, show p.code.length - 1 + 1 = p.code.length by omega, List.take_length]
  have e2 : p.code.map wordsI = (p.code.take (p.code.length - 1)).map wordsI ++ [wordsI p.code[p.code.length - 1]] := (congrArg (List.map wordsI) e).trans (by rw [List.map_append]; rfl)
  show p.types.map _ ++ ([[kLocals, orL p.locals], [kGlobals, orL p.globs]] ++ p.code.map wordsI) = (p.types.map _ ++ ([[kLocals, orL p.locals], [kGlobals, orL p.globs]] ++ (p.code.take (p.code.length - 1)).map wordsI)) ++ _
  rw [e2]; simp
/-- Where the last line begins. -/
theorem cut_text {p : PProg} (hs : OkP p) (h : mayP p = true) (hc : 1 ≤ p.code.length) : ∃ l : Bs, joinL (linesP p) = joinL (linesP (cutP p)) ++ (l ++ [10]) ∧ ∀ c ∈ l, c ≠ 10 := by
  obtain ⟨i, hi, e⟩ := lines_cut hc
  refine ⟨Lib.join (wordsI i) [32], ?_, fun c hcm => ?_⟩
  · rw [e, joinL_app, joinL_one]
  · have hg : GoodW (wordsI i) := lines_good hs h _ (by rw [e]; simp)
    rcases join_chars (wordsI i) (fun y hy => (hg.2 y hy).2) c hcm with h | h
    · exact (okC_not h).1
    · rw [h]; decide
end Go.Proofs.YtgmpggjikebcdaaDoor
