/-
  In plain lists: what a program that may be run names is there; with one type more it may be run as it could be without.
  The model, in plain lists: a state, a step, a run; what is so of all states of a run.
  The model, in plain lists: all pointers are nothing, or of objects of their types; runs.
  The model, in plain lists: what a step keeps.
  A program that may be run may be printed.
  Print, of few.
  In plain lists: a program that may be printed is read from its lines; what is read from lines has those lines.
  CodeBack: the walk.
  How a program may go, in plain lists: the next places, safepoints, what can be reached, by rounds and by ways.
  How a run goes, in plain lists: each step goes to a next place; between two times at one place there is a safepoint.
-/
import Derived.Test.YtcjhgibhenocpaaGreatDoorUAN
import Derived.Test.YtcjhgibhenocpaaGreatDoorUAC
import Derived.Test.YtcjhgibhenocpaaGreatDoorUAM
import Derived.Test.YtcjhgibhenocpaaGreatDoorUAG
import Derived.Deep.QuietTactic
import Derived.BigQuiet

/- In plain lists: what a program that may be run names is there; with one type more it may be run as it could be without. -/
namespace Go.Proofs.YtcjhgibhenocpaaGreatDoor
set_option linter.unusedSimpArgs false
set_option linter.unusedVariables false

theorem tsP_len (ts : List Bs) : (tsP ts).length = ts.length := by simp [tsP]
theorem refs_list {ts : List Bs} {s : Bs} : refsB (tsP ts) (baL s) = true ↔ rightB (tsP ts) = true ∧ ∀ c ∈ s, 48 ≤ c.toNat ∧ c.toNat < 48 + ts.length := by
  rw [refs_iff]
  refine and_congr_right fun _ => ⟨fun h c hc => ?_, fun h k hk => ?_⟩
  · obtain ⟨k, hk, rfl⟩ := List.getElem_of_mem hc
    have := dig_iff.1 (h k hk)
    rw [tsP_len] at this
    have e : byt (baL s) k = s[k].toNat := by
      show (s.getD k 0).toNat = _
      rw [List.getD_eq_getElem?_getD, List.getElem?_eq_getElem hk]; rfl
    rw [e] at this; exact this
  · have hk' : k < s.length := hk
    have e : byt (baL s) k = s[k].toNat := by
      show (s.getD k 0).toNat = _
      rw [List.getD_eq_getElem?_getD, List.getElem?_eq_getElem hk']; rfl
    rw [dig_iff, tsP_len, e]
    exact h _ (List.getElem_mem hk')
theorem getD_mem {s : Bs} {k : Nat} (h : k < s.length) : s.getD k 0 ∈ s := by
  rw [List.getD_eq_getElem?_getD, List.getElem?_eq_getElem h]
  exact List.getElem_mem h
theorem names_no {ts : List Bs} {s : Bs} {a : Int} (h : ¬ (0 ≤ a ∧ a < s.length)) : namesI ts s a = -1 := by
  unfold namesI; rw [if_neg (fun hh => h ⟨hh.1, hh.2.1⟩)]
theorem names_yes {ts : List Bs} {s : Bs} {a : Int} (h : refsB (tsP ts) (baL s) = true) (h0 : 0 ≤ a) (h1 : a < s.length) : namesI ts s a = ((s.getD a.toNat 0).toNat : Int) - 48 ∧ 48 ≤ (s.getD a.toNat 0).toNat ∧ (s.getD a.toNat 0).toNat < 48 + ts.length := by
  obtain ⟨hr, hc⟩ := refs_list.1 h
  have hm := hc _ (getD_mem (s := s) (k := a.toNat) (by omega))
  refine ⟨?_, hm⟩
  unfold namesI
  rw [if_pos ⟨h0, h1, refs_list.2 ⟨hr, fun c hc' => by simp at hc'; subst hc'; simpa using hm⟩⟩]
theorem names_lt {ts : List Bs} {s : Bs} {a : Int} (h : refsB (tsP ts) (baL s) = true) (h0 : 0 ≤ a) : (0 ≤ namesI ts s a ↔ a < s.length) ∧ namesI ts s a < ts.length := by
  by_cases h1 : a < s.length
  · obtain ⟨e, h2, h3⟩ := names_yes h h0 h1
    rw [e]
    exact ⟨⟨fun _ => h1, fun _ => by omega⟩, by omega⟩
  · rw [names_no (fun hh => h1 hh.2)]
    have := (right_iff.1 (refs_list.1 h).1).1
    rw [tsP_len] at this
    exact ⟨⟨fun hh => by omega, fun hh => absurd hh h1⟩, by omega⟩
theorem head_parts {p : PProg} (h : headB p = true) : refsB (tsP p.types) (baL p.locals) = true ∧ refsB (tsP p.types) (baL p.globs) = true ∧ p.locals.length ≤ 8 ∧ p.globs.length ≤ 4 := by
  unfold headB at h
  simp only [Bool.and_eq_true, decide_eq_true_eq] at h
  exact ⟨h.1.1.1, h.1.1.2, h.1.2, h.2⟩
/-! ### One type more -/
section
variable {ts : List Bs}
end
end Go.Proofs.YtcjhgibhenocpaaGreatDoor

/- The model, in plain lists: a state, a step, a run; what is so of all states of a run. -/
namespace Go.Proofs.YtcjhgibhenocpaaGreatDoor
set_option linter.unusedSimpArgs false
set_option linter.unusedVariables false

structure PSt where
  x : List Int
  p : List Int
  g : List Int
  objs : List (List Int)
  out : List Int
  pc : Nat
  steps : Nat
section
variable {q : PProg} {s : PSt} {i : PIns}
end
end Go.Proofs.YtcjhgibhenocpaaGreatDoor

/- The model, in plain lists: all pointers are nothing, or of objects of their types; runs. -/
namespace Go.Proofs.YtcjhgibhenocpaaGreatDoor
set_option linter.unusedSimpArgs false
set_option linter.unusedVariables false

/-- A value of a type that is pointed to: nothing, or the number of an object of that type. -/
def PtrOk (ts : List Nat) (v t : Int) : Prop := v = 0 ∨ (1 ≤ v ∧ v ≤ ts.length ∧ ((ts.getD (v.toNat - 1) 0 : Nat) : Int) = t)
theorem PtrOk.more {ts : List Nat} {v t : Int} (h : PtrOk ts v t) (n : Nat) : PtrOk (ts ++ [n]) v t := by
  rcases h with h | ⟨h1, h2, h3⟩
  · exact .inl h
  · refine .inr ⟨h1, by simp; omega, ?_⟩
    rw [← h3, List.getD_eq_getElem?_getD, List.getD_eq_getElem?_getD, List.getElem?_append_left (by omega)]
theorem PtrOk.nil (ts : List Nat) (t : Int) : PtrOk ts 0 t := .inl rfl
theorem PtrOk.range {ts : List Nat} {v t : Int} (h : PtrOk ts v t) : 0 ≤ v ∧ v ≤ ts.length := by
  rcases h with h | ⟨h1, h2, _⟩ <;> omega
end Go.Proofs.YtcjhgibhenocpaaGreatDoor

/- The model, in plain lists: what a step keeps. -/
namespace Go.Proofs.YtcjhgibhenocpaaGreatDoor
set_option linter.unusedSimpArgs false
set_option linter.unusedVariables false

theorem ins_parts {q : PProg} {n : Int} {i : PIns} (h : insE q n i = 0) : rightL i = true ∧ (jumpI i = true → 0 ≤ i.n ∧ i.n ≤ n) ∧ intsB i = true ∧ kindsB q i = true := by
  unfold insE at h
  by_cases h1 : rightL i = false
  · rw [if_pos h1] at h; cases h
  · rw [if_neg h1] at h
    by_cases h2 : jumpI i = true ∧ (i.n < 0 ∨ n < i.n)
    · rw [if_pos h2] at h; cases h
    · rw [if_neg h2] at h
      by_cases h3 : (intsB i && kindsB q i) = false
      · rw [if_pos h3] at h; cases h
      · have h3' : (intsB i && kindsB q i) = true := by simpa using h3
        simp only [Bool.and_eq_true] at h3'
        refine ⟨by simpa using h1, fun hj => ?_, h3'.1, h3'.2⟩
        constructor <;> (refine Int.not_lt.1 fun hn => h2 ⟨hj, ?_⟩)
        · exact .inl hn
        · exact .inr hn
theorem same_parts {s t : Int} (h : sameT s t = true) : 0 ≤ s ∧ s = t := by
  unfold sameT at h
  simpa using h
theorem num_parts {ts : List Bs} {t n : Int} (h : numF ts t n = true) : 0 ≤ n ∧ n < sizeP ts t ∧ toP ts t n < 0 := by
  unfold numF at h
  simp only [Bool.and_eq_true, decide_eq_true_eq] at h
  exact ⟨h.1.1, h.1.2, h.2⟩
theorem toP_has {ts : List Bs} {t n : Int} (h : 0 ≤ toP ts t n) : 0 ≤ n ∧ n < sizeP ts t := by
  unfold toP toI at h
  split at h
  · next e =>
    unfold sizeP sizeI
    rw [if_pos e.1]; exact ⟨e.2.1, e.2.2⟩
  · omega
section
variable {q : PProg} {s : PSt} {ts : List Nat} {i : PIns}
theorem local_lt (hh : headB q = true) {a : Int} (h0 : 0 ≤ a) (h : 0 ≤ localI q a) : a < q.locals.length ∧ localI q a < q.types.length :=
  ⟨(names_lt (head_parts hh).1 h0).1.1 h, (names_lt (head_parts hh).1 h0).2⟩
end
end Go.Proofs.YtcjhgibhenocpaaGreatDoor

/- A program that may be run may be printed. -/
namespace Go.Proofs.YtcjhgibhenocpaaGreatDoor
set_option linter.unusedSimpArgs false
set_option linter.unusedVariables false

theorem dig_lc {c : UInt8} {n : Nat} (hn : n ≤ 8) (h0 : 48 ≤ c.toNat) (h1 : c.toNat < 48 + n) : lcC c = true := by
  unfold lcC
  simp only [Bool.or_eq_true, Bool.and_eq_true, decide_eq_true_eq]
  omega
theorem let_lc {s : ByteArray} {n k : Nat} (hn : n ≤ 8) (hk : k < s.size) (h : letB n (byt s k) = true) {c : UInt8} (hc : s.data.toList[k]? = some c) : lcC c = true := by
  have hb : byt s k = c.toNat := by unfold byt; rw [List.getD_eq_getElem?_getD, hc]; rfl
  rw [hb] at h
  unfold letB at h
  rw [Bool.or_eq_true] at h
  rcases h with h | h
  · have : c.toNat = 105 := by simpa using h
    unfold lcC
    simp only [Bool.or_eq_true, Bool.and_eq_true, decide_eq_true_eq]
    omega
  · have := dig_iff.1 h
    exact dig_lc hn this.1 this.2
theorem refs_are {ts : List Bs} {s : Bs} (h : refsB (tsP ts) (baL s) = true) (hl : s.length ≤ 8) : areL s = true := by
  obtain ⟨hr, hc⟩ := refs_list.1 h
  have hn := (right_iff.1 hr).2.1
  have e : (tsP ts).length = ts.length := by unfold tsP; simp
  unfold areL
  rw [Bool.and_eq_true, decide_eq_true_eq]
  exact ⟨by omega, List.all_eq_true.2 fun c hm => dig_lc (n := ts.length) (by omega) (hc c hm).1 (hc c hm).2⟩
theorem types_type {ts : List Bs} (h : rightB (tsP ts) = true) : ts.all typeL = true := by
  obtain ⟨_, h8, hall⟩ := right_iff.1 h
  have e : (tsP ts).length = ts.length := by unfold tsP; simp
  refine List.all_eq_true.2 fun t ht => ?_
  obtain ⟨k, hk, rfl⟩ := List.getElem_of_mem ht
  have h1 := ok_iff.1 (hall k (by omega))
  have et : ty (tsP ts) k = baL ts[k] := by
    unfold ty tsP
    rw [List.getD_eq_getElem?_getD, List.getElem?_map, List.getElem?_eq_getElem hk]
    rfl
  rw [et] at h1
  have es : (baL ts[k]).size = ts[k].length := rfl
  obtain ⟨s1, s2, s3⟩ := h1
  rw [es] at s1 s2
  unfold typeL areL
  rw [Bool.and_eq_true, Bool.and_eq_true, decide_eq_true_eq]
  refine ⟨?_, by omega, List.all_eq_true.2 fun c hc => ?_⟩
  · rcases hx : ts[k] with _ | ⟨a, r⟩
    · rw [hx] at s1; simp at s1
    · rfl
  · obtain ⟨j, hj, rfl⟩ := List.getElem_of_mem hc
    exact let_lc (s := baL ts[k]) (n := (tsP ts).length) h8 (by rw [es]; exact hj) (s3 j (by rw [es]; exact hj)) (List.getElem?_eq_getElem hj)
theorem may_check {p : PProg} (hc : (checkL p).2 = 0) : mayP p = true := by
  obtain ⟨hh, _, h200, hall, _⟩ := check_ok hc
  obtain ⟨r1, r2, l8, g4⟩ := head_parts hh
  unfold mayP
  rw [Bool.and_eq_true, Bool.and_eq_true, Bool.and_eq_true, Bool.and_eq_true, decide_eq_true_eq]
  exact ⟨⟨types_type (refs_list.1 r1).1, ⟨refs_are r1 l8, refs_are r2 (by omega)⟩, h200⟩, List.all_eq_true.2 fun i hi => (ins_parts (hall i hi)).1⟩
end Go.Proofs.YtcjhgibhenocpaaGreatDoor

/- Print, of few. -/
namespace Go.Proofs.YtcjhgibhenocpaaGreatDoor
set_option linter.unusedSimpArgs false
set_option linter.unusedVariables false
open Go.RowKit

theorem print_few (v : Value) (p : PProg) (w : World) (h : ProgAt w v p) (hs : OkP p) (hA : HasAll w) (hf : fewP p = true) (hl : p.types.length ≤ 8796093022208) : Calls Tryz.prog 7 #[v] w (PrintPost w (printL p)) := by
  unfold printL
  rcases hm : mayP p with _ | _
  · rw [if_neg (by simp)]; exact print_bad v p w h hs hA.o hm
  · obtain ⟨h1, h2⟩ := text_short hs hm hf hl
    rw [if_pos rfl]; exact print_ok v p w h hs hA.o hA.t hm (by omega) (by omega)
end Go.Proofs.YtcjhgibhenocpaaGreatDoor

/- In plain lists: a program that may be printed is read from its lines; what is read from lines has those lines. -/
namespace Go.Proofs.YtcjhgibhenocpaaGreatDoor
set_option linter.unusedSimpArgs false
set_option linter.unusedVariables false

theorem lc_ok {c : UInt8} (h : lcC c = true) : okC c = true := by
  unfold lcC at h
  unfold okC
  simp only [Bool.or_eq_true, Bool.and_eq_true, decide_eq_true_eq] at h ⊢
  omega
theorem are_may {s : Bs} (h : areL s = true) : mayL s = true := by
  unfold areL at h
  unfold mayL
  simp only [Bool.and_eq_true, decide_eq_true_eq] at h ⊢
  exact ⟨h.1, List.all_eq_true.2 fun c hc => lc_ok (List.all_eq_true.1 h.2 c hc)⟩
theorem are_dash {s : Bs} (h : areL s = true) : s ≠ [45] := by
  intro e
  subst e
  revert h
  decide
theorem dig_ok {c : UInt8} (h : digC c = true) : okC c = true := by
  have := dig_le h
  unfold okC
  simp only [Bool.or_eq_true, Bool.and_eq_true, decide_eq_true_eq]
  omega
theorem itoa_may {v : Int} (h0 : -9223372036854775808 ≤ v) (h1 : v ≤ 9223372036854775807) : Lib.itoa v ≠ [] ∧ mayL (Lib.itoa v) = true := by
  have hl := itoa_len h0 h1
  have hd := (num_itoa v h0 h1).2
  obtain ⟨d1, d2, _⟩ := decL_parts hd
  generalize Lib.itoa v = s at *
  have hne : s ≠ [] := by intro e; subst e; exact d1 rfl
  refine ⟨hne, ?_⟩
  unfold mayL
  simp only [Bool.and_eq_true, decide_eq_true_eq]
  refine ⟨by omega, ?_⟩
  rcases s with _ | ⟨c, r⟩
  · exact absurd rfl hne
  · by_cases hc : c = 45
    · subst hc
      rw [trim_minus] at d2
      rw [List.all_cons]
      simp only [Bool.and_eq_true]
      exact ⟨by decide, List.all_eq_true.2 fun x hx => dig_ok (List.all_eq_true.1 d2 x hx)⟩
    · rw [trim_other hc] at d2
      exact List.all_eq_true.2 fun x hx => dig_ok (List.all_eq_true.1 d2 x hx)
theorem words_good {i : PIns} (ho : OkI i) (h : rightL i = true) : GoodW (wordsI i) := by
  unfold rightL at h
  rcases hb : byOpL i.op with _ | o
  · rw [hb] at h; cases h
  · obtain ⟨_, _, hne, _, hm, _, _, _, _⟩ := ops_cases (byOp_mem hb).1
    have e : wordsI i = o.2.1 :: o.2.2.map (fun c => Lib.itoa (partL i c)) := by unfold wordsI; rw [hb]
    rw [e]
    refine ⟨by simp, ?_⟩
    intro y hy
    rcases List.mem_cons.1 hy with rfl | hy
    · exact ⟨hne, hm⟩
    · obtain ⟨c, _, rfl⟩ := List.mem_map.1 hy
      obtain ⟨o0, o1, a0, a1, b0, b1, c0, c1, n0, n1⟩ := ho
      unfold partL
      split
      · exact itoa_may (by omega) (by omega)
      · split
        · exact itoa_may (by omega) (by omega)
        · split
          · exact itoa_may (by omega) (by omega)
          · exact itoa_may n0 n1
theorem or_good {s : Bs} (h : areL s = true) : orL s ≠ [] ∧ mayL (orL s) = true := by
  unfold orL
  split
  · exact ⟨by simp, by decide⟩
  · next hn => exact ⟨hn, are_may h⟩
theorem lines_good {p : PProg} (hs : OkP p) (h : mayP p = true) : ∀ x ∈ linesP p, GoodW x := by
  obtain ⟨h1, h2, h3, _, h5⟩ := mayP_all h
  intro x hx
  unfold linesP at hx
  simp only [List.mem_append, List.mem_map, List.mem_cons, List.not_mem_nil, or_false] at hx
  rcases hx with ⟨t, ht, rfl⟩ | ⟨rfl | rfl⟩ | ⟨i, hi, rfl⟩
  · refine ⟨by simp, fun y hy => ?_⟩
    simp only [List.mem_cons, List.not_mem_nil, or_false] at hy
    rcases hy with rfl | rfl
    · exact ⟨by decide, by decide⟩
    · exact ⟨(h1 _ ht).1, are_may (h1 _ ht).2⟩
  · refine ⟨by simp, fun y hy => ?_⟩
    simp only [List.mem_cons, List.not_mem_nil, or_false] at hy
    rcases hy with rfl | rfl
    · exact ⟨by decide, by decide⟩
    · exact or_good h2
  · refine ⟨by simp, fun y hy => ?_⟩
    simp only [List.mem_cons, List.not_mem_nil, or_false] at hy
    rcases hy with rfl | rfl
    · exact ⟨by decide, by decide⟩
    · exact or_good h3
  · exact words_good (hs.ins i hi) (h5 i hi)

/-! ### Forth -/
theorem pair_mk (nm s : Bs) : pairL nm [nm, s] = true := by unfold pairL; simp
theorem types_lines (ts : List Bs) (r : List (List Bs)) (h : ∀ t ∈ ts, typeL t = true) (hr : typesL r = []) : typesL (ts.map (fun t => [kType, t]) ++ r) = ts := by
  induction ts with
  | nil => simpa using hr
  | cons t ts ih =>
    show (if pairL kType [kType, t] && typeL (snd [kType, t]) then snd [kType, t] :: typesL (ts.map (fun t => [kType, t]) ++ r) else []) = _
    rw [pair_mk, ih (fun y hy => h y (by simp [hy]))]
    have : typeL (snd [kType, t]) = true := h t (by simp)
    rw [this]; rfl
theorem letters_line {nm s : Bs} (r : List (List Bs)) (h : areL s = true) : lettersL nm ([nm, orL s] :: r) = (s, true) := by
  show (if pairL nm [nm, orL s] then (if snd [nm, orL s] = [45] then ([], true) else (snd [nm, orL s], areL (snd [nm, orL s]))) else ([], false)) = _
  rw [pair_mk, if_pos rfl]
  have e : snd [nm, orL s] = orL s := rfl
  rw [e]
  by_cases hs : s = []
  · subst hs; rfl
  · have e2 : orL s = s := by unfold orL; rw [if_neg hs]
    rw [e2, if_neg (are_dash h), h]
theorem program_lines {p : PProg} (hs : OkP p) (h : mayP p = true) : programL (linesP p) = (p, (linesP p).length, true) := by
  have h0 := h
  obtain ⟨h1, h2, h3, h4, h5⟩ := mayP_all h
  have ht : typesL (linesP p) = p.types := by
    unfold linesP
    refine types_lines p.types _ (fun t ht => ?_) ?_
    · unfold typeL; simp [(h1 t ht).1, (h1 t ht).2]
    · show (if pairL kType [kLocals, orL p.locals] && typeL (snd [kLocals, orL p.locals]) then _ else []) = []
      have : pairL kType [kLocals, orL p.locals] = false := by unfold pairL; simp [kLocals, kType]
      rw [this]; rfl
  have hd : ∀ n, (linesP p).drop (p.types.length + n) = ([[kLocals, orL p.locals], [kGlobals, orL p.globs]] ++ p.code.map wordsI).drop n := by
    intro n
    unfold linesP
    rw [List.drop_append]
    simp
  have hl : lettersL kLocals ((linesP p).drop p.types.length) = (p.locals, true) := by
    rw [show p.types.length = p.types.length + 0 from rfl, hd]
    exact letters_line _ h2
  have hg : lettersL kGlobals ((linesP p).drop (p.types.length + 1)) = (p.globs, true) := by
    rw [hd]
    exact letters_line _ h3
  have hc : codeL 0 ((linesP p).drop (p.types.length + 2)) = .ok p.code := by
    rw [hd]
    refine codeL_all _ 0 _ ?_ (by simp; omega)
    show (p.code.map wordsI).map instrL = _
    rw [List.map_map]
    exact List.map_congr_left fun i hi => instr_words (hs.ins i hi) (h5 i hi)
  unfold programL
  simp only
  rw [ht, hl, hg, hc]
  rfl
/-- A program that may be printed is parsed from its text. -/
theorem parse_text {p : PProg} (hs : OkP p) (h : mayP p = true) (hl : (joinL (linesP p)).length ≤ 20000) : parseL (joinL (linesP p)) = (p, 0, 0) := by
  unfold parseL
  rw [lines_join _ (lines_good hs h) hl]
  simp only
  rw [program_lines hs h]
  rfl

end Go.Proofs.YtcjhgibhenocpaaGreatDoor

/- CodeBack: the walk. -/
namespace Go.Proofs.YtcjhgibhenocpaaGreatDoor
set_option linter.unusedSimpArgs false
set_option linter.unusedVariables false
open Go.RowKit

/-- What a text is parsed as, out of its rows. -/
def RdPost (w : World) (p : PProg) (n e : Int) (x : Ending) (w' : World) : Prop := ∃ vt vc, x = .returned (.tuple #[.agg #[vt, str p.locals, str p.globs, vc], .int .i64 n, .int .i64 e]) ∧
  Hid (ProgAt w' (.agg #[vt, str p.locals, str p.globs, vc]) p ∧ (#[vt, str p.locals, str p.globs, vc] : Array Value).all (·.oneCell') = true) ∧ Hid (Below w.heap.size w w')
theorem parse_str (x : Bs) (r : PProg × Nat × Nat) (w : World) (hA : HasAll w) (hx : x.length ≤ 140737488355328) (h : parseL x = r) : Calls Tryz.prog 8 #[str x] w (RdPost w r.1 r.2.1 r.2.2) := by
  have hp := parse_any ⟨x.toArray⟩ w (by show x.toArray.size ≤ _; unfold maxLen; simp; omega) hA.m hA.o hA.e
  rw [show (⟨x.toArray⟩ : ByteArray).data.toList = x from rfl, h] at hp
  refine hp.mono ?_
  rintro e w' ⟨pv, rfl, ⟨vt, vc, rfl, h1, h2⟩, hb⟩
  exact ⟨vt, vc, rfl, Lib.hid ⟨⟨vt, vc, rfl, RowAt.of_own h1, insRow_own h2⟩, progC_one (P := r.1) h1 h2⟩, Lib.hid hb⟩
end Go.Proofs.YtcjhgibhenocpaaGreatDoor

/- How a program may go, in plain lists: the next places, safepoints, what can be reached, by rounds and by ways. -/
namespace Go.Proofs.YtcjhgibhenocpaaGreatDoor
set_option linter.unusedSimpArgs false
set_option linter.unusedVariables false

/-- The next places of one instruction at a place. -/
def nextI (i : PIns) (k : Nat) : List Nat :=
  if i.op = 3 then [i.n.toNat]
  else if i.op = 4 then (if i.n < (k : Int) + 1 then [i.n.toNat, k + 1] else if (k : Int) + 1 < i.n then [k + 1, i.n.toNat] else [k + 1])
  else [k + 1]
def nextL (q : PProg) (k : Nat) : List Nat := match q.code[k]? with
  | some i => nextI i k
  | none => []
def safeL (q : PProg) (k : Nat) : Bool := match q.code[k]? with
  | some i => decide (i.op = 5) || (decide (i.op = 3) || decide (i.op = 4)) && decide (i.n ≤ (k : Int))
  | none => false
/-- All jumps go to places that there are. -/
def InP (q : PProg) : Prop := ∀ i ∈ q.code, i.op = 3 ∨ i.op = 4 → 0 ≤ i.n ∧ i.n ≤ q.code.length
theorem inP_check {q : PProg} (h : (checkL q).2 = 0) : InP q := fun i hi ho => by
  have he := (check_ok h).2.2.2.1 i hi
  unfold insE at he
  have hj : jumpI i = true := by unfold jumpI; simp; exact ho
  by_cases h1 : rightL i = false
  · rw [if_pos h1] at he; cases he
  rw [if_neg h1] at he
  by_cases h2 : jumpI i = true ∧ (i.n < 0 ∨ (q.code.length : Int) < i.n)
  · rw [if_pos h2] at he; cases he
  · have := not_and.1 h2 hj; omega
section
variable {q : PProg}
theorem next_le (h : InP q) {k n : Nat} (hn : n ∈ nextL q k) : n ≤ q.code.length ∧ k < q.code.length := by
  unfold nextL at hn
  rcases hi : q.code[k]? with _ | i
  · rw [hi] at hn; simp at hn
  · rw [hi] at hn
    have hlt := (List.getElem?_eq_some_iff.1 hi).1
    have hp := h i (List.mem_of_getElem? hi)
    simp only [nextI] at hn
    by_cases h3 : i.op = 3
    · rw [if_pos h3] at hn
      have := hp (.inl h3)
      simp at hn; omega
    · rw [if_neg h3] at hn
      by_cases h4 : i.op = 4
      · rw [if_pos h4] at hn
        have := hp (.inr h4)
        split at hn
        · simp at hn; omega
        · split at hn
          · simp at hn; omega
          · simp at hn; omega
      · rw [if_neg h4] at hn
        simp at hn; omega
/-- Where there is no safepoint one goes ahead. -/
theorem next_ahead {k n : Nat} (hn : n ∈ nextL q k) (hs : safeL q k = false) : k < n := by
  unfold nextL at hn
  unfold safeL at hs
  rcases hi : q.code[k]? with _ | i
  · rw [hi] at hn; simp at hn
  · rw [hi] at hn hs
    simp only [nextI] at hn
    simp only [Bool.or_eq_false_iff, Bool.and_eq_false_iff, decide_eq_false_iff_not] at hs
    by_cases h3 : i.op = 3
    · rw [if_pos h3] at hn
      simp at hn; omega
    · rw [if_neg h3] at hn
      by_cases h4 : i.op = 4
      · rw [if_pos h4] at hn
        split at hn
        · simp at hn; omega
        · split at hn
          · simp at hn; omega
          · simp at hn; omega
      · rw [if_neg h4] at hn
        simp at hn; omega
/-- A way of so many steps and one. -/
def WayN (q : PProg) : Nat → Nat → Nat → Prop
  | 0, a, b => b ∈ nextL q a
  | m + 1, a, b => ∃ c, WayN q m a c ∧ b ∈ nextL q c
def Way (q : PProg) (a b : Nat) : Prop := ∃ m, WayN q m a b
theorem Way.one {a b : Nat} (h : b ∈ nextL q a) : Way q a b := ⟨0, h⟩
theorem Way.step {a b c : Nat} (h : Way q a b) (hn : c ∈ nextL q b) : Way q a c := by
  obtain ⟨m, hm⟩ := h
  exact ⟨m + 1, b, hm, hn⟩
theorem Way.trans {a b c : Nat} (h : Way q a b) (h2 : Way q b c) : Way q a c := by
  obtain ⟨m, hm⟩ := h2
  induction m generalizing c with
  | zero => exact h.step hm
  | succ m ih =>
    obtain ⟨d, hd, hn⟩ := hm
    exact (ih hd).step hn
theorem Way.le (h : InP q) {a b : Nat} (hr : Way q a b) : b ≤ q.code.length := by
  obtain ⟨m, hm⟩ := hr
  cases m with
  | zero => exact (next_le h hm).1
  | succ m =>
    obtain ⟨d, _, hn⟩ := hm
    exact (next_le h hn).1

/-! ### By rounds -/
def markK (had : List Bool) (n : Nat) : List Bool := had.set n true
def stepK (q : PProg) (a : Nat) (had : List Bool) (k : Nat) : List Bool := if k = a ∨ had.getD k false = true then (nextL q k).foldl markK had else had
def roundK (q : PProg) (a : Nat) (had : List Bool) : List Bool := (List.range (q.code.length + 1)).foldl (stepK q a) had
def roundsK (q : PProg) (a : Nat) : Nat → List Bool → List Bool
  | 0, had => had
  | r + 1, had => roundsK q a r (roundK q a had)
def wayL (q : PProg) (a : Nat) : List Bool := roundsK q a (q.code.length + 1) (List.replicate (q.code.length + 1) false)
def loopL (q : PProg) (a : Nat) : Bool := (wayL q a).getD a false
def leB (x y : List Bool) : Prop := x.length = y.length ∧ ∀ k, x.getD k false = true → y.getD k false = true
theorem leB_refl (x : List Bool) : leB x x := ⟨rfl, fun _ h => h⟩
theorem leB.trans {x y z : List Bool} (h : leB x y) (h2 : leB y z) : leB x z := ⟨h.1.trans h2.1, fun k hk => h2.2 k (h.2 k hk)⟩
theorem getD_setB {l : List Bool} {k j : Nat} : (l.set k true).getD j false = if k = j ∧ k < l.length then true else l.getD j false := by
  rw [List.getD_eq_getElem?_getD, List.getElem?_set]
  by_cases h : k = j
  · subst h
    by_cases h2 : k < l.length
    · simp [h2]
    · simp [h2, List.getElem?_eq_none (Nat.le_of_not_lt h2)]
  · simp [h]
theorem mark_le (had : List Bool) (n : Nat) : leB had (markK had n) := ⟨by unfold markK; simp, fun k hk => by unfold markK; rw [getD_setB]; split; rfl; exact hk⟩
theorem marks_le (ns : List Nat) (had : List Bool) : leB had (ns.foldl markK had) := by
  induction ns generalizing had with
  | nil => exact leB_refl _
  | cons n ns ih => exact (mark_le had n).trans (ih _)
theorem step_le (a : Nat) (had : List Bool) (k : Nat) : leB had (stepK q a had k) := by
  unfold stepK
  split
  · exact marks_le _ _
  · exact leB_refl _
theorem steps_le (a : Nat) (ks : List Nat) (had : List Bool) : leB had (ks.foldl (stepK q a) had) := by
  induction ks generalizing had with
  | nil => exact leB_refl _
  | cons n ns ih => exact (step_le a had n).trans (ih _)
theorem round_le (a : Nat) (had : List Bool) : leB had (roundK q a had) := steps_le a _ had
theorem rounds_le (a r : Nat) (had : List Bool) : leB had (roundsK q a r had) := by
  induction r generalizing had with
  | zero => exact leB_refl _
  | succ r ih => exact (round_le a had).trans (ih _)
/-- What is marked can be reached. -/
def OkB (q : PProg) (a : Nat) (had : List Bool) : Prop := ∀ k, had.getD k false = true → Way q a k
theorem marks_ok {a : Nat} (ns : List Nat) (had : List Bool) (h : OkB q a had) (hn : ∀ n ∈ ns, Way q a n) : OkB q a (ns.foldl markK had) := by
  induction ns generalizing had with
  | nil => exact h
  | cons n ns ih =>
    refine ih _ (fun k hk => ?_) (fun m hm => hn m (by simp [hm]))
    unfold markK at hk
    rw [getD_setB] at hk
    split at hk
    · next e => rw [← e.1]; exact hn n (by simp)
    · exact h k hk
theorem step_ok {a : Nat} (had : List Bool) (k : Nat) (h : OkB q a had) : OkB q a (stepK q a had k) := by
  unfold stepK
  split
  · next e =>
    refine marks_ok _ _ h (fun n hn => ?_)
    rcases e with rfl | e
    · exact .one hn
    · exact (h k e).step hn
  · exact h
theorem steps_ok {a : Nat} (ks : List Nat) (had : List Bool) (h : OkB q a had) : OkB q a (ks.foldl (stepK q a) had) := by
  induction ks generalizing had with
  | nil => exact h
  | cons n ns ih => exact ih _ (step_ok _ _ h)
theorem rounds_ok {a : Nat} (r : Nat) (had : List Bool) (h : OkB q a had) : OkB q a (roundsK q a r had) := by
  induction r generalizing had with
  | zero => exact h
  | succ r ih => exact ih _ (steps_ok _ _ h)
/-- Nothing is left to be marked. -/
def Shut (q : PProg) (a : Nat) (had : List Bool) : Prop := ∀ k, k ≤ q.code.length → (k = a ∨ had.getD k false = true) → ∀ n ∈ nextL q k, had.getD n false = true
theorem leB.eq {x y : List Bool} (h : leB x y) (h2 : leB y x) : x = y := by
  refine List.ext_getElem h.1 fun i h1 h3 => ?_
  have a := h.2 i
  have b := h2.2 i
  simp only [List.getD_eq_getElem?_getD, List.getElem?_eq_getElem h1, List.getElem?_eq_getElem h3, Option.getD_some] at a b
  rcases hx : x[i] with _ | _ <;> rcases hy : y[i] with _ | _ <;> simp_all
theorem marks_all (ns : List Nat) (had : List Bool) (h : ∀ n ∈ ns, n < had.length) : ∀ n ∈ ns, (ns.foldl markK had).getD n false = true := by
  induction ns generalizing had with
  | nil => simp
  | cons n ns ih =>
    intro m hm
    rcases List.mem_cons.1 hm with rfl | hm
    · refine (marks_le ns _).2 m ?_
      unfold markK
      rw [getD_setB, if_pos ⟨rfl, h m (by simp)⟩]
    · exact ih _ (fun k hk => by unfold markK; rw [List.length_set]; exact h k (by simp [hk])) m hm
/-- A round that marks nothing new tells that nothing is left. -/
theorem shut_of_same {a : Nat} (hin : InP q) {had : List Bool} (hl : had.length = q.code.length + 1) (h : roundK q a had = had) : Shut q a had := by
  intro k hk hc n hn
  have hsplit : List.range (q.code.length + 1) = List.range k ++ k :: (List.range (q.code.length - k)).map (· + (k + 1)) := by
    rw [show q.code.length + 1 = k + (1 + (q.code.length - k)) by omega, List.range_add, List.range_add, List.range_one]
    simp [Function.comp_def, Nat.add_comm, Nat.add_left_comm, Nat.add_assoc]
  have h0 := h
  unfold roundK at h0
  rw [hsplit, List.foldl_append, List.foldl_cons] at h0
  have e1 : (List.range k).foldl (stepK q a) had = had := by
    refine leB.eq ?_ (steps_le a _ had)
    have := (step_le (q := q) a ((List.range k).foldl (stepK q a) had) k).trans (steps_le (q := q) a ((List.range (q.code.length - k)).map (· + (k + 1))) _)
    rw [h0] at this
    exact this
  rw [e1] at h0
  have e2 : stepK q a had k = had := by
    refine leB.eq ?_ (step_le a had k)
    have := steps_le (q := q) a ((List.range (q.code.length - k)).map (· + (k + 1))) (stepK q a had k)
    rw [h0] at this
    exact this
  unfold stepK at e2
  rw [if_pos hc] at e2
  rw [← e2]
  exact marks_all _ _ (fun m hm => by have := (next_le hin hm).1; omega) n hn
def cnt (l : List Bool) : Nat := l.countP id
theorem cnt_le {x y : List Bool} (h : leB x y) : cnt x ≤ cnt y ∧ (cnt x = cnt y → x = y) := by
  obtain ⟨hl, hk⟩ := h
  induction x generalizing y with
  | nil =>
    have : y = [] := List.length_eq_zero_iff.1 hl.symm
    subst this; exact ⟨Nat.le_refl _, fun _ => rfl⟩
  | cons b x ih =>
    rcases y with _ | ⟨c, y⟩
    · simp at hl
    · have h1 := ih (y := y) (by simpa using hl) (fun k hx => by have := hk (k + 1); simp at this hx ⊢; exact this hx)
      have h0 := hk 0
      simp at h0
      unfold cnt at h1 ⊢
      rcases b with _ | _ <;> rcases c with _ | _ <;> simp at h0 ⊢
      · exact ⟨h1.1, fun e => h1.2 e⟩
      · exact ⟨by omega, fun e => by omega⟩
      · exact ⟨h1.1, fun e => h1.2 e⟩
theorem cnt_max (l : List Bool) : cnt l ≤ l.length := List.countP_le_length
theorem rounds_same {a : Nat} (r : Nat) {had : List Bool} (h : roundK q a had = had) : roundsK q a r had = had := by
  induction r with
  | zero => rfl
  | succ r ih => unfold roundsK; rw [h]; exact ih
theorem rounds_shut {a : Nat} (hin : InP q) : ∀ (r : Nat) (had : List Bool), had.length = q.code.length + 1 → q.code.length + 1 ≤ cnt had + r → Shut q a (roundsK q a r had)
  | 0, had, hl, hc => by
    have hcm := cnt_max had
    have hall : had = List.replicate had.length true := by
      have : cnt had = had.length := by omega
      exact List.eq_replicate_iff.2 ⟨rfl, fun b hb => by have := List.countP_eq_length.1 this b hb; simpa using this⟩
    intro k _ _ n hn
    show had.getD n false = true
    have := (next_le hin hn).1
    rw [hall, List.getD_eq_getElem?_getD, List.getElem?_replicate, if_pos (by omega)]; rfl
  | r + 1, had, hl, hc => by
    by_cases hs : roundK q a had = had
    · rw [rounds_same _ hs]; exact shut_of_same hin hl hs
    · have hle := round_le (q := q) a had
      have h1 := cnt_le hle
      have hne : cnt had ≠ cnt (roundK q a had) := fun e => hs (h1.2 e).symm
      exact rounds_shut hin r (roundK q a had) (by rw [← hle.1]; exact hl) (by omega)
/-- The rounds tell just what can be reached. -/
theorem reach_iff (hin : InP q) {a b : Nat} (ha : a ≤ q.code.length) : (wayL q a).getD b false = true ↔ Way q a b := by
  have hl : (List.replicate (q.code.length + 1) false).length = q.code.length + 1 := by simp
  constructor
  · exact rounds_ok (a := a) _ _ (fun k hk => by rw [List.getD_eq_getElem?_getD, List.getElem?_replicate] at hk; split at hk <;> simp at hk) b
  · have hs := rounds_shut (a := a) hin (q.code.length + 1) _ hl (by omega)
    rintro ⟨m, hm⟩
    induction m generalizing b with
    | zero => exact hs a ha (.inl rfl) b hm
    | succ m ih =>
      obtain ⟨c, hc, hn⟩ := hm
      exact hs c (by have := (next_le hin hn).2; omega) (.inr (ih hc)) b hn
theorem reach_len (a : Nat) : (wayL q a).length = q.code.length + 1 := by
  have := (rounds_le (q := q) a (q.code.length + 1) (List.replicate (q.code.length + 1) false)).1
  rw [List.length_replicate] at this
  exact this.symm
end
end Go.Proofs.YtcjhgibhenocpaaGreatDoor

/- How a run goes, in plain lists: each step goes to a next place; between two times at one place there is a safepoint. -/
namespace Go.Proofs.YtcjhgibhenocpaaGreatDoor
set_option linter.unusedSimpArgs false
set_option linter.unusedVariables false

section
variable {q : PProg} {s t : PSt}
/-- What is so of the places at which a run was: all lead here; those since the last safepoint lie behind. -/
structure Seen (q : PProg) (seen since : Nat → Bool) (k : Nat) : Prop where
  way : ∀ j, seen j = true → Way q j k
  back : ∀ j, since j = true → j < k
def addB (f : Nat → Bool) (k : Nat) : Nat → Bool := fun j => decide (j = k) || f j
theorem Seen.next {seen since : Nat → Bool} {k n : Nat} (h : Seen q seen since k) (hn : n ∈ nextL q k) : Seen q (addB seen k) (if safeL q k = true then fun _ => false else addB since k) n := by
  refine ⟨fun j hj => ?_, fun j hj => ?_⟩
  · simp only [addB, Bool.or_eq_true, decide_eq_true_eq] at hj
    rcases hj with rfl | hj
    · exact .one hn
    · exact (h.way j hj).step hn
  · by_cases hs : safeL q k = true
    · rw [if_pos hs] at hj; cases hj
    · rw [if_neg hs] at hj
      have ha := next_ahead hn (by simpa using hs)
      simp only [addB, Bool.or_eq_true, decide_eq_true_eq] at hj
      rcases hj with rfl | hj
      · exact ha
      · have := h.back j hj; omega
/-- The next places rise, each once, and lie where they may. -/
theorem next_form {k : Nat} {i : PIns} (hi : q.code[k]? = some i) (hp : i.op = 3 ∨ i.op = 4 → 0 ≤ i.n) : nextL q k = (if i.op = 3 then [i.n.toNat] else if i.op = 4 ∧ i.n < (k : Int) + 1 then [i.n.toNat, k + 1] else if i.op = 4 ∧ (k : Int) + 1 < i.n then [k + 1, i.n.toNat] else [k + 1]) := by
  unfold nextL
  rw [hi]
  simp only [nextI]
  by_cases h3 : i.op = 3
  · rw [if_pos h3, if_pos h3]
  · rw [if_neg h3, if_neg h3]
    by_cases h4 : i.op = 4
    · simp [h4]
    · simp [h4]
theorem next_sorted (k : Nat) : (nextL q k).length ≤ 2 ∧ ∀ a b, (nextL q k)[0]? = some a → (nextL q k)[1]? = some b → InP q → a < b := by
  unfold nextL
  rcases hi : q.code[k]? with _ | i
  · simp
  · simp only [nextI]
    refine ⟨?_, fun a b ha hb hin => ?_⟩
    · split
      · simp
      · split
        · split
          · simp
          · split <;> simp
        · simp
    · have hp := hin i (List.mem_of_getElem? hi)
      by_cases h3 : i.op = 3
      · rw [if_pos h3] at hb; simp at hb
      · rw [if_neg h3] at ha hb
        by_cases h4 : i.op = 4
        · rw [if_pos h4] at ha hb
          have := hp (.inr h4)
          split at ha
          · next e => rw [if_pos e] at hb; simp at ha hb; omega
          · next e =>
            rw [if_neg e] at hb
            split at ha
            · next e2 => rw [if_pos e2] at hb; simp at ha hb; omega
            · next e2 => rw [if_neg e2] at hb; simp at hb
        · rw [if_neg h4] at hb; simp at hb
end
end Go.Proofs.YtcjhgibhenocpaaGreatDoor
