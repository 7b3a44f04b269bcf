/-
  Programs as texts, in plain lists: what an operation is called, what a program's lines are, and what is read from lines.
  The contracts of code's isLetter, areLetters, isType, written, isByte.
  The map of places: what it is made of, and what is found in it.
-/
import Derived.Test.YtcjhgibhenocpaaGreatDoorUAB
import Derived.Test.YtcjhgibhenocpaaGreatDoorUAA
import Derived.WideMake
import Derived.MapKept

/- Programs as texts, in plain lists: what an operation is called, what a program's lines are, and what is read from lines. -/
namespace Go.Proofs.YtcjhgibhenocpaaGreatDoor
set_option linter.unusedSimpArgs false
set_option linter.unusedVariables false

structure PIns where
  op : Int
  a : Int
  b : Int
  c : Int
  n : Int

def OPS : List (Int × Bs × Bs) :=
  [(1, [115, 101, 116], [65, 78]), (2, [97, 100, 100], [65, 66, 67]), (3, [106, 117, 109, 112], [78]), (4, [122, 101, 114, 111], [65, 78]), (5, [110, 101, 119], [65]),
   (6, [110, 105, 108], [65]), (7, [109, 111, 118, 101], [65, 66]), (8, [108, 111, 97, 100, 105], [65, 66, 78]), (9, [115, 116, 111, 114, 101, 105], [65, 78, 66]), (10, [108, 111, 97, 100, 112], [65, 66, 78]),
   (11, [115, 116, 111, 114, 101, 112], [65, 78, 66]), (12, [108, 111, 97, 100, 103], [65, 66]), (13, [115, 116, 111, 114, 101, 103], [65, 66]), (14, [112, 114, 105, 110, 116], [65]), (15, [115, 97, 109, 101], [65, 66, 67])]
def byOpL (op : Int) : Option (Int × Bs × Bs) := OPS.find? (fun o => o.1 == op)
def byNameL (s : Bs) : Option (Int × Bs × Bs) := OPS.find? (fun o => o.2.1 == s)
def partL (i : PIns) (c : UInt8) : Int := if c = 65 then i.a else if c = 66 then i.b else if c = 67 then i.c else i.n
def setL (i : PIns) (c : UInt8) (v : Int) : PIns := if c = 65 then { i with a := v } else if c = 66 then { i with b := v } else if c = 67 then { i with c := v } else { i with n := v }
def clearL (i : PIns) : Bs → PIns
  | [] => i
  | c :: cs => clearL (setL i c 0) cs
def zeroI (i : PIns) : Bool := decide (i.a = 0) && decide (i.b = 0) && decide (i.c = 0) && decide (i.n = 0)
def rightL (i : PIns) : Bool := match byOpL i.op with
  | none => false
  | some o => zeroI (clearL i o.2.2)
def wordsI (i : PIns) : List Bs := match byOpL i.op with
  | none => [[]]
  | some o => o.2.1 :: o.2.2.map (fun c => Lib.itoa (partL i c))
/-- May a letter be given this word? -/
def fitL (c : UInt8) (w : Bs) : Bool := decide ((numL w).2 = 0) && (decide (c = 78) || (decide (0 ≤ (numL w).1) && decide ((numL w).1 ≤ 255)))
def readL : Bs → List Bs → PIns → Option PIns
  | c :: cs, w :: ws, i => if fitL c w then readL cs ws (setL i c (numL w).1) else none
  | [], _, i => some i
  | _, [], _ => none
def instrL (ws : List Bs) : Option PIns := match byNameL (ws.headD []) with
  | none => none
  | some o => if ws.length = 1 + o.2.2.length then readL o.2.2 ws.tail ⟨o.1, 0, 0, 0, 0⟩ else none
structure OkI (i : PIns) : Prop where
  o0 : 0 ≤ i.op
  o1 : i.op ≤ 255
  a0 : 0 ≤ i.a
  a1 : i.a ≤ 255
  b0 : 0 ≤ i.b
  b1 : i.b ≤ 255
  c0 : 0 ≤ i.c
  c1 : i.c ≤ 255
  n0 : -9223372036854775808 ≤ i.n
  n1 : i.n ≤ 9223372036854775807

def lcC (c : UInt8) : Bool := (decide (97 ≤ c.toNat) && decide (c.toNat ≤ 122)) || (decide (48 ≤ c.toNat) && decide (c.toNat ≤ 57))
def areL (s : Bs) : Bool := decide (s.length ≤ 30) && s.all lcC
def typeL (s : Bs) : Bool := !s.isEmpty && areL s

structure PProg where
  types : List Bs
  locals : Bs
  globs : Bs
  code : List PIns
def noneP : PProg := ⟨[], [], [], []⟩
def mayP (p : PProg) : Bool := p.types.all typeL && (areL p.locals && areL p.globs && decide (p.code.length ≤ 200)) && p.code.all rightL
def kType : Bs := [116, 121, 112, 101]
def kLocals : Bs := [108, 111, 99, 97, 108, 115]
def kGlobals : Bs := [103, 108, 111, 98, 97, 108, 115]
def orL (s : Bs) : Bs := if s = [] then [45] else s
def linesP (p : PProg) : List (List Bs) := p.types.map (fun t => [kType, t]) ++ ([[kLocals, orL p.locals], [kGlobals, orL p.globs]] ++ p.code.map wordsI)
def printL (p : PProg) : Bs × Nat := if mayP p then (joinL (linesP p), 0) else ([], 2)

def pairL (name : Bs) (ws : List Bs) : Bool := decide (ws.length = 2) && (ws.headD [] == name)
def snd (ws : List Bs) : Bs := ws.getD 1 []
def typesL : List (List Bs) → List Bs
  | [] => []
  | ws :: r => if pairL kType ws && typeL (snd ws) then snd ws :: typesL r else []
def lettersL (name : Bs) : List (List Bs) → Bs × Bool
  | [] => ([], false)
  | ws :: _ => if pairL name ws then (if snd ws = [45] then ([], true) else (snd ws, areL (snd ws))) else ([], false)
/-- The instructions of lines, or the place of the first line that is none's. -/
def codeL : Nat → List (List Bs) → Except Nat (List PIns)
  | _, [] => .ok []
  | k, ws :: r => match instrL ws with
    | none => .error k
    | some i => if 200 ≤ k then .error k else match codeL (k + 1) r with
      | .error m => .error m
      | .ok is => .ok (i :: is)
def programL (ls : List (List Bs)) : PProg × Nat × Bool :=
  let ts := typesL ls
  let l := lettersL kLocals (ls.drop ts.length)
  let g := lettersL kGlobals (ls.drop (ts.length + 1))
  if l.2 then
    if g.2 then
      match codeL 0 (ls.drop (ts.length + 2)) with
      | .error k => (noneP, ts.length + 2 + k, false)
      | .ok is => (⟨ts, l.1, g.1, is⟩, ls.length, true)
    else (noneP, ts.length + 1, false)
  else (noneP, ts.length, false)
def parseL (s : Bs) : PProg × Nat × Nat :=
  let r := linesL s
  if r.2.2 = 0 then
    let q := programL r.1
    if q.2.2 then (q.1, 0, 0) else (noneP, q.2.1 + 1, 4)
  else (noneP, r.2.1, r.2.2)

/-! ### Operations -/
theorem byOp_mem {op : Int} {o : Int × Bs × Bs} (h : byOpL op = some o) : o ∈ OPS ∧ o.1 = op := by
  have h1 := List.mem_of_find?_eq_some h
  have h2 := List.find?_some h
  exact ⟨h1, by simpa using h2⟩
theorem byName_mem {s : Bs} {o : Int × Bs × Bs} (h : byNameL s = some o) : o ∈ OPS ∧ o.2.1 = s := by
  have h1 := List.mem_of_find?_eq_some h
  have h2 := List.find?_some h
  exact ⟨h1, by simpa using h2⟩
theorem ops_cases {o : Int × Bs × Bs} (h : o ∈ OPS) : byOpL o.1 = some o ∧ byNameL o.2.1 = some o ∧ o.2.1 ≠ [] ∧ (1 ≤ o.1 ∧ o.1 ≤ 15) ∧ mayL o.2.1 = true ∧ o.2.1 ≠ kType ∧ o.2.1 ≠ kLocals ∧ o.2.1 ≠ kGlobals ∧
    o.2.2 ∈ [[65, 78], [65, 66, 67], [78], [65], [65, 66], [65, 66, 78], [65, 78, 66]] := by
  simp only [OPS, List.mem_cons, List.not_mem_nil, or_false] at h
  rcases h with rfl | rfl | rfl | rfl | rfl | rfl | rfl | rfl | rfl | rfl | rfl | rfl | rfl | rfl | rfl <;> exact ⟨by decide, by decide, by decide, by decide, by decide, by decide, by decide, by decide, by decide⟩

theorem numL_itoa {v : Int} (h0 : -9223372036854775808 ≤ v) (h1 : v ≤ 9223372036854775807) : numL (Lib.itoa v) = (v, 0) := (num_itoa v h0 h1).1
theorem fit_itoa {c : UInt8} {v : Int} (h : c = 78 ∨ (0 ≤ v ∧ v ≤ 255)) (h0 : -9223372036854775808 ≤ v) (h1 : v ≤ 9223372036854775807) : fitL c (Lib.itoa v) = true := by
  unfold fitL
  rw [numL_itoa h0 h1]
  rcases h with rfl | ⟨h2, h3⟩
  · simp
  · simp [h2, h3]

/-- An instruction that may be is read from its words. -/
theorem instr_words {i : PIns} (ho : OkI i) (h : rightL i = true) : instrL (wordsI i) = some i := by
  unfold rightL at h
  rcases hb : byOpL i.op with _ | o
  · rw [hb] at h; cases h
  · rw [hb] at h
    obtain ⟨hm, h1⟩ := byOp_mem hb
    obtain ⟨_, hn, _, _, _, _, _, _, hh⟩ := ops_cases hm
    unfold wordsI instrL
    rw [hb]
    simp only [List.headD_cons, hn, List.length_cons, List.length_map, List.tail_cons]
    rw [if_pos (by omega), h1]
    obtain ⟨x, a, b, c, n⟩ := i
    obtain ⟨o0, o1, a0, a1, b0, b1, c0, c1, n0, n1⟩ := ho
    simp only at *
    simp only [List.mem_cons, List.not_mem_nil, or_false] at hh
    have fa : fitL 65 (Lib.itoa a) = true := fit_itoa (.inr ⟨a0, a1⟩) (by omega) (by omega)
    have fb : fitL 66 (Lib.itoa b) = true := fit_itoa (.inr ⟨b0, b1⟩) (by omega) (by omega)
    have fc : fitL 67 (Lib.itoa c) = true := fit_itoa (.inr ⟨c0, c1⟩) (by omega) (by omega)
    have fn : fitL 78 (Lib.itoa n) = true := fit_itoa (.inl rfl) n0 n1
    have na : numL (Lib.itoa a) = (a, 0) := numL_itoa (by omega) (by omega)
    have nb : numL (Lib.itoa b) = (b, 0) := numL_itoa (by omega) (by omega)
    have nc : numL (Lib.itoa c) = (c, 0) := numL_itoa (by omega) (by omega)
    have nn : numL (Lib.itoa n) = (n, 0) := numL_itoa n0 n1
    rcases hh with hh | hh | hh | hh | hh | hh | hh <;> (rw [hh] at h ⊢; simp [clearL, setL, zeroI] at h; simp [readL, setL, partL, fa, fb, fc, fn, na, nb, nc, nn, h])

theorem fit_back {c : UInt8} {w : Bs} (h : fitL c w = true) : Lib.itoa (numL w).1 = w ∧ -9223372036854775808 ≤ (numL w).1 ∧ (numL w).1 ≤ 9223372036854775807 ∧ (c = 78 ∨ (0 ≤ (numL w).1 ∧ (numL w).1 ≤ 255)) := by
  unfold fitL at h
  simp only [Bool.and_eq_true, Bool.or_eq_true, decide_eq_true_eq] at h
  have e : numL w = ((numL w).1, 0) := by rw [← h.1]
  obtain ⟨h1, h2, h3⟩ := num_back e
  exact ⟨h1, h2, h3, h.2⟩

theorem len1 {α : Type} {l : List α} (h : l.length = 1) : ∃ a, l = [a] := by match l, h with | [a], _ => exact ⟨a, rfl⟩
theorem len2 {α : Type} {l : List α} (h : l.length = 2) : ∃ a b, l = [a, b] := by match l, h with | [a, b], _ => exact ⟨a, b, rfl⟩
theorem len3 {α : Type} {l : List α} (h : l.length = 3) : ∃ a b c, l = [a, b, c] := by match l, h with | [a, b, c], _ => exact ⟨a, b, c, rfl⟩

theorem read_some {c : UInt8} {cs : Bs} {w : Bs} {ws : List Bs} {i j : PIns} (h : readL (c :: cs) (w :: ws) i = some j) : fitL c w = true ∧ readL cs ws (setL i c (numL w).1) = some j := by
  have h' : (if fitL c w = true then readL cs ws (setL i c (numL w).1) else none) = some j := h
  by_cases hf : fitL c w = true
  · rw [if_pos hf] at h'; exact ⟨hf, h'⟩
  · rw [if_neg hf] at h'; cases h'

/-- What is read from words has those words, and may be. -/
theorem words_instr {ws : List Bs} {i : PIns} (h : instrL ws = some i) : wordsI i = ws ∧ rightL i = true ∧ OkI i := by
  unfold instrL at h
  rcases hb : byNameL (ws.headD []) with _ | o
  · rw [hb] at h; cases h
  · rw [hb] at h
    simp only at h
    obtain ⟨hm, h1⟩ := byName_mem hb
    obtain ⟨ho, _, hne, ⟨g1, g2⟩, _, _, _, _, hh⟩ := ops_cases hm
    by_cases hl : ws.length = 1 + o.2.2.length
    · rw [if_pos hl] at h
      rcases ws with _ | ⟨w0, ws⟩
      · simp at hl; omega
      · simp only [List.headD_cons] at h1
        simp only [List.tail_cons, List.length_cons] at h hl
        have hl' : ws.length = o.2.2.length := by omega
        obtain ⟨x, nm, hs⟩ := o
        simp only at *
        subst h1
        simp only [List.mem_cons, List.not_mem_nil, or_false] at hh
        rcases hh with rfl | rfl | rfl | rfl | rfl | rfl | rfl
        · obtain ⟨a, b, rfl⟩ := len2 hl'
          obtain ⟨f1, h⟩ := read_some h
          obtain ⟨f2, h⟩ := read_some h
          obtain ⟨a1, a2, a3, a4⟩ := fit_back f1
          obtain ⟨b1, b2, b3, b4⟩ := fit_back f2
          simp [readL, setL] at h
          subst h
          exact ⟨by simp [wordsI, ho, partL, a1, b1], by simp [rightL, ho, clearL, setL, zeroI], by constructor <;> simp_all <;> omega⟩
        · obtain ⟨a, b, c, rfl⟩ := len3 hl'
          obtain ⟨f1, h⟩ := read_some h
          obtain ⟨f2, h⟩ := read_some h
          obtain ⟨f3, h⟩ := read_some h
          obtain ⟨a1, a2, a3, a4⟩ := fit_back f1
          obtain ⟨b1, b2, b3, b4⟩ := fit_back f2
          obtain ⟨c1, c2, c3, c4⟩ := fit_back f3
          simp [readL, setL] at h
          subst h
          exact ⟨by simp [wordsI, ho, partL, a1, b1, c1], by simp [rightL, ho, clearL, setL, zeroI], by constructor <;> simp_all <;> omega⟩
        · obtain ⟨a, rfl⟩ := len1 hl'
          obtain ⟨f1, h⟩ := read_some h
          obtain ⟨a1, a2, a3, a4⟩ := fit_back f1
          simp [readL, setL] at h
          subst h
          exact ⟨by simp [wordsI, ho, partL, a1], by simp [rightL, ho, clearL, setL, zeroI], by constructor <;> simp_all <;> omega⟩
        · obtain ⟨a, rfl⟩ := len1 hl'
          obtain ⟨f1, h⟩ := read_some h
          obtain ⟨a1, a2, a3, a4⟩ := fit_back f1
          simp [readL, setL] at h
          subst h
          exact ⟨by simp [wordsI, ho, partL, a1], by simp [rightL, ho, clearL, setL, zeroI], by constructor <;> simp_all <;> omega⟩
        · obtain ⟨a, b, rfl⟩ := len2 hl'
          obtain ⟨f1, h⟩ := read_some h
          obtain ⟨f2, h⟩ := read_some h
          obtain ⟨a1, a2, a3, a4⟩ := fit_back f1
          obtain ⟨b1, b2, b3, b4⟩ := fit_back f2
          simp [readL, setL] at h
          subst h
          exact ⟨by simp [wordsI, ho, partL, a1, b1], by simp [rightL, ho, clearL, setL, zeroI], by constructor <;> simp_all <;> omega⟩
        · obtain ⟨a, b, c, rfl⟩ := len3 hl'
          obtain ⟨f1, h⟩ := read_some h
          obtain ⟨f2, h⟩ := read_some h
          obtain ⟨f3, h⟩ := read_some h
          obtain ⟨a1, a2, a3, a4⟩ := fit_back f1
          obtain ⟨b1, b2, b3, b4⟩ := fit_back f2
          obtain ⟨c1, c2, c3, c4⟩ := fit_back f3
          simp [readL, setL] at h
          subst h
          exact ⟨by simp [wordsI, ho, partL, a1, b1, c1], by simp [rightL, ho, clearL, setL, zeroI], by constructor <;> simp_all <;> omega⟩
        · obtain ⟨a, b, c, rfl⟩ := len3 hl'
          obtain ⟨f1, h⟩ := read_some h
          obtain ⟨f2, h⟩ := read_some h
          obtain ⟨f3, h⟩ := read_some h
          obtain ⟨a1, a2, a3, a4⟩ := fit_back f1
          obtain ⟨b1, b2, b3, b4⟩ := fit_back f2
          obtain ⟨c1, c2, c3, c4⟩ := fit_back f3
          simp [readL, setL] at h
          subst h
          exact ⟨by simp [wordsI, ho, partL, a1, b1, c1], by simp [rightL, ho, clearL, setL, zeroI], by constructor <;> simp_all <;> omega⟩
    · rw [if_neg hl] at h; cases h
end Go.Proofs.YtcjhgibhenocpaaGreatDoor

/- The contracts of code's isLetter, areLetters, isType, written, isByte. -/
namespace Go.Proofs.YtcjhgibhenocpaaGreatDoor
set_option linter.unusedSimpArgs false
set_option linter.unusedVariables false
open Go.RowKit

theorem cLet_t1 (c : Int) (w : World) (h1 : 97 ≤ c) (h2 : c ≤ 122) : Calls Tryz.prog 88 #[.int .u8 c] w fun e w' => e = .returned (.bool true) ∧ w = w' := by
  go_enter Tryz.func88, Tryz.ntmps88
  go_wp2
  go_ret
  exact ⟨rfl, rfl⟩
theorem cLet_t2 (c : Int) (w : World) (h0 : c < 97) (h1 : 48 ≤ c) (h2 : c ≤ 57) : Calls Tryz.prog 88 #[.int .u8 c] w fun e w' => e = .returned (.bool true) ∧ w = w' := by
  have h0' : ¬ 97 ≤ c := by omega
  clear h0
  go_enter Tryz.func88, Tryz.ntmps88
  go_wp2
  go_ret
  exact ⟨rfl, rfl⟩
theorem cLet_f1 (c : Int) (w : World) (h1 : 122 < c) : Calls Tryz.prog 88 #[.int .u8 c] w fun e w' => e = .returned (.bool false) ∧ w = w' := by
  have h2 : 97 ≤ c := by omega
  have h3 : ¬ c ≤ 122 := by omega
  have h4 : 48 ≤ c := by omega
  have h5 : ¬ c ≤ 57 := by omega
  clear h1
  go_enter Tryz.func88, Tryz.ntmps88
  go_wp2
  go_ret
  exact ⟨rfl, rfl⟩
theorem cLet_f2 (c : Int) (w : World) (h1 : 57 < c) (h0 : c < 97) : Calls Tryz.prog 88 #[.int .u8 c] w fun e w' => e = .returned (.bool false) ∧ w = w' := by
  have h2 : ¬ 97 ≤ c := by omega
  have h4 : 48 ≤ c := by omega
  have h5 : ¬ c ≤ 57 := by omega
  clear h1 h0
  go_enter Tryz.func88, Tryz.ntmps88
  go_wp2
  go_ret
  exact ⟨rfl, rfl⟩
theorem cLet_f3 (c : Int) (w : World) (h1 : c < 48) : Calls Tryz.prog 88 #[.int .u8 c] w fun e w' => e = .returned (.bool false) ∧ w = w' := by
  have h2 : ¬ 97 ≤ c := by omega
  have h4 : ¬ 48 ≤ c := by omega
  clear h1
  go_enter Tryz.func88, Tryz.ntmps88
  go_wp2
  go_ret
  exact ⟨rfl, rfl⟩
theorem cLet_any (c : UInt8) (w : World) : Calls Tryz.prog 88 #[.int .u8 c.toNat] w fun e w' => e = .returned (.bool (lcC c)) ∧ w = w' := by
  by_cases h1 : 97 ≤ c.toNat
  · by_cases h2 : c.toNat ≤ 122
    · have e : lcC c = true := by simp [lcC, h1, h2]
      rw [e]; exact cLet_t1 _ w (by omega) (by omega)
    · have e : lcC c = false := by simp [lcC]; omega
      rw [e]; exact cLet_f1 _ w (by omega)
  · by_cases h2 : 48 ≤ c.toNat
    · by_cases h3 : c.toNat ≤ 57
      · have e : lcC c = true := by simp [lcC, h2, h3]
        rw [e]; exact cLet_t2 _ w (by omega) (by omega) (by omega)
      · have e : lcC c = false := by simp [lcC]; omega
        rw [e]; exact cLet_f2 _ w (by omega) (by omega)
    · have e : lcC c = false := by simp [lcC]; omega
      rw [e]; exact cLet_f3 _ w (by omega)
theorem cLet_t (c : UInt8) (w : World) (h : lcC c = true) : Calls Tryz.prog 88 #[.int .u8 c.toNat] w fun e w' => e = .returned (.bool true) ∧ w = w' := by
  have := cLet_any c w; rw [h] at this; exact this
theorem cLet_f (c : UInt8) (w : World) (h : lcC c = false) : Calls Tryz.prog 88 #[.int .u8 c.toNat] w fun e w' => e = .returned (.bool false) ∧ w = w' := by
  have := cLet_any c w; rw [h] at this; exact this

/-- The first k bytes are letters. -/
def LcTo (s : ByteArray) (k : Nat) : Prop := ∀ c ∈ s.data.toList.take k, lcC c = true
theorem LcTo.next {s : ByteArray} {k : Nat} (h : LcTo s k) (hk : k < s.size) (hc : lcC s[k] = true) : LcTo s (k + 1) := by
  intro c hm
  rw [take_snoc s k hk] at hm
  rcases List.mem_append.1 hm with h' | h'
  · exact h c h'
  · simp at h'; subst h'; exact hc
theorem lcTo_zero (s : ByteArray) : LcTo s 0 := by intro c h; simp at h
theorem LcTo.all {s : ByteArray} (h : LcTo s s.size) : s.data.toList.all lcC = true := by
  rw [List.all_eq_true]; intro c hc; exact h c (by rw [← len_size, List.take_length]; exact hc)
theorem not_lc {s : ByteArray} {k : Nat} (hk : k < s.size) (hc : lcC s[k] = false) : areL s.data.toList = false := by
  have : s.data.toList.all lcC = false := by
    rw [Bool.eq_false_iff]
    intro h
    have h2 := List.all_eq_true.1 h s[k] (by
      have : s.data.toList[k]? = some s[k] := by rw [List.getElem?_eq_getElem (by rw [len_size]; exact hk)]; rfl
      exact List.mem_of_getElem? this)
    rw [hc] at h2; cases h2
  unfold areL; rw [this]; simp
theorem lc_of {s : ByteArray} (hl : s.size ≤ 30) (h : LcTo s s.size) : areL s.data.toList = true := by
  unfold areL; rw [h.all, len_size]; simp [hl]
theorem lc_long {s : ByteArray} (h : 30 < s.size) : areL s.data.toList = false := by
  unfold areL; rw [len_size, decide_eq_false (by omega)]; simp

set_option maxHeartbeats 1000000 in
theorem areL_any (s : ByteArray) (w : World) (hs : s.size ≤ maxLen) : Calls Tryz.prog 42 #[.string s] w fun e w' => e = .returned (.bool (areL s.data.toList)) ∧ w = w' := by
  unfold maxLen at hs
  by_cases hl : 30 < s.size
  · go_enter Tryz.func42, Tryz.ntmps42
    go_wp2
    go_ret
    exact ⟨ret_bool (lc_long hl).symm, rfl⟩
  · go_enter Tryz.func42, Tryz.ntmps42
    go_wp2
    go_loop [9] (fun i => ∃ k : Nat, k ≤ s.size ∧ i = .int .i64 k ∧ LcTo s k) (fun i => s.size - (intOf i).toNat)
    case atStart => exact ⟨0, Nat.zero_le _, rfl, lcTo_zero s⟩
    case round =>
      obtain ⟨k, hk, rfl, hok⟩ := hrel
      by_cases hlt : k < s.size
      · rcases hc : lcC s[k] with _ | _
        · have HC := Lib.hid hc
          clear hc
          go_wp2_with (go_at_call 88; refine (cLet_f _ _ HC.out).mono ?_; rintro e w' ⟨rfl, rfl⟩)
          go_ret
          exact ⟨ret_bool (not_lc hlt HC.out).symm, rfl⟩
        · have HC := Lib.hid hc
          clear hc
          go_wp2_with (go_at_call 88; refine (cLet_t _ _ HC.out).mono ?_; rintro e w' ⟨rfl, rfl⟩)
          go_round
          case rel => exact ⟨k + 1, by omega, by go_num, hok.next hlt HC.out⟩
          case measure => simp [intOf]; omega
      · go_wp2
        go_ret
        obtain rfl : k = s.size := by omega
        exact ⟨ret_bool (lc_of (by omega) hok).symm, rfl⟩
theorem areL_l (x : Bs) (w : World) (hs : x.length ≤ maxLen) : Calls Tryz.prog 42 #[str x] w fun e w' => e = .returned (.bool (areL x)) ∧ w = w' := areL_any ⟨x.toArray⟩ w hs
theorem areL_b (x : Bs) (b : Bool) (w : World) (hs : x.length ≤ maxLen) (h : areL x = b) : Calls Tryz.prog 42 #[str x] w fun e w' => e = .returned (.bool b) ∧ w = w' := by
  subst h; exact areL_l x w hs

theorem isType_empty (w : World) : Calls Tryz.prog 41 #[.string ⟨#[]⟩] w fun e w' => e = .returned (.bool false) ∧ w = w' := by
  go_enter Tryz.func41, Tryz.ntmps41
  go_wp2
  go_ret
  exact ⟨rfl, rfl⟩
theorem isType_b (s : ByteArray) (b : Bool) (w : World) (h : s.toList.isEmpty = false) (HA : ∀ w, Calls Tryz.prog 42 #[.string s] w fun e w' => e = .returned (.bool b) ∧ w = w') :
    Calls Tryz.prog 41 #[.string s] w fun e w' => e = .returned (.bool b) ∧ w = w' := by
  have HH := Lib.hid HA
  clear HA
  go_enter Tryz.func41, Tryz.ntmps41
  go_wp2_with (go_at_call 42; refine (HH.out _).mono ?_; rintro e w' ⟨rfl, rfl⟩)
  go_ret
  exact ⟨rfl, rfl⟩
theorem str_ne {x : Bs} (h : x ≠ []) : (⟨x.toArray⟩ : ByteArray).toList.isEmpty = false := by
  rw [ByteArray.toList_eq, Bool.eq_false_iff]
  intro e
  exact h (List.isEmpty_iff.1 e)
theorem typeL_l (x : Bs) (w : World) (hs : x.length ≤ maxLen) : Calls Tryz.prog 41 #[str x] w fun e w' => e = .returned (.bool (typeL x)) ∧ w = w' := by
  by_cases h : x = []
  · subst h; exact isType_empty w
  · have e : typeL x = areL x := by unfold typeL; simp [h]
    rw [e]
    exact isType_b _ _ w (str_ne h) (fun w => areL_l x w hs)
theorem typeL_b (x : Bs) (b : Bool) (w : World) (hs : x.length ≤ maxLen) (h : typeL x = b) : Calls Tryz.prog 41 #[str x] w fun e w' => e = .returned (.bool b) ∧ w = w' := by
  subst h; exact typeL_l x w hs

theorem written_e (w : World) : Calls Tryz.prog 20 #[.string ⟨#[]⟩] w fun e w' => e = .returned (str [45]) ∧ w = w' := by
  go_enter Tryz.func20, Tryz.ntmps20
  go_wp2
  go_ret
  exact ⟨rfl, rfl⟩
theorem written_n (s : ByteArray) (w : World) (h : s.toList.isEmpty = false) : Calls Tryz.prog 20 #[.string s] w fun e w' => e = .returned (.string s) ∧ w = w' := by
  go_enter Tryz.func20, Tryz.ntmps20
  go_wp2
  go_ret
  exact ⟨rfl, rfl⟩
theorem written_l (x : Bs) (w : World) : Calls Tryz.prog 20 #[str x] w fun e w' => e = .returned (str (orL x)) ∧ w = w' := by
  by_cases h : x = []
  · subst h; exact written_e w
  · have e : orL x = x := by unfold orL; rw [if_neg h]
    rw [e]
    exact written_n _ w (str_ne h)

def byteI (n : Int) : Bool := decide (0 ≤ n) && decide (n ≤ 255)
theorem isByte_any (n : Int) (w : World) : Calls Tryz.prog 98 #[.int .i64 n] w fun e w' => e = .returned (.bool (byteI n)) ∧ w = w' := by
  by_cases h1 : 0 ≤ n
  · by_cases h2 : n ≤ 255
    · have e : byteI n = true := by simp [byteI, h1, h2]
      rw [e]
      clear e
      go_enter Tryz.func98, Tryz.ntmps98
      go_wp2
      go_ret
      exact ⟨rfl, rfl⟩
    · have e : byteI n = false := by simp [byteI, h1, h2]
      rw [e]
      clear e
      go_enter Tryz.func98, Tryz.ntmps98
      go_wp2
      go_ret
      exact ⟨rfl, rfl⟩
  · have e : byteI n = false := by simp [byteI, h1]
    rw [e]
    clear e
    go_enter Tryz.func98, Tryz.ntmps98
    go_wp2
    go_ret
    exact ⟨rfl, rfl⟩
theorem isByte_b (n : Int) (b : Bool) (w : World) (h : byteI n = b) : Calls Tryz.prog 98 #[.int .i64 n] w fun e w' => e = .returned (.bool b) ∧ w = w' := by
  subst h; exact isByte_any n w
end Go.Proofs.YtcjhgibhenocpaaGreatDoor

/- The map of places: what it is made of, and what is found in it. -/
namespace Go.Proofs.YtcjhgibhenocpaaGreatDoor
set_option linter.unusedSimpArgs false
set_option linter.unusedVariables false
open Go.RowKit

def ent (k v : Int) (b : Nat) : MapEntry := { key := .int .i32 k, val := .int .i64 v, born := b }
def placesO : Obj := .map #[ent 65 0 0, ent 66 1 1, ent 67 2 2, ent 78 3 3] 4
theorem heap_set_new (w : World) (o o' : Obj) : ({ w.alloc o with heap := (w.alloc o).heap.setIfInBounds w.heap.size o' } : World) = w.alloc o' := by
  simp only [World.alloc]
  congr 1
  apply Array.ext'
  simp [Array.setIfInBounds, Array.toList_push]
set_option maxRecDepth 100000 in
theorem map_put (w : World) (es : Array MapEntry) (c : Nat) (k : Int) (v : Value) (hf : Instr.findNow (.int .i32) (.int .i32 k) es.toList 0 = some none) :
    (Instr.mapUpdate 96 (.map (some w.heap.size)) (.int .i32 k) v).run Tryz.prog (w.alloc (.map es c)) = .ok () (w.alloc (.map (es.push { key := .int .i32 k, val := v, born := c }) (c + 1))) := by
  have hb : (w.alloc (.map es c)).heap[w.heap.size]? = some (.map es c) := heap_alloc_new w _
  have hc : (Instr.checkKey false 10000 21 (.int .i32 k)).run Tryz.prog (w.alloc (.map es c)) = .ok () (w.alloc (.map es c)) := MapKept.run_checkKey (k := .int .i32 k) Tryz.underlying21 (by simp [MapKept.IsKey]) false 9999
  rw [← heap_set_new w (.map es c) (.map (es.push { key := .int .i32 k, val := v, born := c }) (c + 1))]
  simp [Instr.mapUpdate, run_underlying Tryz.underlying96, MapKept.run_getObj_map hb, hc, MapKept.run_findKey Tryz.underlying21 hf, MapKept.run_setObj_map _ hb, Result.andThen]

set_option maxRecDepth 100000 in
theorem places_any (w : World) : Calls Tryz.prog 46 #[] w fun e w' => e = .returned (.map (some w.heap.size)) ∧ w' = w.alloc placesO := by
  have hm := @run_makeMap Tryz.prog
  have h1 : (Instr.mapUpdate 96 (.map (some w.heap.size)) (.int .i32 65) (.int .i64 0)).run Tryz.prog (w.alloc (.map #[] 0)) = .ok () (w.alloc (.map #[ent 65 0 0] 1)) := map_put w #[] 0 65 (.int .i64 0) (by rfl)
  have h2 : (Instr.mapUpdate 96 (.map (some w.heap.size)) (.int .i32 66) (.int .i64 1)).run Tryz.prog (w.alloc (.map #[ent 65 0 0] 1)) = .ok () (w.alloc (.map #[ent 65 0 0, ent 66 1 1] 2)) := map_put w #[ent 65 0 0] 1 66 (.int .i64 1) (by rfl)
  have h3 : (Instr.mapUpdate 96 (.map (some w.heap.size)) (.int .i32 67) (.int .i64 2)).run Tryz.prog (w.alloc (.map #[ent 65 0 0, ent 66 1 1] 2)) = .ok () (w.alloc (.map #[ent 65 0 0, ent 66 1 1, ent 67 2 2] 3)) := map_put w #[ent 65 0 0, ent 66 1 1] 2 67 (.int .i64 2) (by rfl)
  have h4 : (Instr.mapUpdate 96 (.map (some w.heap.size)) (.int .i32 78) (.int .i64 3)).run Tryz.prog (w.alloc (.map #[ent 65 0 0, ent 66 1 1, ent 67 2 2] 3)) = .ok () (w.alloc (.map #[ent 65 0 0, ent 66 1 1, ent 67 2 2, ent 78 3 3] 4)) := map_put w #[ent 65 0 0, ent 66 1 1, ent 67 2 2] 3 78 (.int .i64 3) (by rfl)
  go_enter Tryz.func46, Tryz.ntmps46
  go_wp2
  go_ret
  exact ⟨rfl, rfl⟩

/-- Where a letter's number stands. -/
def placeL (c : UInt8) : Int := if c = 65 then 0 else if c = 66 then 1 else if c = 67 then 2 else 3
set_option maxRecDepth 100000 in
theorem map_get (w : World) (r : Nat) (hb : w.heap[r]? = some placesO) (c : UInt8) (hc : c = 65 ∨ c = 66 ∨ c = 67 ∨ c = 78) :
    (Instr.lookup 96 (.map (some r)) (.int .i32 c.toNat) false).run Tryz.prog w = .ok (.int .i64 (placeL c)) w := by
  have hc' : ∀ k : Int, (Instr.checkKey false 10000 21 (.int .i32 k)).run Tryz.prog w = .ok () w := fun k => MapKept.run_checkKey (k := .int .i32 k) Tryz.underlying21 (by simp [MapKept.IsKey]) false 9999
  have hf : ∃ i e, Instr.findNow (.int .i32) (.int .i32 c.toNat) [ent 65 0 0, ent 66 1 1, ent 67 2 2, ent 78 3 3] 0 = some (some (i, .int .i64 e)) ∧ e = placeL c := by
    rcases hc with rfl | rfl | rfl | rfl
    · exact ⟨0, 0, rfl, rfl⟩
    · exact ⟨1, 1, rfl, rfl⟩
    · exact ⟨2, 2, rfl, rfl⟩
    · exact ⟨3, 3, rfl, rfl⟩
  obtain ⟨i, e, hf, rfl⟩ := hf
  unfold placesO at hb
  simp [Instr.lookup, run_underlying Tryz.underlying96, MapKept.run_getObj_map hb, hc', MapKept.run_findKey Tryz.underlying21 hf, Result.andThen]
end Go.Proofs.YtcjhgibhenocpaaGreatDoor
