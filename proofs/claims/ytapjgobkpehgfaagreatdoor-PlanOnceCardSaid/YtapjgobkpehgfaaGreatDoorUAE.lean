/-
  What the document's numbers and lines take: texts of bytes, decimal digits, a call's own row of texts, the library's FormatInt.
  Rows that list four tables (layer 12): the table of operations and the powers of ten, out of what they list.
  Rows of structs of whatever cells: as they lie, in memory of the call's own, and as they grow.
  Facts, as the program keeps them: three truths each.
-/
import Derived.Test.YtapjgobkpehgfaaGreatDoorUAD
import Derived.Lib.LaidTab
import Derived.Lib.AppendIntMem
import Derived.WalkSpells

/- What the document's numbers and lines take: texts of bytes, decimal digits, a call's own row of texts, the library's FormatInt. -/
namespace Go.Proofs.YtapjgobkpehgfaaGreatDoor
set_option linter.unusedSimpArgs false
set_option linter.unusedVariables false
open Go.RowKit

theorem take_snoc (s : ByteArray) (k : Nat) (h : k < s.size) : s.data.toList.take (k + 1) = s.data.toList.take k ++ [s[k]] := by
  rw [List.take_succ_eq_append_getElem (by simpa using h)]; rfl
/-- The first k bytes are digits. -/
def DigTo (s : ByteArray) (k : Nat) : Prop := ∀ c ∈ s.data.toList.take k, digC c = true
theorem DigTo.next {s : ByteArray} {k : Nat} (h : DigTo s k) (hk : k < s.size) (hc : digC s[k] = true) : DigTo s (k + 1) := by
  intro c hm
  rw [take_snoc s k hk] at hm
  rcases List.mem_append.1 hm with h' | h'
  · exact h c h'
  · simp at h'; subst h'; exact hc
theorem digTo_zero (s : ByteArray) : DigTo s 0 := by intro c h; simp at h
theorem DigTo.all {s : ByteArray} (h : DigTo s s.size) : s.data.toList.all digC = true := by
  have e : s.data.toList.take s.size = s.data.toList := List.take_of_length_le (by rw [len_size]; exact Nat.le_refl _)
  rw [DigTo, e] at h
  exact List.all_eq_true.2 h
theorem not_dig {s : ByteArray} {k : Nat} (hk : k < s.size) (hc : digC s[k] = false) : s.data.toList.all digC = false := by
  rw [Bool.eq_false_iff]
  intro h
  have := List.all_eq_true.1 h s[k] (by
    have : s[k] = s.data.toList[k]'(by simpa using hk) := rfl
    rw [this]; exact List.getElem_mem _)
  rw [hc] at this
  exact absurd this (by decide)
theorem digC_cases (c : UInt8) : ((48 ≤ (c.toNat : Int) ∧ (c.toNat : Int) ≤ 57) ∧ digC c = true) ∨ (((c.toNat : Int) < 48 ∨ 57 < (c.toNat : Int)) ∧ digC c = false) := by
  by_cases h2 : 48 ≤ c.toNat ∧ c.toNat ≤ 57
  · left; refine ⟨by omega, ?_⟩; simp [digC, h2.1, h2.2]
  · right; refine ⟨by omega, ?_⟩
    simp only [digC, Bool.and_eq_false_iff, decide_eq_false_iff_not]
    omega
theorem ba_empty {d : ByteArray} (h : d.size = 0) : d = ⟨#[]⟩ := by
  obtain ⟨a⟩ := d
  congr 1
  exact Array.eq_empty_of_size_eq_zero h
theorem head_of {d : ByteArray} (h : 0 < d.size) : d.data.toList.head? = some d[0] := by
  rw [List.head?_eq_getElem?, List.getElem?_eq_getElem (by rw [len_size]; exact h)]
  rfl
/-- What isDecimal answers of digits d of the text s. -/
def decOf (s d : ByteArray) : Bool := !d.data.toList.isEmpty && d.data.toList.all digC && (d.data.toList.head? != some 48 || s.data.toList == [48])
theorem not_empty {d : ByteArray} (h : 0 < d.size) : d.data.toList.isEmpty = false := by
  rw [Bool.eq_false_iff]; intro e
  have := len_size d
  rw [List.isEmpty_iff.1 e] at this
  simp at this; omega
/-- What one line's words come to. -/
def StrPost (w : World) (l : Bs) (e : Ending) (w' : World) : Prop := e = .returned (str l) ∧ Below w.heap.size w w'
/-- A row of texts of the call's own. -/
def OwnS (w : World) (xs : List Bs) (e : Ending) (w' : World) : Prop := ∃ a c, e = .returned (.slice a xs.length c) ∧ w'.ownsRow w.heap.size 9 1 (.slice a xs.length c) xs.length (xs.map str) ∧ Below w.heap.size w w'
theorem Tryz.info9 : (Tryz.prog.info? 9).map (fun i => (i.zero, i.size, i.bytes)) = some (some (.string ByteArray.empty), 1, 16) := by kernel_rfl
/-- What is appended lies in a new block of one cell. -/
theorem one_cell (wr : World) (x : Value) (e : TypeId) : ∀ j u, [x][j]? = some u → (wr.alloc (.cells #[x] e)).cell? ((⟨wr.heap.size, 0, none⟩ : Addr).add j) = some u := by
  intro j u h
  rcases j with _ | j
  · simp at h; subst h
    simp only [Addr.add, World.cell?, if_pos, heap_alloc_new]
    simp
  · simp at h
theorem one_one (x : Bs) : ∀ u ∈ [str x], u.oneCell' = true := by
  intro u h; simp at h; subst h; rfl
theorem gP : Tryz.prog.globalNamed "internal/strconv.uint64pow10" = some 1 := by kernel_rfl
def HasT (w : World) : Prop := Lib.TabIs Tryz.prog w "internal/strconv.uint64pow10" .u64 Lib.pow10Tab
theorem HasT.below {w w' : World} (h : HasT w) (hb : Below w.heap.size w w') : HasT w' := by
  unfold HasT Lib.TabIs World.var? at h ⊢
  rw [gP] at h ⊢
  simp only [Option.bind_some] at h ⊢
  have hlt : 1 < w.heap.size := by
    rcases Nat.lt_or_ge 1 w.heap.size with h' | h'
    · exact h'
    · simp [Array.getElem?_eq_none h'] at h
  rw [hb.block 1 hlt]; exact h
theorem format_any (n : Int) (h0 : -9223372036854775808 ≤ n) (h1 : n ≤ 9223372036854775807) (w : World) (ht : HasT w) : Calls Tryz.prog 77 #[.int .i64 n, .int .i64 10] w (StrPost w (Lib.itoa n)) := by
  refine (Tryz.strconv_FormatInt_10 n h0 h1 w ht).mono ?_
  rintro e w' ⟨rfl, k, os, rfl⟩
  exact ⟨rfl, Lib.below_grow _ w (Nat.le_refl _) k os⟩
theorem grown_keep {w w' : World} {B n : Nat} {T : TypeId} {z : Nat} {v : Value} {xs : List Value} (ho : w.ownsRow B T z v n xs) (hg : w.grownBy w' v.ownBlock) {b : Nat} {ob : Obj} (hb : w.heap[b]? = some ob) (hne : ∀ cur, ob ≠ .cells cur T (0, 0)) : w'.heap[b]? = some ob := by
  rw [hg.block b (Array.getElem?_eq_some_iff.1 hb).1 ?_]; exact hb
  rcases ho.2 with ⟨rfl, _⟩ | ⟨g, cap, cur, rfl, _, hg', _⟩
  · simp [Value.ownBlock]
  · intro e
    simp [Value.ownBlock] at e
    subst e
    rw [hg'] at hb
    exact hne cur (Option.some.inj hb).symm
def wcells (i : PIns) (nm hs : Bs) (k : Nat) : List Value := str nm :: (hs.take k).map (fun c => str (Lib.itoa (partL i c)))
theorem wcells_next (i : PIns) (nm hs : Bs) (k : Nat) (c : UInt8) (h : hs[k]? = some c) : wcells i nm hs (k + 1) = wcells i nm hs k ++ [str (Lib.itoa (partL i c))] := by
  obtain ⟨hlt, rfl⟩ := List.getElem?_eq_some_iff.1 h
  unfold wcells
  rw [List.take_succ_eq_append_getElem hlt, List.map_append]; rfl
theorem wcells_all (i : PIns) (nm hs : Bs) : wcells i nm hs hs.length = (nm :: hs.map (fun c => Lib.itoa (partL i c))).map str := by
  unfold wcells; rw [List.take_length]; simp
theorem row_one (w : World) (x : Bs) : (w.alloc (.cells #[str x] 9)).ownsRow w.heap.size 9 1 (.slice (some ⟨w.heap.size, 0, none⟩) 1 1) 1 [str x] :=
  ⟨rfl, .inr ⟨w.heap.size, 1, #[str x], rfl, Nat.le_refl _, heap_alloc_new w _, Nat.le_refl _, by decide, rfl, rfl⟩⟩
/-- What the numbers read so far are. -/
def readTo (hs : Bs) (ws : List Bs) (i : PIns) (k : Nat) : Option PIns := readL (hs.take k) (ws.take k) i
theorem read_snoc : ∀ (hs : Bs) (ws : List Bs) (i j : PIns) (c : UInt8) (w : Bs), hs.length = ws.length → readL hs ws i = some j → readL (hs ++ [c]) (ws ++ [w]) i = if fitL c w then some (setL j c (numL w).1) else none
  | [], [], i, j, c, w, _, h => by
    have e : i = j := by simpa [readL] using h
    subst e
    show (if fitL c w = true then readL [] [] (setL i c (numL w).1) else none) = _
    rfl
  | [], _ :: _, _, _, _, _, h, _ => by simp at h
  | _ :: _, [], _, _, _, _, h, _ => by simp at h
  | a :: hs, x :: ws, i, j, c, w, hl, h => by
    obtain ⟨h1, h2⟩ := read_some h
    show (if fitL a x = true then readL (hs ++ [c]) (ws ++ [w]) (setL i a (numL x).1) else none) = _
    rw [if_pos h1]
    exact read_snoc hs ws _ j c w (by simpa using hl) h2
theorem read_bad : ∀ (hs r : Bs) (ws s : List Bs) (i : PIns), hs.length = ws.length → readL hs ws i = none → readL (hs ++ r) (ws ++ s) i = none
  | [], _, [], _, i, _, h => by simp [readL] at h
  | [], _, _ :: _, _, _, h, _ => by simp at h
  | _ :: _, _, [], _, _, h, _ => by simp at h
  | a :: hs, r, x :: ws, s, i, hl, h => by
    show (if fitL a x = true then readL (hs ++ r) (ws ++ s) (setL i a (numL x).1) else none) = none
    have h' : (if fitL a x = true then readL hs ws (setL i a (numL x).1) else none) = none := h
    by_cases hf : fitL a x = true
    · rw [if_pos hf] at h' ⊢
      exact read_bad hs r ws s _ (by simpa using hl) h'
    · rw [if_neg hf]
theorem readTo_next {hs : Bs} {ws : List Bs} {i j : PIns} {k : Nat} {c : UInt8} {w : Bs} (hl : hs.length = ws.length) (h : readTo hs ws i k = some j) (hc : hs[k]? = some c) (hw : ws[k]? = some w) (hf : fitL c w = true) :
    readTo hs ws i (k + 1) = some (setL j c (numL w).1) := by
  obtain ⟨h1, rfl⟩ := List.getElem?_eq_some_iff.1 hc
  obtain ⟨h2, rfl⟩ := List.getElem?_eq_some_iff.1 hw
  unfold readTo at h ⊢
  rw [List.take_succ_eq_append_getElem h1, List.take_succ_eq_append_getElem h2, read_snoc _ _ i j _ _ (by simp; omega) h, if_pos hf]
theorem readTo_bad {hs : Bs} {ws : List Bs} {i j : PIns} {k : Nat} {c : UInt8} {w : Bs} (hl : hs.length = ws.length) (h : readTo hs ws i k = some j) (hc : hs[k]? = some c) (hw : ws[k]? = some w) (hf : fitL c w = false) :
    readL hs ws i = none := by
  obtain ⟨h1, rfl⟩ := List.getElem?_eq_some_iff.1 hc
  obtain ⟨h2, rfl⟩ := List.getElem?_eq_some_iff.1 hw
  have : readTo hs ws i (k + 1) = none := by
    unfold readTo at h ⊢
    rw [List.take_succ_eq_append_getElem h1, List.take_succ_eq_append_getElem h2, read_snoc _ _ i j _ _ (by simp; omega) h, if_neg (by rw [hf]; simp)]
  unfold readTo at this
  have := read_bad _ (hs.drop (k + 1)) _ (ws.drop (k + 1)) i (by simp; omega) this
  rwa [List.take_append_drop, List.take_append_drop] at this
theorem readTo_all {hs : Bs} {ws : List Bs} {i : PIns} (hl : hs.length = ws.length) : readTo hs ws i hs.length = readL hs ws i := by
  unfold readTo; rw [List.take_length, hl, List.take_length]
def InstrPost (w : World) (r : Option PIns) (e : Ending) (w' : World) : Prop :=
  e = .returned (match r with
    | some i => .tuple #[.agg (insC i), .bool true]
    | none => .tuple #[.agg zeroC, .bool false]) ∧ Below w.heap.size w w'
theorem zero_one : zeroC.all (·.oneCell') = true := all_oneCell_toArray (cs := zeroC.toList) (by intro v h; simp at h; rcases h with rfl | rfl <;> rfl)
theorem ins_one (i : PIns) : (insC i).all (·.oneCell') = true := all_oneCell_toArray (cs := (insC i).toList) (by intro v h; simp at h; rcases h with rfl | rfl | rfl | rfl | rfl <;> rfl)
theorem instrL_cons {x : Bs} {ws : List Bs} {op : Int} {hs : Bs} (hb : byNameL x = some (op, x, hs)) (hl : ws.length = hs.length) : instrL (x :: ws) = readL hs ws ⟨op, 0, 0, 0, 0⟩ := by
  unfold instrL
  rw [List.headD_cons, hb]
  simp only [List.length_cons, List.tail_cons]
  rw [if_pos (by omega)]
theorem mayL_len {y : Bs} (h : mayL y = true) : y.length ≤ 30 := by
  unfold mayL at h
  exact of_decide_eq_true (Bool.and_eq_true_iff.1 h).1
theorem itoa_len {v : Int} (h0 : -9223372036854775808 ≤ v) (h1 : v ≤ 9223372036854775807) : (Lib.itoa v).length ≤ 20 := by
  have h := num_itoa v h0 h1
  have hd := h.2
  rcases Nat.lt_or_ge 19 (trimL (Lib.itoa v)).length with hl | hl
  · have := num_long hd hl
    rw [h.1] at this
    exact absurd (Prod.mk.inj this).2 (by decide)
  · have : (Lib.itoa v).length ≤ (trimL (Lib.itoa v)).length + 1 := by
      unfold trimL
      cases Lib.itoa v with
      | nil => simp
      | cons c r => simp only; split <;> simp
    omega
end Go.Proofs.YtapjgobkpehgfaaGreatDoor

/- Rows that list four tables (layer 12): the table of operations and the powers of ten, out of what they list. -/
namespace Go.Proofs.YtapjgobkpehgfaaGreatDoor
set_option linter.unusedSimpArgs false
set_option linter.unusedVariables false
open Go.RowKit

abbrev laidA : List (String × DataW Unit) := Rows.planFitsRow.laid
set_option maxRecDepth 100000 in
theorem laidA_met (os : Os) (args : Array Value) : laidMetH Tryz.prog laidA ((World.laidAll Tryz.prog os laidA).forCall (fun _ _ => 0) ⟨#[], args, []⟩).memory := by
  rw [MakeChecks.laidMetH_plain _ _ _ (by kernel_rfl)]
  exact laidMet_laidAll _ (by kernel_rfl) (by kernel_rfl)

set_option maxRecDepth 100000 in
theorem hasOA_of {W : World} (h : laidMetH Tryz.prog laidA W) : HasO W := by
  rw [MakeChecks.laidMetH_plain _ _ _ (by kernel_rfl)] at h
  obtain ⟨ps, ⟨g0, t0, cs0, f0, p0, q0, hg0, ht0, hv0, hd0, _, e0⟩, _, hrows⟩ := h.tail.tail.tail
  obtain rfl := Option.some.inj (gO.symm.trans hg0)
  obtain rfl := Option.some.inj (gOt.symm.trans ht0)
  obtain ⟨xs, m, hm, hx, hy, hl, hi⟩ := DataW.trod_array Tryz.underlying146 hd0
  rw [ops_data] at hx
  have hxs : OPS.map opData = xs.map (·.1) := by have := (Prod.mk.inj hx).1; simpa using this
  have hcs : cs0.toList = opsCells := by
    refine chunks OPS cs0.toList (by rw [hy]; kernel_rfl) (fun i o ho => ?_)
    have hi15 : i < 15 := (List.getElem?_eq_some_iff.1 ho).1
    have h1 := hi i hi15
    rw [cellsOf_oper, List.getElem?_eq_getElem (by omega)] at h1
    refine oper_of h1 ?_
    have h2 := congrArg (fun l => l[i]?) hxs
    simp only [List.getElem?_map, ho, Option.map_some] at h2
    rw [List.getElem?_eq_getElem (by omega)] at h2
    simpa using h2.symm
  have hcell := fun off => World.var?_cell gO hv0 off
  refine ⟨fun j v hv => ?_, ?_⟩
  · rw [← hcs] at hv
    rw [Nat.zero_add]
    have := hcell j
    rw [this]
    simpa using hv
  · have := hcell 0
    have h0 : cs0[0]? = some (.int .u8 1) := by
      have : cs0.toList[0]? = some (.int .u8 1) := by rw [hcs]; rfl
      simpa using this
    rw [h0] at this
    exact World.block_lt_of_cell? _ _ this

theorem hasTA_of {W : World} (h : laidMetH Tryz.prog laidA W) : HasT W := by
  rw [MakeChecks.laidMetH_plain _ _ _ (by kernel_rfl)] at h
  have e : (Rows.laid_internal_strconv_uint64pow10 : DataW Unit) = Lib.tabData .u64 Lib.pow10Tab := by kernel_rfl
  have h3 : laidMet Tryz.prog (("internal/strconv.uint64pow10", Rows.laid_internal_strconv_uint64pow10) :: laidA.tail.tail.tail) W := h.tail.tail
  rw [e] at h3
  exact Lib.tabIs_of_head gP (by kernel_rfl : (Tryz.prog.globals[1]?).map (·.type) = some 157) Tryz.underlying157 Tryz.underlying119 (by kernel_rfl) (by kernel_rfl) h3
end Go.Proofs.YtapjgobkpehgfaaGreatDoor

/- Rows of structs of whatever cells: as they lie, in memory of the call's own, and as they grow. -/
namespace Go.Proofs.YtapjgobkpehgfaaGreatDoor
set_option linter.unusedSimpArgs false
set_option linter.unusedVariables false
open Go.RowKit

section
variable {α : Type} (c : α → List Value) (n : Nat)
/-- A slice of structs, wherever it lies: each one's n cells one behind the other. -/
def RowS (w : World) (v : Value) (l : List α) : Prop :=
  ∃ a cap, v = .slice a l.length cap ∧ l.length ≤ cap ∧ cap ≤ maxLen ∧ ∀ j x, l[j]? = some x → ∃ b o, a = some ⟨b, o, none⟩ ∧ b < w.heap.size ∧ w.rangeAt b (o + j * n) (c x)
def cellsS (l : List α) : List Value := l.flatMap c
end
section
variable {α : Type} {c : α → List Value} {n : Nat}
theorem RowS.below {w w' : World} {v : Value} {l : List α} (h : RowS c n w v l) (hb : Below w.heap.size w w') : RowS c n w' v l := by
  obtain ⟨a, cap, rfl, h1, h2, h3⟩ := h
  refine ⟨a, cap, rfl, h1, h2, fun j x hj => ?_⟩
  obtain ⟨b, o, rfl, hlt, hr⟩ := h3 j x hj
  exact ⟨b, o, rfl, Nat.lt_of_lt_of_le hlt hb.size, rangeAt_below hr hlt hb⟩
theorem RowS.form {w : World} {v : Value} {l : List α} (h : RowS c n w v l) : ∃ a cap, v = .slice a l.length cap ∧ l.length ≤ cap ∧ cap ≤ 9223372036854775807 := by
  obtain ⟨a, cap, rfl, h1, h2, -⟩ := h
  unfold maxLen at h2
  exact ⟨a, cap, rfl, h1, by omega⟩
/-- One of them. -/
theorem RowS.at' {w : World} {a : Option Addr} {m cap : Nat} {l : List α} (h : RowS c n w (.slice a m cap) l) {k : Nat} {x : α} (hk : l[k]? = some x) : ∃ b o, a = some ⟨b, o, none⟩ ∧ b < w.heap.size ∧ w.rangeAt b (o + k * n) (c x) := by
  obtain ⟨a', cap', e, -, -, h3⟩ := h
  simp only [Value.slice.injEq] at e
  obtain ⟨rfl, -, -⟩ := e
  exact h3 k x hk
theorem rowS_nil (w : World) : RowS c n w (.slice none 0 0) ([] : List α) := ⟨none, 0, rfl, Nat.le_refl _, Nat.zero_le _, fun j x hj => by simp at hj⟩
theorem RowS.take {w : World} {a : Option Addr} {m k cap : Nat} {l : List α} (h : RowS c n w (.slice a m cap) l) (hk : k ≤ l.length) : RowS c n w (.slice a k cap) (l.take k) := by
  obtain ⟨a', cap', e, h1, h2, h3⟩ := h
  simp only [Value.slice.injEq] at e
  obtain ⟨rfl, -, rfl⟩ := e
  refine ⟨a, cap, by rw [List.length_take, Nat.min_eq_left hk], by rw [List.length_take]; omega, h2, fun j x hj => h3 j x ?_⟩
  rw [List.getElem?_take] at hj
  split at hj
  · exact hj
  · cases hj
theorem cellsS_app (l m : List α) : cellsS c (l ++ m) = cellsS c l ++ cellsS c m := by unfold cellsS; simp
theorem cellsS_one (x : α) : cellsS c [x] = c x := by unfold cellsS; simp
theorem cellsS_len (hc : ∀ x, (c x).length = n) (l : List α) : (cellsS c l).length = l.length * n := by
  induction l with
  | nil => simp [cellsS]
  | cons a r ih =>
    unfold cellsS at ih ⊢
    rw [List.flatMap_cons, List.length_append, ih, hc, List.length_cons, Nat.add_mul]
    omega
theorem cellsS_get (hc : ∀ x, (c x).length = n) : ∀ (l : List α) (j : Nat) (x : α) (t : Nat) (v : Value), l[j]? = some x → (c x)[t]? = some v → (cellsS c l)[j * n + t]? = some v
  | [], _, _, _, _, h, _ => by simp at h
  | a :: r, 0, x, t, v, h, hv => by
    simp at h; subst h
    unfold cellsS; rw [List.flatMap_cons, Nat.zero_mul, Nat.zero_add]
    rw [List.getElem?_append_left (List.getElem?_eq_some_iff.1 hv).1]; exact hv
  | a :: r, j + 1, x, t, v, h, hv => by
    have ih := cellsS_get hc r j x t v (by simpa using h) hv
    unfold cellsS at ih ⊢
    have e : (j + 1) * n + t = n + (j * n + t) := by rw [Nat.add_mul]; omega
    rw [List.flatMap_cons, e, List.getElem?_append_right (by rw [hc]; omega), hc, Nat.add_sub_cancel_left]
    exact ih
theorem cellsS_inv (hc : ∀ x, (c x).length = n) : ∀ (l : List α) (j : Nat) (u : Value), (cellsS c l)[j]? = some u → ∃ x, l[j / n]? = some x ∧ (c x)[j % n]? = some u
  | [], j, u, h => by simp [cellsS] at h
  | a :: r, j, u, h => by
    unfold cellsS at h
    rw [List.flatMap_cons] at h
    by_cases hj : j < n
    · rw [List.getElem?_append_left (by rw [hc]; exact hj)] at h
      exact ⟨a, by rw [Nat.div_eq_of_lt hj]; rfl, by rw [Nat.mod_eq_of_lt hj]; exact h⟩
    · rw [List.getElem?_append_right (by rw [hc]; omega), hc] at h
      obtain ⟨x, h1, h2⟩ := cellsS_inv hc r (j - n) u h
      have hn : 0 < n := by
        rcases Nat.eq_zero_or_pos n with h0 | h0
        · subst h0
          have := List.length_eq_zero_iff.1 (hc x)
          rw [this] at h2; simp at h2
        · exact h0
      refine ⟨x, ?_, ?_⟩
      · rw [Nat.div_eq_sub_div hn (by omega)]; simpa using h1
      · rw [Nat.mod_eq_sub_mod (by omega)]; exact h2
/-- In memory of the call's own. -/
theorem rowS_own {w : World} {B : Nat} {e : TypeId} {v : Value} {l : List α} (hc : ∀ x, (c x).length = n) (h : w.ownsRow B e n v l.length (cellsS c l)) : RowS c n w v l := by
  rcases h.2 with ⟨rfl, h0⟩ | ⟨g, cap, cur, rfl, hB, hg, h1, h2, h3, h4⟩
  · have : l = [] := List.length_eq_zero_iff.1 h0
    subst this
    exact rowS_nil w
  · refine ⟨some ⟨g, 0, none⟩, cap, rfl, h1, h2, fun j x hj => ⟨g, 0, rfl, (Array.getElem?_eq_some_iff.1 hg).1, fun t v hv => ?_⟩⟩
    have := cellsS_get hc l j x t v hj hv
    rw [← h4, List.getElem?_take] at this
    have hx : cur.toList[j * n + t]? = some v := by
      split at this
      · exact this
      · cases this
    simp only [World.cell?, hg, Nat.zero_add]
    simpa using hx
/-- In a block of its own. -/
theorem rowS_blk {w : World} {g : Nat} {cs : Array Value} {t : TypeId} {l : List α} (hc : ∀ x, (c x).length = n) (h : blk w g cs t) (he : cs.toList = cellsS c l) (hl : l.length ≤ maxLen) : RowS c n w (.slice (some ⟨g, 0, none⟩) l.length l.length) l := by
  refine ⟨some ⟨g, 0, none⟩, l.length, rfl, Nat.le_refl _, hl, fun j x hj => ⟨g, 0, rfl, blk_lt h, fun t v hv => ?_⟩⟩
  have := cellsS_get hc l j x t v hj hv
  rw [← he] at this
  rw [Nat.zero_add]
  exact blk_cell h _ v (by simpa using this)
theorem cellsS_all (h1 : ∀ x, ∀ u ∈ c x, u.oneCell' = true) (l : List α) : ∀ u ∈ cellsS c l, u.oneCell' = true := fun u hu => by
  unfold cellsS at hu
  obtain ⟨x, _, hx⟩ := List.mem_flatMap.1 hu
  exact h1 x u hx
/-- An append to a row of the call's own: its run. -/
theorem appendS_run {w : World} {T e : TypeId} {z : Value} {bytes : Nat} (hT : Tryz.prog.underlying T = some (.slice e)) (hi : ∃ i, Tryz.prog.info? e = some i ∧ i.zero = some z ∧ i.size = n ∧ i.bytes = bytes) (hz : z.cells.size = n) (hn : 0 < n) (hb : bytes ≤ 1000)
    (hc : ∀ x, (c x).length = n) (h1 : ∀ x, ∀ u ∈ c x, u.oneCell' = true) (base : Nat) (v : Value) (l js : List α) (hown : w.ownsRow base e n v l.length (cellsS c l)) (ad : Addr) (cap : Nat) (hsrc : RowS c n w (.slice (some ad) js.length cap) js) (h63 : l.length + js.length ≤ 1000000) (hbase : base ≤ w.heap.size) (ty : TypeId) :
    ∃ v' w', (Builtin.append_ #[T, T] ty #[v, .slice (some ad) js.length cap]).run Tryz.prog w = .ok v' w' ∧ w'.ownsRow base e n v' (l ++ js).length (cellsS c (l ++ js)) ∧ Below base w w' := by
  obtain ⟨i0, q1, q2, q3, q4⟩ := hi
  have hby : (l.length + js.length) * bytes ≤ 140737488355328 := by
    have : (l.length + js.length) * bytes ≤ 1000000 * 1000 := Nat.mul_le_mul h63 hb
    omega
  obtain ⟨v', w', hr, h2, h3, -⟩ := run_append_own (P := Tryz.prog) w base T ty e i0 z n bytes hT q1 q2 q3 q4 hz hn v l.length (cellsS c l) hown ad js.length cap (cellsS c js) (cellsS_len hc js) (fun j y hy => by
    obtain ⟨x, k1, k2⟩ := cellsS_inv hc js j y hy
    obtain ⟨b, off, e1, _, hr⟩ := hsrc.at' k1
    obtain rfl := Option.some.inj e1
    rw [plain_addr]
    have := hr (j % n) y k2
    rw [show off + j / n * n + j % n = off + j by rw [Nat.add_assoc, Nat.mul_comm, Nat.div_add_mod]] at this
    exact this) (cellsS_all h1 js) (by unfold maxLen; omega) hby hbase
  exact ⟨v', w', hr, by rw [List.length_append, cellsS_app]; exact h2, (Below.refl base w).grown h3 hbase (fun g hg => (hown.lt g hg).1)⟩
/-- 'append(l, js...)': l is a row of the call's own, js wherever it lies. -/
theorem wpList_appendS {w : World} {ops : Array Oper} {rest : List Oper} {o : Oper} {a : Act} {Q : Exit → Act → World → Prop} (hw : Region.wanted o (yielded ops a.tmps) = true) (s x : Operand) {T e : TypeId}
    (ho : o.op = .call { callee := .builtin .append, args := #[s, x], argTypes := #[T, T] }) {z : Value} {bytes : Nat} (hT : Tryz.prog.underlying T = some (.slice e)) (hi : ∃ i, Tryz.prog.info? e = some i ∧ i.zero = some z ∧ i.size = n ∧ i.bytes = bytes) (hz : z.cells.size = n) (hn : 0 < n) (hb : bytes ≤ 1000)
    (hc : ∀ x, (c x).length = n) (h1 : ∀ x, ∀ u ∈ c x, u.oneCell' = true) (base : Nat) (v : Value) (l js : List α) (hs : a.eval s = v) (hown : w.ownsRow base e n v l.length (cellsS c l)) (u : Value) (hx : a.eval x = u) (hsrc : RowS c n w u js) (hform : FormS u) (h63 : l.length + js.length ≤ 1000000) (hbase : base ≤ w.heap.size)
    (h : ∀ v' w', w'.ownsRow base e n v' (l ++ js).length (cellsS c (l ++ js)) → Below base w w' → wpList Tryz.prog ops Q rest (a.put o.dst v') w') : wpList Tryz.prog ops Q (o :: rest) a w := by
  rcases hform with rfl | ⟨ad, m, cp, rfl⟩
  · obtain ⟨a0, c0, e0, _, _, _⟩ := hsrc
    simp only [Value.slice.injEq] at e0
    have hn0 : js = [] := List.length_eq_zero_iff.1 e0.2.1.symm
    subst hn0
    obtain ⟨i0, q1, q2, q3, q4⟩ := hi
    refine BigFrame.wpList_want hw fun K hK => ?_
    have hrun := run_append_owned_none (P := Tryz.prog) (w := w) base T o.type e i0 n hT q1 v l.length (cellsS c l) hown
    unfold Oper.wp
    simp [execOp, ho, resolve, invoke, builtin, hs, hx, hrun, Result.andThen]
    exact hK _ _ (h v w (by simpa using hown) (Below.refl _ _))
  · have hm : m = js.length := by
      obtain ⟨a0, c0, e0, _, _, _⟩ := hsrc
      simp only [Value.slice.injEq] at e0
      exact e0.2.1
    subst hm
    obtain ⟨v', w', hr, h2, h3⟩ := appendS_run hT hi hz hn hb hc h1 base v l js hown ad cp hsrc h63 hbase o.type
    refine BigFrame.wpList_want hw fun K hK => ?_
    unfold Oper.wp execOp
    simp only [ho, resolve, invoke, builtin, Sem.run_bind, Sem.run_pure, Result.andThen_ok, List.map_toArray, List.map_cons, List.map_nil, hs, hx, hr]
    exact hK _ _ (h v' w' h2 h3)
end
end Go.Proofs.YtapjgobkpehgfaaGreatDoor

/- Facts, as the program keeps them: three truths each. -/
namespace Go.Proofs.YtapjgobkpehgfaaGreatDoor
set_option linter.unusedSimpArgs false
set_option linter.unusedVariables false
open Go.RowKit

/-- What may be left out at a place. -/
structure PFact where
  st : Bool
  ra : Bool
  pl : Bool
deriving DecidableEq
def noFact : PFact := ⟨false, false, false⟩
/-- One list of facts leaves out no more than another one. -/
def leFact (x y : PFact) : Bool := (!x.st || y.st) && (!x.ra || y.ra) && (!x.pl || y.pl)
def fitsL (l : List PFact) (best : List PFact) : Bool := decide (l.length = best.length) && (List.range l.length).all fun k => leFact (l.getD k noFact) (best.getD k noFact)
def savedS (l : List PFact) : Nat := l.countP (·.st)
def savedR (l : List PFact) : Nat := l.countP (·.ra)
def savedP (l : List PFact) : Nat := l.countP (·.pl)
/-- P12.3. -/
theorem saved_app (a b : List PFact) : savedS (a ++ b) = savedS a + savedS b ∧ savedR (a ++ b) = savedR a + savedR b ∧ savedP (a ++ b) = savedP a + savedP b := by
  unfold savedS savedR savedP
  simp [List.countP_append]
theorem saved_le (a : List PFact) : savedS a ≤ a.length ∧ savedR a ≤ a.length ∧ savedP a ≤ a.length := ⟨List.countP_le_length, List.countP_le_length, List.countP_le_length⟩
/-- P12.2: all that may be left out fits. -/
theorem leFact_refl (x : PFact) : leFact x x = true := by unfold leFact; rcases x with ⟨_ | _, _ | _, _ | _⟩ <;> rfl
theorem fits_iff {l best : List PFact} : fitsL l best = true ↔ l.length = best.length ∧ ∀ k, k < l.length → leFact (l.getD k noFact) (best.getD k noFact) = true := by
  unfold fitsL
  simp only [Bool.and_eq_true, decide_eq_true_eq, List.all_eq_true, List.mem_range]
theorem fits_self (best : List PFact) : fitsL best best = true := fits_iff.2 ⟨rfl, fun k _ => leFact_refl _⟩

/-! ### As they lie -/
def factC (f : PFact) : List Value := [.bool f.st, .bool f.ra, .bool f.pl]
theorem factC_len (f : PFact) : (factC f).length = 3 := rfl
theorem factC_one (f : PFact) : ∀ u ∈ factC f, u.oneCell' = true := by
  intro u hu
  unfold factC at hu
  simp at hu
  rcases hu with rfl | rfl | rfl <;> rfl
/-- A slice of facts. -/
abbrev FactsAt (w : World) (v : Value) (l : List PFact) : Prop := RowS factC 3 w v l
/-- One of them, cell by cell. -/
theorem facts_cell {w : World} {a : Option Addr} {m cap : Nat} {l : List PFact} (h : FactsAt w (.slice a m cap) l) {k : Nat} {x : PFact} (hk : l[k]? = some x) :
    ∃ b o, a = some ⟨b, o, none⟩ ∧ w.cell? ⟨b, o + k * 3, none⟩ = some (.bool x.st) ∧ w.cell? ⟨b, o + k * 3 + 1, none⟩ = some (.bool x.ra) ∧ w.cell? ⟨b, o + k * 3 + 2, none⟩ = some (.bool x.pl) := by
  obtain ⟨b, o, rfl, _, hr⟩ := h.at' hk
  exact ⟨b, o, rfl, hr 0 _ rfl, hr 1 _ rfl, hr 2 _ rfl⟩
/-! ### A row of the call's own, into which is written -/
abbrev zeroF : Array Value := #[.bool false, .bool false, .bool false]
theorem infoF : (Tryz.prog.info? 35).map (fun i => (i.zero, i.size, i.bytes)) = some (some (.agg zeroF), 3, 3) := by kernel_rfl
theorem infoF' : ∃ i, Tryz.prog.info? 35 = some i ∧ i.zero = some (.agg zeroF) ∧ i.size = 3 ∧ i.bytes = 3 := info_parts infoF
def putF (f : PFact) (t : Nat) (b : Bool) : PFact := match t with
  | 0 => { f with st := b }
  | 1 => { f with ra := b }
  | _ => { f with pl := b }
theorem cells_put {l : List PFact} {k t : Nat} {f : PFact} {b : Bool} (hk : l[k]? = some f) (ht : t < 3) : (cellsS factC l).set (k * 3 + t) (.bool b) = cellsS factC (l.set k (putF f t b)) := by
  induction l generalizing k with
  | nil => simp at hk
  | cons x r ih =>
    cases k with
    | zero =>
      obtain rfl := Option.some.inj hk
      unfold cellsS
      rw [List.flatMap_cons, List.set_cons_zero, List.flatMap_cons]
      rcases (by omega : t = 0 ∨ t = 1 ∨ t = 2) with rfl | rfl | rfl <;> rfl
    | succ k =>
      have := ih (k := k) (by simpa using hk)
      unfold cellsS at this ⊢
      rw [List.flatMap_cons, List.set_cons_succ, List.flatMap_cons, ← this]
      rw [show (k + 1) * 3 + t = (k * 3 + t) + 1 + 1 + 1 by omega]
      rfl
structure MixW (w wr : World) (g cap : Nat) (l : List PFact) : Prop where
  below : Below w.heap.size w wr
  row : ∃ cur, blk wr g cur 35 ∧ cur.size = cap * 3 ∧ cur.toList.take (l.length * 3) = cellsS factC l
  hB : w.heap.size ≤ g
  hc : l.length ≤ cap
  hm : cap ≤ maxLen
section
variable {w wr w' : World} {g cap : Nat} {l : List PFact}
theorem MixW.own (h : MixW w wr g cap l) : wr.ownsRow w.heap.size 35 3 (.slice (some ⟨g, 0, none⟩) l.length cap) l.length (cellsS factC l) := by
  obtain ⟨cur, h1, h2, h3⟩ := h.row
  exact ⟨cellsS_len factC_len l, .inr ⟨g, cap, cur, rfl, h.hB, h1, h.hc, h.hm, h2, h3⟩⟩
theorem MixW.facts (h : MixW w wr g cap l) : FactsAt wr (.slice (some ⟨g, 0, none⟩) l.length cap) l := rowS_own factC_len h.own
theorem MixW.next (h : MixW w wr g cap l) (hb : Below wr.heap.size wr w') : MixW w w' g cap l := by
  obtain ⟨cur, h1, h2, h3⟩ := h.row
  exact ⟨h.below.trans (hb.mono h.below.size), ⟨cur, blk_below h1 hb, h2, h3⟩, h.hB, h.hc, h.hm⟩
theorem MixW.of_own {v : Value} (hb : Below w.heap.size w wr) (ho : wr.ownsRow w.heap.size 35 3 v l.length (cellsS factC l)) (hl : 0 < l.length) : ∃ g cap, v = .slice (some ⟨g, 0, none⟩) l.length cap ∧ l.length ≤ cap ∧ cap ≤ 9223372036854775807 ∧ MixW w wr g cap l := by
  rcases ho.2 with ⟨-, h0⟩ | ⟨g, cap, cur, rfl, h1, h2, h3, h4, h5, h6⟩
  · omega
  · exact ⟨g, cap, rfl, h3, by unfold maxLen at h4; omega, hb, ⟨cur, h2, h5, h6⟩, h1, h3, h4⟩
theorem MixW.set (h : MixW w wr g cap l) {k t : Nat} {f : PFact} (b : Bool) (hk : l[k]? = some f) (ht : t < 3) : MixW w (wr.setCell ⟨g, k * 3 + t, none⟩ (.bool b)) g cap (l.set k (putF f t b)) := by
  obtain ⟨cur, h1, h2, h3⟩ := h.row
  have hkl := (List.getElem?_eq_some_iff.1 hk).1
  rw [setCell_putB h1]
  refine ⟨h.below.trans (putB_below _ h.hB _ _), ⟨_, putB_at h1 _ _, by rw [Array.size_setIfInBounds]; exact h2, ?_⟩, h.hB, by rw [List.length_set]; exact h.hc, h.hm⟩
  rw [List.length_set, Array.toList_setIfInBounds, List.take_set, h3, cells_put hk ht]
theorem MixW.cell (h : MixW w wr g cap l) {k : Nat} {f : PFact} (hk : l[k]? = some f) : wr.cell? ⟨g, k * 3, none⟩ = some (.bool f.st) ∧ wr.cell? ⟨g, k * 3 + 1, none⟩ = some (.bool f.ra) ∧ wr.cell? ⟨g, k * 3 + 2, none⟩ = some (.bool f.pl) ∧ ∀ j, wr.frozen? ⟨g, j, none⟩ = false := by
  obtain ⟨b, o, e, q0, q1, q2⟩ := facts_cell h.facts hk
  simp only [Option.some.injEq, Addr.mk.injEq] at e
  obtain ⟨rfl, rfl, -⟩ := e
  rw [Nat.zero_add] at q0 q1 q2
  obtain ⟨cur, h1, -, -⟩ := h.row
  exact ⟨q0, q1, q2, fun j => blk_frozen h1 j⟩
end
end Go.Proofs.YtapjgobkpehgfaaGreatDoor
