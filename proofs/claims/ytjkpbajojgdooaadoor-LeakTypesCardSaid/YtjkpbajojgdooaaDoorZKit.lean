/-
  What the document's numbers and lines take: texts of bytes, decimal digits, a call's own row of texts, the library's FormatInt.
-/
import Derived.Test.YtjkpbajojgdooaaDoorBApp
import Derived.Test.YtjkpbajojgdooaaDoorShelf
import Derived.Lib.LaidTab
import Derived.Lib.AppendIntMem
import Derived.WalkSpells
namespace Go.Proofs.YtjkpbajojgdooaaDoor
set_option linter.unusedSimpArgs false
set_option linter.unusedVariables false
open Go.RowKit

theorem take_snoc (s : ByteArray) (k : Nat) (h : k < s.size) : s.data.toList.take (k + 1) = s.data.toList.take k ++ [s[k]] := by
  rw [List.take_succ_eq_append_getElem (by simpa using h)]; rfl
/-- The first k bytes are digits. -/
def DigTo (s : ByteArray) (k : Nat) : Prop := ∀ c ∈ s.data.toList.take k, digC c = true
theorem DigTo.next {s : ByteArray} {k : Nat} (h : DigTo s k) (hk : k < s.size) (hc : digC s[k] = true) : DigTo s (k + 1) := by
  intro c hm
  rw [take_snoc s k hk] at hm
  rcases List.mem_append.1 hm with h' | h'
  · exact h c h'
  · simp at h'; subst h'; exact hc
theorem digTo_zero (s : ByteArray) : DigTo s 0 := by intro c h; simp at h
theorem DigTo.all {s : ByteArray} (h : DigTo s s.size) : s.data.toList.all digC = true := by
  have e : s.data.toList.take s.size = s.data.toList := List.take_of_length_le (by rw [len_size]; exact Nat.le_refl _)
  rw [DigTo, e] at h
  exact List.all_eq_true.2 h
theorem not_dig {s : ByteArray} {k : Nat} (hk : k < s.size) (hc : digC s[k] = false) : s.data.toList.all digC = false := by
  rw [Bool.eq_false_iff]
  intro h
  have := List.all_eq_true.1 h s[k] (by
    have : s[k] = s.data.toList[k]'(by simpa using hk) := rfl
    rw [this]; exact List.getElem_mem _)
  rw [hc] at this
  exact absurd this (by decide)
theorem digC_cases (c : UInt8) : ((48 ≤ (c.toNat : Int) ∧ (c.toNat : Int) ≤ 57) ∧ digC c = true) ∨ (((c.toNat : Int) < 48 ∨ 57 < (c.toNat : Int)) ∧ digC c = false) := by
  by_cases h2 : 48 ≤ c.toNat ∧ c.toNat ≤ 57
  · left; refine ⟨by omega, ?_⟩; simp [digC, h2.1, h2.2]
  · right; refine ⟨by omega, ?_⟩
    simp only [digC, Bool.and_eq_false_iff, decide_eq_false_iff_not]
    omega
theorem ba_empty {d : ByteArray} (h : d.size = 0) : d = ⟨#[]⟩ := by
  obtain ⟨a⟩ := d
  congr 1
  exact Array.eq_empty_of_size_eq_zero h
theorem head_of {d : ByteArray} (h : 0 < d.size) : d.data.toList.head? = some d[0] := by
  rw [List.head?_eq_getElem?, List.getElem?_eq_getElem (by rw [len_size]; exact h)]
  rfl
/-- What isDecimal answers of digits d of the text s. -/
def decOf (s d : ByteArray) : Bool := !d.data.toList.isEmpty && d.data.toList.all digC && (d.data.toList.head? != some 48 || s.data.toList == [48])
theorem not_empty {d : ByteArray} (h : 0 < d.size) : d.data.toList.isEmpty = false := by
  rw [Bool.eq_false_iff]; intro e
  have := len_size d
  rw [List.isEmpty_iff.1 e] at this
  simp at this; omega
/-- What one line's words come to. -/
def StrPost (w : World) (l : Bs) (e : Ending) (w' : World) : Prop := e = .returned (str l) ∧ Below w.heap.size w w'
/-- A row of texts of the call's own. -/
def OwnS (w : World) (xs : List Bs) (e : Ending) (w' : World) : Prop := ∃ a c, e = .returned (.slice a xs.length c) ∧ w'.ownsRow w.heap.size 9 1 (.slice a xs.length c) xs.length (xs.map str) ∧ Below w.heap.size w w'
theorem Tryd.info9 : (Tryd.prog.info? 9).map (fun i => (i.zero, i.size, i.bytes)) = some (some (.string ByteArray.empty), 1, 16) := by kernel_rfl
/-- What is appended lies in a new block of one cell. -/
theorem one_cell (wr : World) (x : Value) (e : TypeId) : ∀ j u, [x][j]? = some u → (wr.alloc (.cells #[x] e)).cell? ((⟨wr.heap.size, 0, none⟩ : Addr).add j) = some u := by
  intro j u h
  rcases j with _ | j
  · simp at h; subst h
    simp only [Addr.add, World.cell?, if_pos, heap_alloc_new]
    simp
  · simp at h
theorem one_one (x : Bs) : ∀ u ∈ [str x], u.oneCell' = true := by
  intro u h; simp at h; subst h; rfl
theorem gP : Tryd.prog.globalNamed "internal/strconv.uint64pow10" = some 0 := by kernel_rfl
def HasT (w : World) : Prop := Lib.TabIs Tryd.prog w "internal/strconv.uint64pow10" .u64 Lib.pow10Tab
theorem HasT.below {w w' : World} (h : HasT w) (hb : Below w.heap.size w w') : HasT w' := by
  unfold HasT Lib.TabIs World.var? at h ⊢
  rw [gP] at h ⊢
  simp only [Option.bind_some] at h ⊢
  have hlt : 0 < w.heap.size := by
    rcases Nat.lt_or_ge 0 w.heap.size with h' | h'
    · exact h'
    · simp [Array.getElem?_eq_none h'] at h
  rw [hb.block 0 hlt]; exact h
theorem format_any (n : Int) (h0 : -9223372036854775808 ≤ n) (h1 : n ≤ 9223372036854775807) (w : World) (ht : HasT w) : Calls Tryd.prog 48 #[.int .i64 n, .int .i64 10] w (StrPost w (Lib.itoa n)) := by
  refine (Tryd.strconv_FormatInt_10 n h0 h1 w ht).mono ?_
  rintro e w' ⟨rfl, k, os, rfl⟩
  exact ⟨rfl, Lib.below_grow _ w (Nat.le_refl _) k os⟩
theorem grown_keep {w w' : World} {B n : Nat} {T : TypeId} {z : Nat} {v : Value} {xs : List Value} (ho : w.ownsRow B T z v n xs) (hg : w.grownBy w' v.ownBlock) {b : Nat} {ob : Obj} (hb : w.heap[b]? = some ob) (hne : ∀ cur, ob ≠ .cells cur T (0, 0)) : w'.heap[b]? = some ob := by
  rw [hg.block b (Array.getElem?_eq_some_iff.1 hb).1 ?_]; exact hb
  rcases ho.2 with ⟨rfl, _⟩ | ⟨g, cap, cur, rfl, _, hg', _⟩
  · simp [Value.ownBlock]
  · intro e
    simp [Value.ownBlock] at e
    subst e
    rw [hg'] at hb
    exact hne cur (Option.some.inj hb).symm
def wcells (i : PIns) (nm hs : Bs) (k : Nat) : List Value := str nm :: (hs.take k).map (fun c => str (Lib.itoa (partL i c)))
theorem wcells_next (i : PIns) (nm hs : Bs) (k : Nat) (c : UInt8) (h : hs[k]? = some c) : wcells i nm hs (k + 1) = wcells i nm hs k ++ [str (Lib.itoa (partL i c))] := by
  obtain ⟨hlt, rfl⟩ := List.getElem?_eq_some_iff.1 h
  unfold wcells
  rw [List.take_succ_eq_append_getElem hlt, List.map_append]; rfl
theorem wcells_all (i : PIns) (nm hs : Bs) : wcells i nm hs hs.length = (nm :: hs.map (fun c => Lib.itoa (partL i c))).map str := by
  unfold wcells; rw [List.take_length]; simp
theorem row_one (w : World) (x : Bs) : (w.alloc (.cells #[str x] 9)).ownsRow w.heap.size 9 1 (.slice (some ⟨w.heap.size, 0, none⟩) 1 1) 1 [str x] :=
  ⟨rfl, .inr ⟨w.heap.size, 1, #[str x], rfl, Nat.le_refl _, heap_alloc_new w _, Nat.le_refl _, by decide, rfl, rfl⟩⟩
/-- What the numbers read so far are. -/
def readTo (hs : Bs) (ws : List Bs) (i : PIns) (k : Nat) : Option PIns := readL (hs.take k) (ws.take k) i
theorem read_snoc : ∀ (hs : Bs) (ws : List Bs) (i j : PIns) (c : UInt8) (w : Bs), hs.length = ws.length → readL hs ws i = some j → readL (hs ++ [c]) (ws ++ [w]) i = if fitL c w then some (setL j c (numL w).1) else none
  | [], [], i, j, c, w, _, h => by
    have e : i = j := by simpa [readL] using h
    subst e
    show (if fitL c w = true then readL [] [] (setL i c (numL w).1) else none) = _
    rfl
  | [], _ :: _, _, _, _, _, h, _ => by simp at h
  | _ :: _, [], _, _, _, _, h, _ => by simp at h
  | a :: hs, x :: ws, i, j, c, w, hl, h => by
    obtain ⟨h1, h2⟩ := read_some h
    show (if fitL a x = true then readL (hs ++ [c]) (ws ++ [w]) (setL i a (numL x).1) else none) = _
    rw [if_pos h1]
    exact read_snoc hs ws _ j c w (by simpa using hl) h2
theorem read_bad : ∀ (hs r : Bs) (ws s : List Bs) (i : PIns), hs.length = ws.length → readL hs ws i = none → readL (hs ++ r) (ws ++ s) i = none
  | [], _, [], _, i, _, h => by simp [readL] at h
  | [], _, _ :: _, _, _, h, _ => by simp at h
  | _ :: _, _, [], _, _, h, _ => by simp at h
  | a :: hs, r, x :: ws, s, i, hl, h => by
    show (if fitL a x = true then readL (hs ++ r) (ws ++ s) (setL i a (numL x).1) else none) = none
    have h' : (if fitL a x = true then readL hs ws (setL i a (numL x).1) else none) = none := h
    by_cases hf : fitL a x = true
    · rw [if_pos hf] at h' ⊢
      exact read_bad hs r ws s _ (by simpa using hl) h'
    · rw [if_neg hf]
theorem readTo_next {hs : Bs} {ws : List Bs} {i j : PIns} {k : Nat} {c : UInt8} {w : Bs} (hl : hs.length = ws.length) (h : readTo hs ws i k = some j) (hc : hs[k]? = some c) (hw : ws[k]? = some w) (hf : fitL c w = true) :
    readTo hs ws i (k + 1) = some (setL j c (numL w).1) := by
  obtain ⟨h1, rfl⟩ := List.getElem?_eq_some_iff.1 hc
  obtain ⟨h2, rfl⟩ := List.getElem?_eq_some_iff.1 hw
  unfold readTo at h ⊢
  rw [List.take_succ_eq_append_getElem h1, List.take_succ_eq_append_getElem h2, read_snoc _ _ i j _ _ (by simp; omega) h, if_pos hf]
theorem readTo_bad {hs : Bs} {ws : List Bs} {i j : PIns} {k : Nat} {c : UInt8} {w : Bs} (hl : hs.length = ws.length) (h : readTo hs ws i k = some j) (hc : hs[k]? = some c) (hw : ws[k]? = some w) (hf : fitL c w = false) :
    readL hs ws i = none := by
  obtain ⟨h1, rfl⟩ := List.getElem?_eq_some_iff.1 hc
  obtain ⟨h2, rfl⟩ := List.getElem?_eq_some_iff.1 hw
  have : readTo hs ws i (k + 1) = none := by
    unfold readTo at h ⊢
    rw [List.take_succ_eq_append_getElem h1, List.take_succ_eq_append_getElem h2, read_snoc _ _ i j _ _ (by simp; omega) h, if_neg (by rw [hf]; simp)]
  unfold readTo at this
  have := read_bad _ (hs.drop (k + 1)) _ (ws.drop (k + 1)) i (by simp; omega) this
  rwa [List.take_append_drop, List.take_append_drop] at this
theorem readTo_all {hs : Bs} {ws : List Bs} {i : PIns} (hl : hs.length = ws.length) : readTo hs ws i hs.length = readL hs ws i := by
  unfold readTo; rw [List.take_length, hl, List.take_length]
def InstrPost (w : World) (r : Option PIns) (e : Ending) (w' : World) : Prop :=
  e = .returned (match r with
    | some i => .tuple #[.agg (insC i), .bool true]
    | none => .tuple #[.agg zeroC, .bool false]) ∧ Below w.heap.size w w'
theorem zero_one : zeroC.all (·.oneCell') = true := all_oneCell_toArray (cs := zeroC.toList) (by intro v h; simp at h; rcases h with rfl | rfl <;> rfl)
theorem ins_one (i : PIns) : (insC i).all (·.oneCell') = true := all_oneCell_toArray (cs := (insC i).toList) (by intro v h; simp at h; rcases h with rfl | rfl | rfl | rfl | rfl <;> rfl)
theorem instrL_cons {x : Bs} {ws : List Bs} {op : Int} {hs : Bs} (hb : byNameL x = some (op, x, hs)) (hl : ws.length = hs.length) : instrL (x :: ws) = readL hs ws ⟨op, 0, 0, 0, 0⟩ := by
  unfold instrL
  rw [List.headD_cons, hb]
  simp only [List.length_cons, List.tail_cons]
  rw [if_pos (by omega)]
theorem mayL_len {y : Bs} (h : mayL y = true) : y.length ≤ 30 := by
  unfold mayL at h
  exact of_decide_eq_true (Bool.and_eq_true_iff.1 h).1
theorem itoa_len {v : Int} (h0 : -9223372036854775808 ≤ v) (h1 : v ≤ 9223372036854775807) : (Lib.itoa v).length ≤ 20 := by
  have h := num_itoa v h0 h1
  have hd := h.2
  rcases Nat.lt_or_ge 19 (trimL (Lib.itoa v)).length with hl | hl
  · have := num_long hd hl
    rw [h.1] at this
    exact absurd (Prod.mk.inj this).2 (by decide)
  · have : (Lib.itoa v).length ≤ (trimL (Lib.itoa v)).length + 1 := by
      unfold trimL
      cases Lib.itoa v with
      | nil => simp
      | cons c r => simp only; split <;> simp
    omega
end Go.Proofs.YtjkpbajojgdooaaDoor
