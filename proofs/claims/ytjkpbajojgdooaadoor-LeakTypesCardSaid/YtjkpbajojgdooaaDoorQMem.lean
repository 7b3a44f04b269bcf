/-
  The document's state in a block of a call's own; its arrays out of it and back into it.
-/
import Derived.Test.YtjkpbajojgdooaaDoorPA
import Derived.Test.YtjkpbajojgdooaaDoorPNA
import Derived.Laws.IdiomCopy
namespace Go.Proofs.YtjkpbajojgdooaaDoor
set_option linter.unusedSimpArgs false
set_option linter.unusedVariables false
open Go.RowKit

abbrev xC (l : List Int) : Array Value := (i64s l).toArray
theorem xC_size (l : List Int) : (xC l).size = l.length := by simp [xC]
theorem xC_one (l : List Int) : (xC l).all (·.oneCell') = true := all_oneCell_toArray (fun v hv => by obtain ⟨x, _, rfl⟩ := List.mem_map.1 hv; rfl)
theorem xC_get {l : List Int} {k : Nat} (h : k < l.length) : (xC l)[k]? = some (.int .i64 (l.getD k 0)) := by
  have e : l[k]? = some (l.getD k 0) := by rw [List.getD_eq_getElem?_getD, List.getElem?_eq_getElem h]; rfl
  have := i64s_get e
  simpa [xC] using this
theorem xC_set (l : List Int) (k : Nat) (v : Int) : (xC l).setIfInBounds k (.int .i64 v) = xC (l.set k v) := by simp [xC, i64s]
/-- Cells of a block, one behind another. -/
def setA : Array Value → Nat → List Value → Array Value
  | C, _, [] => C
  | C, o, v :: vs => setA (C.setIfInBounds o v) (o + 1) vs
theorem putB_putB (w : World) (b : Nat) (C D : Array Value) (t t' : TypeId) : putB (putB w b C t) b D t' = putB w b D t' := by unfold putB putO; simp
theorem putB_same {w : World} {b : Nat} {C : Array Value} {t : TypeId} (h : blk w b C t) : putB w b C t = w := by
  have e : w.heap.setIfInBounds b (.cells C t (0, 0)) = w.heap := by
    obtain ⟨hlt, he⟩ := Array.getElem?_eq_some_iff.1 h
    refine Array.ext (by simp) fun i h1 h2 => ?_
    rw [Array.getElem_setIfInBounds]
    split
    · next e => subst e; exact he.symm
    · rfl
  unfold putB putO
  rw [e]
theorem setCells_blk {b : Nat} {t : TypeId} : ∀ (vs : List Value) (o : Nat) (w : World) (C : Array Value), blk w b C t → w.setCells b o vs = putB w b (setA C o vs) t
  | [], o, w, C, h => by
    unfold World.setCells setA
    exact (putB_same h).symm
  | v :: vs, o, w, C, h => by
    rw [World.setCells, setCell_putB h, setCells_blk vs (o + 1) _ _ (putB_at h _ _), putB_putB]
    rfl
theorem there_blk {w : World} {b : Nat} {C : Array Value} {t : TypeId} (h : blk w b C t) (o n : Nat) (hn : o + n ≤ C.size) : w.there b o n := fun j hj => by
  refine ⟨?_, blk_frozen h _⟩
  rw [blk_cell h (o + j) _ (Array.getElem?_eq_getElem (by omega))]; rfl
def setVL : List Value → Nat → List Value → List Value
  | C, _, [] => C
  | C, o, v :: vs => setVL (C.set o v) (o + 1) vs
theorem setA_toArray : ∀ (vs : List Value) (o : Nat) (L : List Value), setA L.toArray o vs = (setVL L o vs).toArray
  | [], o, L => rfl
  | v :: vs, o, L => by
    unfold setA setVL
    rw [List.setIfInBounds_toArray]
    exact setA_toArray vs (o + 1) _
theorem setA_x {s : PSt} (h : LenS s) (vo vt : Value) {l : List Int} (hl : l.length = 8) : setA (stC s vo vt) 0 (i64s l) = stC { s with x := l } vo vt := by
  obtain ⟨x0, x1, x2, x3, x4, x5, x6, x7, p0, p1, p2, p3, p4, p5, p6, p7, g0, g1, g2, g3, e⟩ := h.lists
  match l, hl with
  | [y0, y1, y2, y3, y4, y5, y6, y7], _ => rw [e, stC_list, stC_list, setA_toArray]; rfl
theorem setA_p {s : PSt} (h : LenS s) (vo vt : Value) {l : List Int} (hl : l.length = 8) : setA (stC s vo vt) 8 (i64s l) = stC { s with p := l } vo vt := by
  obtain ⟨x0, x1, x2, x3, x4, x5, x6, x7, p0, p1, p2, p3, p4, p5, p6, p7, g0, g1, g2, g3, e⟩ := h.lists
  match l, hl with
  | [y0, y1, y2, y3, y4, y5, y6, y7], _ => rw [e, stC_list, stC_list, setA_toArray]; rfl
theorem setA_g {s : PSt} (h : LenS s) (vo vt : Value) {l : List Int} (hl : l.length = 4) : setA (stC s vo vt) 16 (i64s l) = stC { s with g := l } vo vt := by
  obtain ⟨x0, x1, x2, x3, x4, x5, x6, x7, p0, p1, p2, p3, p4, p5, p6, p7, g0, g1, g2, g3, e⟩ := h.lists
  match l, hl with
  | [y0, y1, y2, y3], _ => rw [e, stC_list, stC_list, setA_toArray]; rfl
section
variable {ops : Array Oper} {rest : List Oper} {o : Oper} {a : Act} {w : World} {Q : Exit → Act → World → Prop} {s : PSt} {vo vt : Value} {b : Nat} {t : TypeId} {l : List Int}
theorem wpList_putX (hgd : o.guard = none) (x y : Operand) (ho : o.op = .store 30 x y) (hx : a.eval x = .pointer (some ⟨b, 0, none⟩)) (hy : a.eval y = .agg (xC l)) (hb : blk w b (stC s vo vt) t) (hs : LenS s) (hl : l.length = 8)
    (h : wpList Tryd.prog ops Q rest (a.put o.dst undef) (putB w b (stC { s with x := l } vo vt) t)) : wpList Tryd.prog ops Q (o :: rest) a w := by
  refine wpList_store_mid hgd 30 x y ho b 0 (xC l) hx hy (there_blk hb 0 _ (by rw [xC_size, stC_size hs]; omega)) (by rw [xC_size, hl]; exact infoX) (xC_one l) ?_
  rw [show (xC l).toList = i64s l from rfl, setCells_blk _ _ _ _ hb, setA_x hs vo vt hl]; exact h
theorem wpList_putP (hgd : o.guard = none) (x y : Operand) (ho : o.op = .store 31 x y) (hx : a.eval x = .pointer (some ⟨b, 8, none⟩)) (hy : a.eval y = .agg (xC l)) (hb : blk w b (stC s vo vt) t) (hs : LenS s) (hl : l.length = 8)
    (h : wpList Tryd.prog ops Q rest (a.put o.dst undef) (putB w b (stC { s with p := l } vo vt) t)) : wpList Tryd.prog ops Q (o :: rest) a w := by
  refine wpList_store_mid hgd 31 x y ho b 8 (xC l) hx hy (there_blk hb 8 _ (by rw [xC_size, stC_size hs]; omega)) (by rw [xC_size, hl]; exact infoP) (xC_one l) ?_
  rw [show (xC l).toList = i64s l from rfl, setCells_blk _ _ _ _ hb, setA_p hs vo vt hl]; exact h
theorem wpList_putG (hgd : o.guard = none) (x y : Operand) (ho : o.op = .store 32 x y) (hx : a.eval x = .pointer (some ⟨b, 16, none⟩)) (hy : a.eval y = .agg (xC l)) (hb : blk w b (stC s vo vt) t) (hs : LenS s) (hl : l.length = 4)
    (h : wpList Tryd.prog ops Q rest (a.put o.dst undef) (putB w b (stC { s with g := l } vo vt) t)) : wpList Tryd.prog ops Q (o :: rest) a w := by
  refine wpList_store_mid hgd 32 x y ho b 16 (xC l) hx hy (there_blk hb 16 _ (by rw [xC_size, stC_size hs]; omega)) (by rw [xC_size, hl]; exact infoG) (xC_one l) ?_
  rw [show (xC l).toList = i64s l from rfl, setCells_blk _ _ _ _ hb, setA_g hs vo vt hl]; exact h
theorem wpList_ldX (hgd : o.guard = none) (x : Operand) (ho : o.op = .load 30 x) (hx : a.eval x = .pointer (some ⟨b, 0, none⟩)) (hb : blk w b (stC s vo vt) t) (hs : LenS s)
    (h : wpList Tryd.prog ops Q rest (a.put o.dst (.agg (xC s.x))) w) : wpList Tryd.prog ops Q (o :: rest) a w :=
  wpList_load_mid hgd 30 x ho b 0 hx (i64s s.x) _ (range_x hb hs).1 Tryd.underlying30 rfl (by rw [i64s_len, hs.x]; exact infoX) h
theorem wpList_ldP (hgd : o.guard = none) (x : Operand) (ho : o.op = .load 31 x) (hx : a.eval x = .pointer (some ⟨b, 8, none⟩)) (hb : blk w b (stC s vo vt) t) (hs : LenS s)
    (h : wpList Tryd.prog ops Q rest (a.put o.dst (.agg (xC s.p))) w) : wpList Tryd.prog ops Q (o :: rest) a w :=
  wpList_load_mid hgd 31 x ho b 8 hx (i64s s.p) _ (range_x hb hs).2.1 Tryd.underlying31 rfl (by rw [i64s_len, hs.p]; exact infoP) h
theorem wpList_ldG (hgd : o.guard = none) (x : Operand) (ho : o.op = .load 32 x) (hx : a.eval x = .pointer (some ⟨b, 16, none⟩)) (hb : blk w b (stC s vo vt) t) (hs : LenS s)
    (h : wpList Tryd.prog ops Q rest (a.put o.dst (.agg (xC s.g))) w) : wpList Tryd.prog ops Q (o :: rest) a w :=
  wpList_load_mid hgd 32 x ho b 16 hx (i64s s.g) _ (range_x hb hs).2.2 Tryd.underlying32 rfl (by rw [i64s_len, hs.g]; exact infoG) h
end
theorem rstate_info : (Tryd.prog.info? 36).map (·.size) = some 24 := by kernel_rfl
theorem rstate_size {s : PSt} {vo vt : Value} (h : LenS s) : (Tryd.prog.info? 36).map (·.size) = some (stC s vo vt).size := by rw [stC_size h]; exact rstate_info
/-- An array of its own. -/
abbrev zero8 : Array Value := #[.int .i64 0, .int .i64 0, .int .i64 0, .int .i64 0, .int .i64 0, .int .i64 0, .int .i64 0, .int .i64 0]
/-- The world in one of the document's parts of a step. -/
structure RfW (w wr : World) (B : Nat) (s : PSt) (vo vt : Value) (i : PIns) : Prop where
  below : Below w.heap.size w wr
  hB : w.heap.size ≤ B
  st : blk wr B (stC s vo vt) 36
  ins : blk wr (B + 1) (insC i) 45
  res : blk wr (B + 2) zeroS 36
  at' : StN wr vo vt s
theorem RfW.next {w wr w' : World} {B : Nat} {s : PSt} {vo vt : Value} {i : PIns} (h : RfW w wr B s vo vt i) (hb : Below wr.heap.size wr w') : RfW w w' B s vo vt i :=
  ⟨h.below.trans (hb.mono h.below.size), h.hB, blk_below h.st hb, blk_below h.ins hb, blk_below h.res hb, h.at'.below hb⟩
theorem RfW.size {w wr : World} {B : Nat} {s : PSt} {vo vt : Value} {i : PIns} (h : RfW w wr B s vo vt i) : B + 2 < wr.heap.size := blk_lt h.res
/-- The state's own block changes. -/
theorem RfW.put {w wr : World} {B : Nat} {s t : PSt} {vo vt vo' vt' : Value} {i : PIns} (h : RfW w wr B s vo vt i) (ht : StN wr vo' vt' t) : RfW w (putB wr B (stC t vo' vt') 36) B t vo' vt' i :=
  ⟨h.below.trans (putB_below _ h.hB _ _), h.hB, putB_at h.st _ _, by unfold blk; rw [putB_ne _ (by omega)]; exact h.ins, by unfold blk; rw [putB_ne _ (by omega)]; exact h.res, ht.putT h.st (by decide)⟩
/-- Another block of the call's own changes: no row's. -/
theorem RfW.other {w wr : World} {B X : Nat} {s : PSt} {vo vt : Value} {i : PIns} {C D : Array Value} {t t' : TypeId} (h : RfW w wr B s vo vt i) (hX : B + 2 < X) (hb : blk wr X C t) (ht : t ≠ 2 ∧ t ≠ 34) : RfW w (putB wr X D t') B s vo vt i :=
  ⟨h.below.trans (putB_below _ (by have := h.hB; omega) _ _), h.hB, by unfold blk; rw [putB_ne _ (by omega)]; exact h.st, by unfold blk; rw [putB_ne _ (by omega)]; exact h.ins, by unfold blk; rw [putB_ne _ (by omega)]; exact h.res, h.at'.putT hb ht⟩
/-- What a part of a step answers. -/
def PartPost (w : World) (t : PSt) (r : Value) (e : Ending) (w' : World) : Prop := ∃ vo vt, e = .returned (.tuple #[.agg (stC t vo vt), r]) ∧ StN w' vo vt t ∧ Below w.heap.size w w'
theorem RfW.post {w wr : World} {B : Nat} {s : PSt} {vo vt : Value} {i : PIns} {r : Value} (h : RfW w wr B s vo vt i) : PartPost w s r (.returned (.tuple #[.agg (stC s vo vt), r])) (putB wr (B + 2) (stC s vo vt) 36) :=
  ⟨vo, vt, rfl, h.at'.putT h.res (by decide), h.below.trans (putB_below _ (by have := h.hB; omega) _ _)⟩
end Go.Proofs.YtjkpbajojgdooaaDoor
