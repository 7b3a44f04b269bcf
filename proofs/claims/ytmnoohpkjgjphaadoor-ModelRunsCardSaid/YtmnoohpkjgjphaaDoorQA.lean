/-
  Arrays of numbers, compared with themselves.
  The document's Same of a state with itself, wherever the two lie.
  The document's state in a block of a call's own; its arrays out of it and back into it.
  The document's put: its contract.
  The document's numbers: its contract.
-/
import Derived.Test.YtmnoohpkjgjphaaDoorMNS
import Derived.ChangeKeysEq
import Derived.Test.YtmnoohpkjgjphaaDoorPA
import Derived.StillTailTactics
import Derived.Deep.CutRange
import Derived.Test.YtmnoohpkjgjphaaDoorPApt
import Derived.Laws.IdiomCopy
import Derived.Maps.AppendAt
import Derived.Laws.AppendOwnNone
import Derived.Outline

/- Arrays of numbers, compared with themselves. -/
namespace Go.Proofs.YtmnoohpkjgjphaaDoor
set_option linter.unusedSimpArgs false
set_option linter.unusedVariables false
open Go.RowKit

section
variable {P : Program}
theorem part_int (w : World) (e : TypeId) (xs : List Int) (j : Nat) (x : Int) (he : P.plainKey e = true) (hx : xs[j]? = some x) : (part e (i64s xs).toArray j).run P w = .ok (.int .i64 x) w :=
  run_part_plain w he (by simpa using i64s_get hx)
theorem items_same (w : World) (d : Nat) (e : TypeId) (xs : List Int) (hk : P.underlying e = some (.int .i64)) (he : P.plainKey e = true) : ∀ is : List Nat, (∀ i ∈ is, i < xs.length) → (Op.eqItems (d + 1) e 1 (i64s xs).toArray (i64s xs).toArray is).run P w = .ok true w
  | [], _ => by simp [Op.eqItems]
  | i :: is, h => by
    have hi := h i (by simp)
    obtain ⟨x, hx⟩ : ∃ x, xs[i]? = some x := ⟨_, List.getElem?_eq_getElem hi⟩
    have hp := part_int w e xs i x he hx
    rw [show i = i * 1 by omega] at hp
    simp only [Op.eqItems, Sem.run_bind, hp, Result.andThen_ok, run_equalIn_int w d e .i64 .i64 x x hk, beq_self_eq_true, Bool.not_true, Bool.false_eq_true, if_false]
    exact items_same w d e xs hk he is (fun j hj => h j (by simp [hj]))
/-- An array of numbers is itself. -/
theorem arr_same (w : World) {t e : TypeId} {n : Nat} {i : TypeInfo} (xs : List Int) (hu : P.underlying t = some (.array n e)) (hi : P.info? e = some i) (hc : P.cellsOf e = 1) (hk : P.underlying e = some (.int .i64)) (he : P.plainKey e = true) (hl : n ≤ xs.length) :
    (binOp .neq t (.agg (i64s xs).toArray) (.agg (i64s xs).toArray)).run P w = .ok (.bool false) w := by
  rw [run_neq_struct, show (10000 : Nat) = 9999 + 1 from rfl, run_equalIn_array w 9999 _ _ hu hi, hc, show (9999 : Nat) = 9998 + 1 from rfl, items_same w 9998 e xs hk he (List.range n) (fun j hj => by have := List.mem_range.1 hj; omega)]
  rfl
end
theorem info_some {t : TypeId} {z : Option Value × Nat × Nat} (h : (Tryd.prog.info? t).map (fun i => (i.zero, i.size, i.bytes)) = some z) : ∃ i, Tryd.prog.info? t = some i := by
  obtain ⟨i, hi, _⟩ := Option.map_eq_some_iff.1 h
  exact ⟨i, hi⟩
theorem info3 : (Tryd.prog.info? 3).map (fun i => (i.zero, i.size, i.bytes)) = some (some (.int .i64 0), 1, 8) := by kernel_rfl
theorem info2 : (Tryd.prog.info? 2).map (fun i => (i.zero, i.size, i.bytes)) = some (some (.int .i64 0), 1, 8) := by kernel_rfl
theorem infoX : (Tryd.prog.info? 28).map (·.size) = some 8 := by kernel_rfl
theorem infoP : (Tryd.prog.info? 29).map (·.size) = some 8 := by kernel_rfl
theorem infoG : (Tryd.prog.info? 30).map (·.size) = some 4 := by kernel_rfl
theorem same_X (w : World) (xs : List Int) (h : xs.length = 8) : (binOp .neq 28 (.agg (i64s xs).toArray) (.agg (i64s xs).toArray)).run Tryd.prog w = .ok (.bool false) w := by
  obtain ⟨i, hi⟩ := info_some info2
  exact arr_same w xs Tryd.underlying28 hi (by kernel_rfl) Tryd.underlying2 (by kernel_rfl) (by omega)
theorem same_P (w : World) (xs : List Int) (h : xs.length = 8) : (binOp .neq 29 (.agg (i64s xs).toArray) (.agg (i64s xs).toArray)).run Tryd.prog w = .ok (.bool false) w := by
  obtain ⟨i, hi⟩ := info_some info3
  exact arr_same w xs Tryd.underlying29 hi (by kernel_rfl) Tryd.underlying3 (by kernel_rfl) (by omega)
theorem same_G (w : World) (xs : List Int) (h : xs.length = 4) : (binOp .neq 30 (.agg (i64s xs).toArray) (.agg (i64s xs).toArray)).run Tryd.prog w = .ok (.bool false) w := by
  obtain ⟨i, hi⟩ := info_some info3
  exact arr_same w xs Tryd.underlying30 hi (by kernel_rfl) Tryd.underlying3 (by kernel_rfl) (by omega)
end Go.Proofs.YtmnoohpkjgjphaaDoor

/- The document's Same of a state with itself, wherever the two lie. -/
namespace Go.Proofs.YtmnoohpkjgjphaaDoor
set_option linter.unusedSimpArgs false
set_option linter.unusedVariables false
open Go.RowKit

/-- A row that is loaded behind a guard that says yes. -/
theorem wpList_load_want {ops : Array Oper} {rest : List Oper} {o : Oper} {a : Act} {w : World} {Q : Exit → Act → World → Prop} (hw : Region.wanted o (yielded ops a.tmps) = true) (ty : TypeId) (x : Operand) (ho : o.op = .load ty x)
    (b off : Nat) (hx : a.eval x = .pointer (some ⟨b, off, none⟩)) (cs : List Value) (d : TypeDesc) (hc : w.rangeAt b off cs) (hu : Tryd.prog.underlying ty = some d) (hd : d.isRow = true) (hi : (Tryd.prog.info? ty).map (·.size) = some cs.length)
    (h : wpList Tryd.prog ops Q rest (a.put o.dst (.agg cs.toArray)) w) : wpList Tryd.prog ops Q (o :: rest) a w :=
  BigFrame.wpList_want hw fun K hK => wp_load_mid ty x ho b off hx cs d hc hu hd hi (hK _ _ h)
theorem range_x {w : World} {b : Nat} {s : PSt} {vo vt : Value} {t : TypeId} (h : blk w b (stC s vo vt) t) (hl : LenS s) : w.rangeAt b 0 (i64s s.x) ∧ w.rangeAt b 8 (i64s s.p) ∧ w.rangeAt b 16 (i64s s.g) := by
  have key : ∀ (l : List Int) (j : Nat) (v : Value), (i64s l)[j]? = some v → v = .int .i64 (l.getD j 0) ∧ j < l.length := fun l j v hv => by
    have hj := (List.getElem?_eq_some_iff.1 hv).1
    rw [i64s_len] at hj
    refine ⟨?_, hj⟩
    have e : l[j]? = some (l.getD j 0) := by rw [List.getD_eq_getElem?_getD, List.getElem?_eq_getElem hj]; rfl
    rw [i64s_get e] at hv
    exact (Option.some.inj hv).symm
  refine ⟨fun j v hv => ?_, fun j v hv => ?_, fun j v hv => ?_⟩
  · obtain ⟨rfl, hj⟩ := key _ _ _ hv
    rw [Nat.zero_add]; exact blk_cell h _ _ (stC_x hl j (by have := hl.x; omega))
  · obtain ⟨rfl, hj⟩ := key _ _ _ hv
    exact blk_cell h _ _ (stC_p hl j (by have := hl.p; omega))
  · obtain ⟨rfl, hj⟩ := key _ _ _ hv
    exact blk_cell h _ _ (stC_g hl j (by have := hl.g; omega))
set_option maxRecDepth 100000 in
set_option maxHeartbeats 4000000 in
theorem same_at (w W0 : World) (s : PSt) (vt vt' : Value) (ao ao' : Option Addr) (co co' : Nat) (hW0 : W0 = (w.alloc (.cells (stC s (.slice ao s.objs.length co) vt) 35)).alloc (.cells (stC s (.slice ao' s.objs.length co') vt') 35)) (HS : Hid (Below w.heap.size w W0)) (HL : Hid (LenS s))
    (K1 : Hid (blk W0 w.heap.size (stC s (.slice ao s.objs.length co) vt) 35)) (K2 : Hid (blk W0 (w.heap.size + 1) (stC s (.slice ao' s.objs.length co') vt') 35)) (g1 : s.objs.length ≤ co) (g2 : co ≤ 9223372036854775807) (k1 : s.objs.length ≤ co') (k2 : co' ≤ 9223372036854775807)
    (HNU : Hid (∀ w1, Below w.heap.size w w1 → Calls Tryd.prog 17 #[vt, vt'] w1 (AggPost w1 (.bool true))))
    (HROW : Hid (∀ j : Nat, j < s.objs.length → ∃ (b o b' o' : Nat) (r r' : Value), ao = some ⟨b, o, none⟩ ∧ ao' = some ⟨b', o', none⟩ ∧ b < w.heap.size ∧ b' < w.heap.size ∧ w.cell? ⟨b, o + j, none⟩ = some r ∧ w.cell? ⟨b', o' + j, none⟩ = some r' ∧ ∀ w1, Below w.heap.size w w1 → Calls Tryd.prog 17 #[r, r'] w1 (AggPost w1 (.bool true)))) :
    Calls Tryd.prog 14 #[.agg (stC s (.slice ao s.objs.length co) vt), .agg (stC s (.slice ao' s.objs.length co') vt')] w (AggPost w (.bool true)) := by
  have HR1 := Lib.hid (range_x K1.out HL.out)
  have HR2 := Lib.hid (range_x K2.out HL.out)
  have qX := fun w => same_X w s.x HL.out.x
  have qP := fun w => same_P w s.p HL.out.p
  have qG := fun w => same_G w s.g HL.out.g
  have hx := HL.out.x
  have hp := HL.out.p
  have hg := HL.out.g
  have IX : (Tryd.prog.info? 28).map (·.size) = some (i64s s.x).length := by rw [i64s_len, hx]; exact infoX
  have IP : (Tryd.prog.info? 29).map (·.size) = some (i64s s.p).length := by rw [i64s_len, hp]; exact infoP
  have IG : (Tryd.prog.info? 30).map (·.size) = some (i64s s.g).length := by rw [i64s_len, hg]; exact infoG
  have HIX := Lib.hid IX
  have HIP := Lib.hid IP
  have HIG := Lib.hid IG
  obtain ⟨a20, a21, a22, a23⟩ := stC_rest (vo := .slice ao s.objs.length co) (vt := vt) HL.out
  obtain ⟨b20, b21, b22, b23⟩ := stC_rest (vo := .slice ao' s.objs.length co') (vt := vt') HL.out
  have c20 := blk_cell K1.out _ _ a20
  have c21 := blk_cell K1.out _ _ a21
  have c22 := blk_cell K1.out _ _ a22
  have c23 := blk_cell K1.out _ _ a23
  have d20 := blk_cell K2.out _ _ b20
  have d21 := blk_cell K2.out _ _ b21
  have d22 := blk_cell K2.out _ _ b22
  have d23 := blk_cell K2.out _ _ b23
  clear a20 a21 a22 a23 b20 b21 b22 b23 hx hp hg IX IP IG
  go_enter Tryd.func14, Tryd.ntmps14
  go_upto_region 1 with (fail)
  rw [← hW0]
  clear hW0
  go_upto_region 3 with (first
    | (refine wpList_load_mid rfl 28 _ rfl w.heap.size 0 rfl (i64s s.x) _ HR1.out.1 Tryd.underlying28 rfl HIX.out ?_)
    | (refine wpList_load_mid rfl 28 _ rfl (w.heap.size + 1) 0 rfl (i64s s.x) _ HR2.out.1 Tryd.underlying28 rfl HIX.out ?_)
    | (refine wpList_load_want (by rfl) 29 _ rfl w.heap.size 8 rfl (i64s s.p) _ HR1.out.2.1 Tryd.underlying29 rfl HIP.out ?_)
    | (refine wpList_load_want (by rfl) 29 _ rfl (w.heap.size + 1) 8 rfl (i64s s.p) _ HR2.out.2.1 Tryd.underlying29 rfl HIP.out ?_)
    | (refine wpList_load_want (by rfl) 30 _ rfl w.heap.size 16 rfl (i64s s.g) _ HR1.out.2.2 Tryd.underlying30 rfl HIG.out ?_)
    | (refine wpList_load_want (by rfl) 30 _ rfl (w.heap.size + 1) 16 rfl (i64s s.g) _ HR2.out.2.2 Tryd.underlying30 rfl HIG.out ?_)
    | (go_at_call 17; refine (HNU.out _ HS.out).mono ?_; rintro e w1 ⟨rfl, hb⟩; have HB1 := Lib.hid (HS.out.trans (hb.mono HS.out.size)); have KA := Lib.hid (blk_below K1.out hb); have KB := Lib.hid (blk_below K2.out hb); clear hb HNU c20 c21 c22 c23 d20 d21 d22 d23; obtain ⟨a20, a21, a22, a23⟩ := stC_rest (vo := .slice ao s.objs.length co) (vt := vt) HL.out; obtain ⟨b20, b21, b22, b23⟩ := stC_rest (vo := .slice ao' s.objs.length co') (vt := vt') HL.out; have c20 := blk_cell KA.out _ _ a20; have d20 := blk_cell KB.out _ _ b20; clear a20 a21 a22 a23 b20 b21 b22 b23))
  clear HR1 HR2 qX qP qG HIX HIP HIG K1 K2
  go_wp2_with (fail)
  go_loopw [5] (fun i wr => ∃ k : Nat, k ≤ s.objs.length ∧ i = .int .i64 k ∧ Hid (Below w.heap.size w wr) ∧ Hid (blk wr w.heap.size (stC s (.slice ao s.objs.length co) vt) 35) ∧ Hid (blk wr (w.heap.size + 1) (stC s (.slice ao' s.objs.length co') vt') 35)) (fun i _ => s.objs.length - (intOf i).toNat)
  case atStart => exact ⟨0, Nat.zero_le _, rfl, HB1, KA, KB⟩
  case round =>
    obtain ⟨k, hk, rfl, hbw, ka, kb⟩ := hrel
    clear HB1 KA KB c20 d20
    have c20 := blk_cell ka.out _ _ (stC_rest (vo := .slice ao s.objs.length co) (vt := vt) HL.out).1
    have d20 := blk_cell kb.out _ _ (stC_rest (vo := .slice ao' s.objs.length co') (vt := vt') HL.out).1
    by_cases hlt : k < s.objs.length
    · obtain ⟨b, o, b', o', r, r', rfl, rfl, hb, hb', hc, hc', hn⟩ := HROW.out k hlt
      have q1 : wr.cell? ⟨b, o + k, none⟩ = some r := by rw [hbw.out.cell (p := ⟨b, o + k, none⟩) hb]; exact hc
      have q2 : wr.cell? ⟨b', o' + k, none⟩ = some r' := by rw [hbw.out.cell (p := ⟨b', o' + k, none⟩) hb']; exact hc'
      have HN := Lib.hid hn
      have hki : (k : Int) < (s.objs.length : Int) := by omega
      have hk0 : (0 : Int) ≤ (k : Int) := by omega
      clear hn hc hc' hb hb'
      go_wp2_with (fail)
      refine wp_region_still_tail 10 (by kernel_rfl) (by kernel_rfl) ?_
      simp only [List.take_succ_cons, List.take_zero, List.drop_succ_cons, List.drop_zero]
      change wpStill _ _ wr.drew (fun a' => wpList _ _ _ _ a' wr.drew) _ _
      repeat still_step
      refine wpStill_nil ?_
      go_wp2_with (go_at_call 17; refine (HN.out _ hbw.out.drew).mono ?_; rintro e w2 ⟨rfl, hb⟩; have HB2 := Lib.hid ((Below.refl wr.heap.size wr).drew.trans hb); clear hb)
      have HB3 := Lib.hid (hbw.out.trans (HB2.out.mono hbw.out.size))
      have KA3 := Lib.hid (blk_below ka.out HB2.out)
      have KB3 := Lib.hid (blk_below kb.out HB2.out)
      go_roundw
      case rel => exact ⟨k + 1, by omega, by go_num, HB3, KA3, KB3⟩
      case measure => simp [intOf]; omega
    · obtain rfl : k = s.objs.length := by omega
      go_wp2
      go_ret
      exact ⟨rfl, hbw.out⟩
theorem same_n (va vb : Value) (s : PSt) (w : World) (ha : StAt w va s) (hb : StAt w vb s) : Calls Tryd.prog 14 #[va, vb] w (AggPost w (.bool true)) := by
  obtain ⟨vo, vt, rfl, hg, ht, hl⟩ := ha
  obtain ⟨vo', vt', rfl, hg', ht', -⟩ := hb
  obtain ⟨rows, hr1, ⟨ao, co, rfl, g1, g2, g3⟩, hr3⟩ := hg
  obtain ⟨rows', hs1, ⟨ao', co', rfl, k1, k2, k3⟩, hs3⟩ := hg'
  have s1 : (w.alloc (.cells (stC s (.slice ao rows.length co) vt) 35)).heap.size = w.heap.size + 1 := World.size_alloc _ _
  have hwb : Below w.heap.size w ((w.alloc (.cells (stC s (.slice ao s.objs.length co) vt) 35)).alloc (.cells (stC s (.slice ao' s.objs.length co') vt') 35)) := ((Below.refl _ _).alloc (Nat.le_refl _) _).alloc (by simp) _
  unfold maxLen at g2 k2
  rw [hr1] at g1 s1 ⊢
  rw [hs1] at k1 ⊢
  have k2' := blk_new (w.alloc (.cells (stC s (.slice ao s.objs.length co) vt) 35)) (stC s (.slice ao' s.objs.length co') vt') 35
  rw [s1] at k2'
  refine same_at w _ s vt vt' ao ao' co co' rfl (Lib.hid hwb) (Lib.hid hl) (Lib.hid (blk_alloc (blk_new _ _ _) _)) (Lib.hid k2') g1 (by omega) k1 (by omega) (Lib.hid fun w1 hb1 => nums_n _ _ s.out s.out true w1 (ht.below hb1) (ht'.below hb1) (by simp)) (Lib.hid fun j hj => ?_)
  obtain ⟨xs, hx⟩ : ∃ xs, s.objs[j]? = some xs := ⟨_, List.getElem?_eq_getElem hj⟩
  obtain ⟨r, h1⟩ : ∃ r, rows[j]? = some r := ⟨_, List.getElem?_eq_getElem (by omega)⟩
  obtain ⟨r', h2⟩ : ∃ r, rows'[j]? = some r := ⟨_, List.getElem?_eq_getElem (by omega)⟩
  obtain ⟨b, o, rfl, hb, hc⟩ := g3.resolve_left (by rintro rfl; simp at h1)
  obtain ⟨b', o', rfl, hb', hc'⟩ := k3.resolve_left (by rintro rfl; simp at h2)
  exact ⟨b, o, b', o', r, r', rfl, rfl, hb, hb', hc j r h1, hc' j r' h2, fun w1 hb1 => nums_n _ _ xs xs true w1 ((hr3 j r xs h1 hx).below hb1) ((hs3 j r' xs h2 hx).below hb1) (by simp)⟩
end Go.Proofs.YtmnoohpkjgjphaaDoor

/- The document's state in a block of a call's own; its arrays out of it and back into it. -/
namespace Go.Proofs.YtmnoohpkjgjphaaDoor
set_option linter.unusedSimpArgs false
set_option linter.unusedVariables false
open Go.RowKit

abbrev xC (l : List Int) : Array Value := (i64s l).toArray
theorem xC_size (l : List Int) : (xC l).size = l.length := by simp [xC]
theorem xC_one (l : List Int) : (xC l).all (·.oneCell') = true := all_oneCell_toArray (fun v hv => by obtain ⟨x, _, rfl⟩ := List.mem_map.1 hv; rfl)
theorem xC_get {l : List Int} {k : Nat} (h : k < l.length) : (xC l)[k]? = some (.int .i64 (l.getD k 0)) := by
  have e : l[k]? = some (l.getD k 0) := by rw [List.getD_eq_getElem?_getD, List.getElem?_eq_getElem h]; rfl
  have := i64s_get e
  simpa [xC] using this
theorem xC_set (l : List Int) (k : Nat) (v : Int) : (xC l).setIfInBounds k (.int .i64 v) = xC (l.set k v) := by simp [xC, i64s]
/-- Cells of a block, one behind another. -/
def setA : Array Value → Nat → List Value → Array Value
  | C, _, [] => C
  | C, o, v :: vs => setA (C.setIfInBounds o v) (o + 1) vs
theorem putB_putB (w : World) (b : Nat) (C D : Array Value) (t t' : TypeId) : putB (putB w b C t) b D t' = putB w b D t' := by unfold putB putO; simp
theorem putB_same {w : World} {b : Nat} {C : Array Value} {t : TypeId} (h : blk w b C t) : putB w b C t = w := by
  have e : w.heap.setIfInBounds b (.cells C t (0, 0)) = w.heap := by
    obtain ⟨hlt, he⟩ := Array.getElem?_eq_some_iff.1 h
    refine Array.ext (by simp) fun i h1 h2 => ?_
    rw [Array.getElem_setIfInBounds]
    split
    · next e => subst e; exact he.symm
    · rfl
  unfold putB putO
  rw [e]
theorem setCells_blk {b : Nat} {t : TypeId} : ∀ (vs : List Value) (o : Nat) (w : World) (C : Array Value), blk w b C t → w.setCells b o vs = putB w b (setA C o vs) t
  | [], o, w, C, h => by
    unfold World.setCells setA
    exact (putB_same h).symm
  | v :: vs, o, w, C, h => by
    rw [World.setCells, setCell_putB h, setCells_blk vs (o + 1) _ _ (putB_at h _ _), putB_putB]
    rfl
theorem there_blk {w : World} {b : Nat} {C : Array Value} {t : TypeId} (h : blk w b C t) (o n : Nat) (hn : o + n ≤ C.size) : w.there b o n := fun j hj => by
  refine ⟨?_, blk_frozen h _⟩
  rw [blk_cell h (o + j) _ (Array.getElem?_eq_getElem (by omega))]; rfl
def setVL : List Value → Nat → List Value → List Value
  | C, _, [] => C
  | C, o, v :: vs => setVL (C.set o v) (o + 1) vs
theorem setA_toArray : ∀ (vs : List Value) (o : Nat) (L : List Value), setA L.toArray o vs = (setVL L o vs).toArray
  | [], o, L => rfl
  | v :: vs, o, L => by
    unfold setA setVL
    rw [List.setIfInBounds_toArray]
    exact setA_toArray vs (o + 1) _
theorem setA_x {s : PSt} (h : LenS s) (vo vt : Value) {l : List Int} (hl : l.length = 8) : setA (stC s vo vt) 0 (i64s l) = stC { s with x := l } vo vt := by
  obtain ⟨x0, x1, x2, x3, x4, x5, x6, x7, p0, p1, p2, p3, p4, p5, p6, p7, g0, g1, g2, g3, e⟩ := h.lists
  match l, hl with
  | [y0, y1, y2, y3, y4, y5, y6, y7], _ => rw [e, stC_list, stC_list, setA_toArray]; rfl
theorem setA_p {s : PSt} (h : LenS s) (vo vt : Value) {l : List Int} (hl : l.length = 8) : setA (stC s vo vt) 8 (i64s l) = stC { s with p := l } vo vt := by
  obtain ⟨x0, x1, x2, x3, x4, x5, x6, x7, p0, p1, p2, p3, p4, p5, p6, p7, g0, g1, g2, g3, e⟩ := h.lists
  match l, hl with
  | [y0, y1, y2, y3, y4, y5, y6, y7], _ => rw [e, stC_list, stC_list, setA_toArray]; rfl
theorem setA_g {s : PSt} (h : LenS s) (vo vt : Value) {l : List Int} (hl : l.length = 4) : setA (stC s vo vt) 16 (i64s l) = stC { s with g := l } vo vt := by
  obtain ⟨x0, x1, x2, x3, x4, x5, x6, x7, p0, p1, p2, p3, p4, p5, p6, p7, g0, g1, g2, g3, e⟩ := h.lists
  match l, hl with
  | [y0, y1, y2, y3], _ => rw [e, stC_list, stC_list, setA_toArray]; rfl
section
variable {ops : Array Oper} {rest : List Oper} {o : Oper} {a : Act} {w : World} {Q : Exit → Act → World → Prop} {s : PSt} {vo vt : Value} {b : Nat} {t : TypeId} {l : List Int}
theorem wpList_putX (hgd : o.guard = none) (x y : Operand) (ho : o.op = .store 28 x y) (hx : a.eval x = .pointer (some ⟨b, 0, none⟩)) (hy : a.eval y = .agg (xC l)) (hb : blk w b (stC s vo vt) t) (hs : LenS s) (hl : l.length = 8)
    (h : wpList Tryd.prog ops Q rest (a.put o.dst undef) (putB w b (stC { s with x := l } vo vt) t)) : wpList Tryd.prog ops Q (o :: rest) a w := by
  refine wpList_store_mid hgd 28 x y ho b 0 (xC l) hx hy (there_blk hb 0 _ (by rw [xC_size, stC_size hs]; omega)) (by rw [xC_size, hl]; exact infoX) (xC_one l) ?_
  rw [show (xC l).toList = i64s l from rfl, setCells_blk _ _ _ _ hb, setA_x hs vo vt hl]; exact h
theorem wpList_putP (hgd : o.guard = none) (x y : Operand) (ho : o.op = .store 29 x y) (hx : a.eval x = .pointer (some ⟨b, 8, none⟩)) (hy : a.eval y = .agg (xC l)) (hb : blk w b (stC s vo vt) t) (hs : LenS s) (hl : l.length = 8)
    (h : wpList Tryd.prog ops Q rest (a.put o.dst undef) (putB w b (stC { s with p := l } vo vt) t)) : wpList Tryd.prog ops Q (o :: rest) a w := by
  refine wpList_store_mid hgd 29 x y ho b 8 (xC l) hx hy (there_blk hb 8 _ (by rw [xC_size, stC_size hs]; omega)) (by rw [xC_size, hl]; exact infoP) (xC_one l) ?_
  rw [show (xC l).toList = i64s l from rfl, setCells_blk _ _ _ _ hb, setA_p hs vo vt hl]; exact h
theorem wpList_putG (hgd : o.guard = none) (x y : Operand) (ho : o.op = .store 30 x y) (hx : a.eval x = .pointer (some ⟨b, 16, none⟩)) (hy : a.eval y = .agg (xC l)) (hb : blk w b (stC s vo vt) t) (hs : LenS s) (hl : l.length = 4)
    (h : wpList Tryd.prog ops Q rest (a.put o.dst undef) (putB w b (stC { s with g := l } vo vt) t)) : wpList Tryd.prog ops Q (o :: rest) a w := by
  refine wpList_store_mid hgd 30 x y ho b 16 (xC l) hx hy (there_blk hb 16 _ (by rw [xC_size, stC_size hs]; omega)) (by rw [xC_size, hl]; exact infoG) (xC_one l) ?_
  rw [show (xC l).toList = i64s l from rfl, setCells_blk _ _ _ _ hb, setA_g hs vo vt hl]; exact h
theorem wpList_ldX (hgd : o.guard = none) (x : Operand) (ho : o.op = .load 28 x) (hx : a.eval x = .pointer (some ⟨b, 0, none⟩)) (hb : blk w b (stC s vo vt) t) (hs : LenS s)
    (h : wpList Tryd.prog ops Q rest (a.put o.dst (.agg (xC s.x))) w) : wpList Tryd.prog ops Q (o :: rest) a w :=
  wpList_load_mid hgd 28 x ho b 0 hx (i64s s.x) _ (range_x hb hs).1 Tryd.underlying28 rfl (by rw [i64s_len, hs.x]; exact infoX) h
theorem wpList_ldP (hgd : o.guard = none) (x : Operand) (ho : o.op = .load 29 x) (hx : a.eval x = .pointer (some ⟨b, 8, none⟩)) (hb : blk w b (stC s vo vt) t) (hs : LenS s)
    (h : wpList Tryd.prog ops Q rest (a.put o.dst (.agg (xC s.p))) w) : wpList Tryd.prog ops Q (o :: rest) a w :=
  wpList_load_mid hgd 29 x ho b 8 hx (i64s s.p) _ (range_x hb hs).2.1 Tryd.underlying29 rfl (by rw [i64s_len, hs.p]; exact infoP) h
theorem wpList_ldG (hgd : o.guard = none) (x : Operand) (ho : o.op = .load 30 x) (hx : a.eval x = .pointer (some ⟨b, 16, none⟩)) (hb : blk w b (stC s vo vt) t) (hs : LenS s)
    (h : wpList Tryd.prog ops Q rest (a.put o.dst (.agg (xC s.g))) w) : wpList Tryd.prog ops Q (o :: rest) a w :=
  wpList_load_mid hgd 30 x ho b 16 hx (i64s s.g) _ (range_x hb hs).2.2 Tryd.underlying30 rfl (by rw [i64s_len, hs.g]; exact infoG) h
end
theorem rstate_info : (Tryd.prog.info? 35).map (·.size) = some 24 := by kernel_rfl
theorem rstate_size {s : PSt} {vo vt : Value} (h : LenS s) : (Tryd.prog.info? 35).map (·.size) = some (stC s vo vt).size := by rw [stC_size h]; exact rstate_info
/-- An array of its own. -/
abbrev zero8 : Array Value := #[.int .i64 0, .int .i64 0, .int .i64 0, .int .i64 0, .int .i64 0, .int .i64 0, .int .i64 0, .int .i64 0]
abbrev zero4 : Array Value := #[.int .i64 0, .int .i64 0, .int .i64 0, .int .i64 0]
/-- The world in one of the document's parts of a step. -/
structure RfW (w wr : World) (B : Nat) (s : PSt) (vo vt : Value) (i : PIns) : Prop where
  below : Below w.heap.size w wr
  hB : w.heap.size ≤ B
  st : blk wr B (stC s vo vt) 35
  ins : blk wr (B + 1) (insC i) 55
  res : blk wr (B + 2) zeroS 35
  at' : StN wr vo vt s
theorem RfW.next {w wr w' : World} {B : Nat} {s : PSt} {vo vt : Value} {i : PIns} (h : RfW w wr B s vo vt i) (hb : Below wr.heap.size wr w') : RfW w w' B s vo vt i :=
  ⟨h.below.trans (hb.mono h.below.size), h.hB, blk_below h.st hb, blk_below h.ins hb, blk_below h.res hb, h.at'.below hb⟩
theorem RfW.size {w wr : World} {B : Nat} {s : PSt} {vo vt : Value} {i : PIns} (h : RfW w wr B s vo vt i) : B + 2 < wr.heap.size := blk_lt h.res
/-- The state's own block changes. -/
theorem RfW.put {w wr : World} {B : Nat} {s t : PSt} {vo vt vo' vt' : Value} {i : PIns} (h : RfW w wr B s vo vt i) (ht : StN wr vo' vt' t) : RfW w (putB wr B (stC t vo' vt') 35) B t vo' vt' i :=
  ⟨h.below.trans (putB_below _ h.hB _ _), h.hB, putB_at h.st _ _, by unfold blk; rw [putB_ne _ (by omega)]; exact h.ins, by unfold blk; rw [putB_ne _ (by omega)]; exact h.res, ht.putT h.st (by decide)⟩
/-- Another block of the call's own changes: no row's. -/
theorem RfW.other {w wr : World} {B X : Nat} {s : PSt} {vo vt : Value} {i : PIns} {C D : Array Value} {t t' : TypeId} (h : RfW w wr B s vo vt i) (hX : B + 2 < X) (hb : blk wr X C t) (ht : t ≠ 2 ∧ t ≠ 32) : RfW w (putB wr X D t') B s vo vt i :=
  ⟨h.below.trans (putB_below _ (by have := h.hB; omega) _ _), h.hB, by unfold blk; rw [putB_ne _ (by omega)]; exact h.st, by unfold blk; rw [putB_ne _ (by omega)]; exact h.ins, by unfold blk; rw [putB_ne _ (by omega)]; exact h.res, h.at'.putT hb ht⟩
/-- What a part of a step answers. -/
def PartPost (w : World) (t : PSt) (r : Value) (e : Ending) (w' : World) : Prop := ∃ vo vt, e = .returned (.tuple #[.agg (stC t vo vt), r]) ∧ StN w' vo vt t ∧ Below w.heap.size w w'
theorem RfW.post {w wr : World} {B : Nat} {s : PSt} {vo vt : Value} {i : PIns} {r : Value} (h : RfW w wr B s vo vt i) : PartPost w s r (.returned (.tuple #[.agg (stC s vo vt), r])) (putB wr (B + 2) (stC s vo vt) 35) :=
  ⟨vo, vt, rfl, h.at'.putT h.res (by decide), h.below.trans (putB_below _ (by have := h.hB; omega) _ _)⟩
theorem StN.setX {w : World} {vo vt : Value} {s : PSt} (h : StN w vo vt s) (k : Nat) (v : Int) : StN w vo vt { s with x := s.x.set k v } := ⟨⟨by rw [List.length_set]; exact h.len.x, h.len.p, h.len.g⟩, h.objs, h.out⟩
end Go.Proofs.YtmnoohpkjgjphaaDoor

/- The document's put: its contract. -/
namespace Go.Proofs.YtmnoohpkjgjphaaDoor
set_option linter.unusedSimpArgs false
set_option linter.unusedVariables false
open Go.RowKit

theorem own_empty (w : World) (t : TypeId) : (w.alloc (.cells #[] t)).ownsRow w.heap.size t 1 (.slice (some ⟨w.heap.size, 0, none⟩) 0 0) 0 [] :=
  ⟨rfl, .inr ⟨w.heap.size, 0, #[], rfl, Nat.le_refl _, blk_new _ _ _, Nat.le_refl _, Nat.zero_le _, rfl, rfl⟩⟩
theorem plainA {b off i : Nat} : (⟨b, off, none⟩ : Addr).add i = ⟨b, off + i, none⟩ := by
  unfold Addr.add
  by_cases h : i = 0 <;> simp [h]
/-- 'append([]T{}, v...)': a copy of a row in a row of the call's own. -/
theorem wpList_copy {t e : TypeId} {i0 : TypeInfo} {z : Value} {bytes : Nat} (hu : Tryd.prog.underlying t = some (.slice e)) (hi : Tryd.prog.info? e = some i0) (hz0 : i0.zero = some z) (hz1 : i0.size = 1) (hz2 : i0.bytes = bytes) (hzs : z.cells.size = 1) (hby : bytes ≤ 24)
    {w : World} {ops : Array Oper} {rest : List Oper} {o : Oper} {a : Act} {Q : Exit → Act → World → Prop} (hgd : o.guard = none) (s x : Operand)
    (ho : o.op = .call { callee := .builtin .append, args := #[s, x], argTypes := #[t, t] }) (base : Nat) (u : Value) (hs : a.eval s = u) (hown : w.ownsRow base e 1 u 0 []) (hbase : base ≤ w.heap.size)
    (v : Value) (cs : List Value) (hx : a.eval x = v) (hrow : RowN w v cs) (h1 : ∀ y ∈ cs, y.oneCell' = true) (hl : cs.length ≤ 1000000)
    (h : ∀ v' w', w'.ownsRow base e 1 v' cs.length cs → Below base w w' → wpList Tryd.prog ops Q rest (a.put o.dst v') w') : wpList Tryd.prog ops Q (o :: rest) a w := by
  rcases hrow.cases with ⟨rfl, rfl⟩ | ⟨h0, b, off, c, rfl, g1, g2, hb, hc⟩
  · refine wpList_plain hgd fun K hK => ?_
    have hrun := run_append_owned_none (P := Tryd.prog) (w := w) base t o.type e i0 1 hu hi u 0 [] hown
    unfold Oper.wp
    simp [execOp, ho, resolve, invoke, builtin, hs, hx, hrun, Result.andThen]
    exact hK _ _ (h u w hown (Below.refl _ _))
  · refine wpList_append_own _ hgd s x t ho base e i0 z 1 bytes hu hi hz0 hz1 hz2 hzs (by omega) u 0 [] hs hown ⟨b, off, none⟩ cs.length c cs hx (by omega) (fun j y hy => by rw [plainA]; exact hc j y hy) h1 (by unfold maxLen; omega) (by have : (0 + cs.length) * bytes ≤ 1000000 * 24 := Nat.mul_le_mul (by omega) hby; omega) hbase ?_
    intro v' w' h2 h3 _
    refine h v' w' (by simpa using h2) ?_
    exact (Below.refl base w).grown h3 hbase (fun g hg => (own_lt hown g hg).1)
theorem i64_ones (xs : List Int) : ∀ u ∈ i64s xs, u.oneCell' = true := fun u hu => by obtain ⟨x, _, rfl⟩ := List.mem_map.1 hu; rfl
theorem rowN_one {w : World} {v : Value} {cs : List Value} (h : RowN w v cs) : v.oneCell' = true := by
  obtain ⟨⟨a, c, e, _⟩, _⟩ := h
  rw [e]; rfl
theorem GridI.set_rowsN {w : World} {rows : List Value} {xss : List (List Int)} {k : Nat} {r : Value} {xs : List Int}
    (h : ∀ (j : Nat) (r : Value) (xs : List Int), rows[j]? = some r → xss[j]? = some xs → RowN w r (i64s xs)) (hr : RowN w r (i64s xs)) :
    ∀ (j : Nat) (r' : Value) (xs' : List Int), (rows.set k r)[j]? = some r' → (xss.set k xs)[j]? = some xs' → RowN w r' (i64s xs') := by
  intro j r' xs' h1 h2
  by_cases hj : k = j
  · subst hj
    rw [List.getElem?_set] at h1 h2
    simp only [if_true] at h1 h2
    split at h1 <;> split at h2 <;> simp_all
  · rw [List.getElem?_set_ne hj] at h1 h2
    exact h j r' xs' h1 h2
def PutPost (w : World) (rows : List Value) (k : Nat) (ys : List Int) (e : Ending) (w' : World) : Prop :=
  ∃ v1 r2, e = .returned v1 ∧ w'.ownsRow w.heap.size 32 1 v1 rows.length (rows.set k r2) ∧ w'.ownsRow w.heap.size 2 1 r2 ys.length (i64s ys) ∧ Below w.heap.size w w'
set_option maxRecDepth 100000 in
set_option maxHeartbeats 2000000 in
theorem put_at (w : World) (b off c k n : Nat) (v : Int) (rows : List Value) (r : Value) (xs : List Int) (hr : RowN w (.slice (some ⟨b, off, none⟩) rows.length c) rows) (hr1 : ∀ u ∈ rows, u.oneCell' = true) (hk : rows[k]? = some r) (hx : RowN w r (i64s xs)) (hn : n < xs.length) (hl1 : rows.length ≤ 1000000) (hl2 : xs.length ≤ 1000000) :
    Calls Tryd.prog 43 #[.slice (some ⟨b, off, none⟩) rows.length c, .int .i64 ((k : Int) + 1), .int .i64 n, .int .i64 v] w
      (PutPost w rows k (xs.set n v)) := by
  obtain ⟨i1, p1, p2, p3, p4⟩ := info_parts infoO
  obtain ⟨i2, q1, q2, q3, q4⟩ := info_parts info64
  have hkl := (List.getElem?_eq_some_iff.1 hk).1
  obtain ⟨b0, off0, c0, e0, gc1, gc2, hb0, hcell⟩ := (hr.cases).resolve_left (by rintro ⟨rfl, _⟩; simp at hk) |>.2
  simp only [Value.slice.injEq, Option.some.injEq, Addr.mk.injEq] at e0
  obtain ⟨⟨rfl, rfl, -⟩, -, rfl⟩ := e0
  unfold maxLen at gc2
  have hx0 : i64s xs ≠ [] := fun e => by have := congrArg List.length e; rw [i64s_len] at this; simp only [List.length_nil] at this; omega
  obtain ⟨-, b3, off3, c3, rfl, -, -, -, -⟩ := (hx.cases).resolve_left (fun h => hx0 h.1)
  clear hx0
  rw [i64s_len] at hk hx
  have HC := Lib.hid (hcell k _ hk)
  have HR := Lib.hid hr
  have H1 := Lib.hid hr1
  have HX := Lib.hid hx
  have HK := Lib.hid hk
  clear hr hr1 hx hk hcell
  go_enter Tryd.func43, Tryd.ntmps43
  go_upto_region 3 with (first
    | (refine wpList_copy Tryd.underlying31 p1 p2 p3 p4 rfl (by omega) rfl (.tmp 11) (.tmp 12) rfl w.heap.size _ rfl (own_empty w _) (by simp) _ rows rfl (HR.out.below ((Below.refl _ _).alloc (Nat.le_refl _) _)) H1.out hl1 ?_
       intro v1 w1 ho1 hb1
       obtain ⟨g1, c1, hv1, ha1, hg1⟩ := ho1.form (by omega)
       subst hv1
       have HO1 := Lib.hid ho1
       have HB1 := Lib.hid (((Below.refl _ _).alloc (Nat.le_refl _) _).trans hb1)
       have cr : w1.cell? ⟨b, off + k, none⟩ = some (.slice (some ⟨b3, off3, none⟩) xs.length c3) := by rw [HB1.out.cell (p := ⟨b, off + k, none⟩) hb0]; exact HC.out
       have hbw1 : b < w1.heap.size := by have := HB1.out.size; omega
       clear ho1 hb1)
    | (refine wpList_copy Tryd.underlying32 q1 q2 q3 q4 rfl (by omega) rfl (.tmp 14) (.tmp 19) rfl w1.heap.size _ rfl (own_empty w1 _) (by simp) _ (i64s xs) rfl ((HX.out.below HB1.out).below ((Below.refl _ _).alloc (Nat.le_refl _) _)) (i64_ones xs) (by simpa using hl2) ?_
       intro v2 w2 ho2 hb2
       obtain ⟨g2, c2, hv2, ha2, hg2⟩ := ho2.form (by rw [i64s_len]; omega)
       subst hv2
       have HO2 := Lib.hid ho2
       have HB2 := Lib.hid (((Below.refl _ _).alloc (Nat.le_refl _) _).trans hb2)
       clear ho2 hb2 cr))
  obtain ⟨cap2, cur2, e2, k1, k2, k3, k4, k5, -⟩ := own_cell HO2.out rfl
  have f2 := blk_frozen k3 n
  have d2 := blk_cell k3 n _ (Array.getElem?_eq_getElem (show n < cur2.size by rw [i64s_len] at k1; omega))
  go_upto_region 4 with (fail)
  have HO1b := Lib.hid (own_below HO1.out HB2.out)
  obtain ⟨cap1, cur1, e1, j1, j2, j3, j4, j5, -⟩ := own_cell HO1b.out rfl
  have hne : g1 ≠ g2 := by omega
  have HO2c : Hid ((w2.setCell ⟨g2, n, none⟩ (.int .i64 v)).ownsRow w1.heap.size 2 1 (.slice (some ⟨g2, 0, none⟩) xs.length c2) xs.length (i64s (xs.set n v))) := Lib.hid (by
    simp only [i64s_len] at HO2 k1 k5
    rw [setCell_putB k3]
    have := own_putC (n := xs.length) k3 (by omega) k1 k2 k4 n (.int .i64 v) k5
    rw [show i64s (xs.set n v) = (i64s xs).set n (.int .i64 v) by simp]
    exact this)
  have HO1c : Hid ((w2.setCell ⟨g2, n, none⟩ (.int .i64 v)).ownsRow w.heap.size 32 1 (.slice (some ⟨g1, 0, none⟩) rows.length c1) rows.length rows) := Lib.hid (by
    rw [setCell_putB k3]
    exact own_same HO1b.out (fun g hg _ => putB_ne w2 (fun e => hne (by simp [Value.ownBlock] at hg; simp at e; omega)) _ _))
  have HBc : Hid (Below w.heap.size w (w2.setCell ⟨g2, n, none⟩ (.int .i64 v))) := Lib.hid ((HB1.out.trans (HB2.out.mono HB1.out.size)).setCell (p := ⟨g2, n, none⟩) (by have := HB1.out.size; show w.heap.size ≤ g2; omega) _)
  clear f2 d2 k1 k2 k3 k4 k5 j1 j2 j3 j4 j5 HO1b HO1 HO2 HB1 HB2
  obtain ⟨w3, hw3⟩ : ∃ w3, w3 = w2.setCell ⟨g2, n, none⟩ (.int .i64 v) := ⟨_, rfl⟩
  rw [← hw3] at HO1c HO2c HBc ⊢
  clear hw3
  obtain ⟨cap1, cur1, e1, j1, j2, j3, j4, j5, -⟩ := own_cell HO1c.out rfl
  have f3 := blk_frozen j3 k
  have d3 := blk_cell j3 k _ (Array.getElem?_eq_getElem (show k < cur1.size by omega))
  go_wp2
  go_ret
  refine ⟨_, .slice (some ⟨g2, 0, none⟩) xs.length c2, rfl, ?_, ?_, HBc.out.setCell (p := ⟨g1, k, none⟩) (by show w.heap.size ≤ g1; omega) _⟩
  · rw [setCell_putB j3]
    exact own_putC (n := rows.length) j3 (by omega) j1 j2 j4 k _ j5
  · rw [setCell_putB j3, List.length_set]
    exact own_same (ownsRow_le HO2c.out (by omega)) (fun g hg _ => putB_ne w3 (fun e => hne (by simp [Value.ownBlock] at hg; omega)) _ _)
def PutG (w : World) (objs : List (List Int)) (e : Ending) (w' : World) : Prop := ∃ v1, e = .returned v1 ∧ GridN w' v1 objs ∧ Below w.heap.size w w'
theorem put_n (w : World) (vo : Value) (objs : List (List Int)) (o n v : Int) (h : GridN w vo objs) (h1 : 1 ≤ o) (h2 : o ≤ objs.length) (h3 : 0 ≤ n) (h4 : n < (objA objs o).length) (hl : objs.length ≤ 1000000) (hlx : ∀ xs ∈ objs, xs.length ≤ 1000000) :
    Calls Tryd.prog 43 #[vo, .int .i64 o, .int .i64 n, .int .i64 v] w (PutG w (putA objs o n v)) := by
  obtain ⟨k, rfl⟩ : ∃ k : Nat, o = (k : Int) + 1 := ⟨(o - 1).toNat, by omega⟩
  obtain ⟨m, rfl⟩ : ∃ m : Nat, n = m := ⟨n.toNat, by omega⟩
  obtain ⟨rows, hr1, hr2, hr3, hr4⟩ := id h
  have ek : ((k : Int) + 1).toNat - 1 = k := by omega
  have hk : k < objs.length := by omega
  have hxk : objs[k]? = some (objA objs ((k : Int) + 1)) := by
    unfold objA; rw [ek, List.getD_eq_getElem?_getD, List.getElem?_eq_getElem hk]; rfl
  have hrk : rows[k]? = some (rows[k]'(by omega)) := List.getElem?_eq_getElem (by omega)
  obtain ⟨⟨a, c, rfl, g1, g2, g3⟩, -⟩ := id hr2
  obtain ⟨b, off, rfl, -, -⟩ := g3.resolve_left (fun e => by have := congrArg List.length e; rw [hr1] at this; simp only [List.length_nil] at this; omega)
  have hm : m < (objA objs ((k : Int) + 1)).length := by omega
  refine (put_at w b off c k m v rows _ (objA objs ((k : Int) + 1)) hr2 (fun u hu => ?_) hrk (hr4 k _ _ hrk hxk) hm (by omega) (hlx _ (List.mem_of_getElem? hxk))).mono ?_
  · obtain ⟨j, hj⟩ := List.getElem?_of_mem hu
    have hlt := (List.getElem?_eq_some_iff.1 hj).1
    exact rowN_one (hr4 j u _ hj (List.getElem?_eq_getElem (show j < objs.length by omega)))
  · rintro e w' ⟨v1, r2, rfl, q1, q2, hb⟩
    have hput : putA objs ((k : Int) + 1) m v = objs.set k ((objA objs ((k : Int) + 1)).set m v) := by unfold putA; rw [ek, Int.toNat_natCast]
    have hne : (objA objs ((k : Int) + 1)).set m v ≠ [] := by
      intro e; have := congrArg List.length e; rw [List.length_set] at this; simp only [List.length_nil] at this; omega
    refine ⟨v1, rfl, ?_, hb⟩
    rw [hput]
    refine ⟨rows.set k r2, by simp [hr1], own_rowN q1 (by decide) (fun e => ?_), fun xs hxs => ?_, GridI.set_rowsN (fun j r xs a b => (hr4 j r xs a b).below hb) (own_rowN q2 (by decide) (fun e => absurd (List.length_eq_zero_iff.1 (by rw [← i64s_len, e]; rfl)) hne))⟩
    · have := congrArg List.length e; rw [List.length_set] at this; simp only [List.length_nil] at this; omega
    · rcases mem_set_or hxs with hm' | rfl
      · exact hr3 xs hm'
      · exact hne
end Go.Proofs.YtmnoohpkjgjphaaDoor

/- The document's numbers: its contract. -/
namespace Go.Proofs.YtmnoohpkjgjphaaDoor
set_option linter.unusedSimpArgs false
set_option linter.unusedVariables false
open Go.RowKit

theorem x8_info {l : List Int} (h : l.length = 8) : (Tryd.prog.info? 28).map (·.size) = some (xC l).size := by rw [xC_size, h]; exact infoX
theorem stC_one' {w : World} {vo vt : Value} {s : PSt} (h : StN w vo vt s) : (stC s vo vt).all (·.oneCell') = true := by
  obtain ⟨rows, _, h1, _⟩ := h.objs
  exact stC_one s (rowN_one h1) (rowN_one h.out)
/-- The world in numbers: an array of its own beside. -/
theorem RfW.start {w W0 : World} {s : PSt} {vo vt : Value} {i : PIns} (hW0 : W0 = ((w.alloc (.cells (stC s vo vt) 35)).alloc (.cells (insC i) 55)).alloc (.cells zeroS 35)) (h : StN w vo vt s) : RfW w W0 w.heap.size s vo vt i ∧ W0.heap.size = w.heap.size + 3 := by
  have s1 : (w.alloc (.cells (stC s vo vt) 35)).heap.size = w.heap.size + 1 := World.size_alloc _ _
  have s2 : ((w.alloc (.cells (stC s vo vt) 35)).alloc (.cells (insC i) 55)).heap.size = w.heap.size + 2 := by rw [World.size_alloc, s1]
  have hb : Below w.heap.size w W0 := by rw [hW0]; exact (((Below.refl _ _).alloc (Nat.le_refl _) _).alloc (by simp) _).alloc (by simp; omega) _
  have k2 := blk_new (w.alloc (.cells (stC s vo vt) 35)) (insC i) 55
  have k3 := blk_new ((w.alloc (.cells (stC s vo vt) 35)).alloc (.cells (insC i) 55)) zeroS 35
  rw [s1] at k2
  rw [s2] at k3
  refine ⟨⟨hb, Nat.le_refl _, ?_, ?_, ?_, h.below hb⟩, ?_⟩
  · rw [hW0]; exact blk_alloc (blk_alloc (blk_new _ _ _) _) _
  · rw [hW0]; exact blk_alloc k2 _
  · rw [hW0]; exact k3
  · rw [hW0, World.size_alloc, s2]
theorem ins_e {wr : World} {b : Nat} {i : PIns} (h : blk wr b (insC i) 55) : wr.cell? ⟨b, 0, none⟩ = some (.int .u8 i.op) ∧ wr.cell? ⟨b, 1, none⟩ = some (.int .u8 i.a) ∧ wr.cell? ⟨b, 2, none⟩ = some (.int .u8 i.b) ∧ wr.cell? ⟨b, 3, none⟩ = some (.int .u8 i.c) ∧ wr.cell? ⟨b, 4, none⟩ = some (.int .i64 i.n) :=
  ⟨blk_cell h 0 _ rfl, blk_cell h 1 _ rfl, blk_cell h 2 _ rfl, blk_cell h 3 _ rfl, blk_cell h 4 _ rfl⟩
theorem xC_cell {wr : World} {b : Nat} {l : List Int} {t : TypeId} (h : blk wr b (xC l) t) {k : Nat} (hk : k < l.length) : wr.cell? ⟨b, k, none⟩ = some (.int .i64 (l.getD k 0)) := blk_cell h k _ (xC_get hk)
theorem xC_put {wr : World} {b : Nat} {l : List Int} {t : TypeId} (h : blk wr b (xC l) t) (k : Nat) (v : Int) : blk (wr.setCell ⟨b, k, none⟩ (.int .i64 v)) b (xC (l.set k v)) t := by
  rw [setCell_putB h, xC_set]; exact putB_at h _ _
theorem rowI_form {w : World} {v : Value} {l : List Int} (h : RowN w v (i64s l)) : ∃ a c, v = .slice a l.length c ∧ l.length ≤ c ∧ c ≤ 9223372036854775807 := by
  obtain ⟨⟨a, c, rfl, h1, h2, h3⟩, -⟩ := h
  unfold maxLen at h2
  rw [i64s_len] at h1 ⊢
  exact ⟨a, c, rfl, h1, by omega⟩
theorem RfW.otherC {w wr : World} {B X : Nat} {s : PSt} {vo vt : Value} {i : PIns} {C : Array Value} {t : TypeId} {k : Nat} {v : Value} (h : RfW w wr B s vo vt i) (hX : B + 2 < X) (hb : blk wr X C t) (ht : t ≠ 2 ∧ t ≠ 32) : RfW w (wr.setCell ⟨X, k, none⟩ v) B s vo vt i := by
  rw [setCell_putB hb]; exact h.other hX hb ht

set_option maxRecDepth 100000 in
set_option maxHeartbeats 4000000 in
theorem num_1 (w W0 : World) (s : PSt) (vo vt : Value) (a ib c : Nat) (n : Int) (z : Nat) (h : StN w vo vt s)
    (hW0 : W0 = ((w.alloc (.cells (stC s vo vt) 35)).alloc (.cells (insC ⟨1, a, ib, c, n⟩) 55)).alloc (.cells zeroS 35)) (ha : a < 8) :
    Calls Tryd.prog 26 #[.agg (stC s vo vt), insV ⟨1, a, ib, c, n⟩] w (PartPost w (setX s a n) (.bool true)) := by
  obtain ⟨hw, hsz⟩ := RfW.start hW0 h
  have HW := Lib.hid hw
  have HL := Lib.hid h.len
  have HSZ := Lib.hid hsz
  clear hw h hsz
  go_enter Tryd.func26, Tryd.ntmps26
  go_upto_region 1 with (fail)
  rw [← hW0]
  clear hW0
  go_upto_region 2 with (first
    | (refine wpList_ldX rfl _ rfl rfl HW.out.st HL.out ?_)
    | (refine wpList_putB rfl 28 _ _ rfl W0.heap.size (xC s.x) rfl rfl 28 zero8 (blk_new W0 zero8 28) (x8_info HL.out.x) (by rw [xC_size, HL.out.x]; rfl) (xC_one _) ?_))
  have HW1 : Hid (RfW w (putB (W0.alloc (.cells zero8 28)) W0.heap.size (xC s.x) 28) w.heap.size s vo vt ⟨1, a, ib, c, n⟩) := Lib.hid (RfW.other (HW.out.next ((Below.refl _ _).alloc (Nat.le_refl _) _)) (by have := HSZ.out; omega) (blk_new W0 zero8 28) (by decide))
  have HX1 : Hid (blk (putB (W0.alloc (.cells zero8 28)) W0.heap.size (xC s.x) 28) W0.heap.size (xC s.x) 28) := Lib.hid (putB_at (blk_new W0 zero8 28) _ _)
  obtain ⟨X, hX⟩ : ∃ X, X = W0.heap.size := ⟨_, rfl⟩
  obtain ⟨w1, hw1⟩ : ∃ w1, w1 = putB (W0.alloc (.cells zero8 28)) W0.heap.size (xC s.x) 28 := ⟨_, rfl⟩
  rw [← hw1] at HW1 HX1 ⊢
  have hXB : w.heap.size + 2 < X := by have := HSZ.out; omega
  rw [← hX] at HX1 ⊢
  clear hw1 hX HW HSZ
  obtain ⟨e0, e1, e2, e3, e4⟩ := ins_e HW1.out.ins
  have hx8 := HL.out.x
  have ha8 : (a : Int) < 8 := by omega
  have ha0 : (0 : Int) ≤ (a : Int) := by omega
  have ca := xC_cell HX1.out (k := a) (by omega)
  have fa := blk_frozen HX1.out a
  go_upto_region 15 with (fail)
  have HW2 := Lib.hid (HW1.out.otherC (k := a) (v := .int .i64 n) hXB HX1.out (by decide))
  have HX2 := Lib.hid (xC_put HX1.out a n)
  have hlx : (s.x.set a n).length = 8 := by rw [List.length_set]; exact hx8
  clear HW1 HX1 ca fa e0 e1 e2 e3 e4
  obtain ⟨w2, hw2⟩ : ∃ w2, w2 = w1.setCell ⟨X, a, none⟩ (.int .i64 n) := ⟨_, rfl⟩
  rw [← hw2] at HW2 HX2 ⊢
  clear hw2
  go_wp2_with (first
    | (refine wpList_loadB rfl 28 _ rfl X (xC (s.x.set a n)) rfl 28 HX2.out _ Tryd.underlying28 rfl (x8_info hlx) ?_)
    | (refine wpList_putX rfl _ _ rfl rfl rfl HW2.out.st HW2.out.at'.len hlx ?_
       have HW3 := Lib.hid (HW2.out.put (t := { s with x := (s.x.set a n) }) ⟨⟨hlx, HW2.out.at'.len.p, HW2.out.at'.len.g⟩, HW2.out.at'.objs, HW2.out.at'.out⟩)
       clear HW2 HX2)
    | (refine wpList_loadB rfl 35 _ rfl w.heap.size _ rfl 35 HW3.out.st _ Tryd.underlying35 rfl (rstate_size HW3.out.at'.len) ?_)
    | (refine wpList_putB rfl 35 _ _ rfl (w.heap.size + 2) _ rfl rfl 35 _ HW3.out.res (rstate_size HW3.out.at'.len) (by rw [stC_size HW3.out.at'.len]; rfl) (stC_one' HW3.out.at') ?_))
  refine bodyPost_ret (v := .tuple #[.agg (stC { s with x := (s.x.set a n) } vo vt), .bool true]) ?_ rfl HW3.out.post
  rw [res_cell1 (p := 4) (u := 5) rfl _ _ (w.heap.size + 2) (stC { s with x := (s.x.set a n) } vo vt) 35 _ rfl (putB_at HW3.out.res _ _) Tryd.underlying35 rfl (rstate_size HW3.out.at'.len)]; rfl

set_option maxRecDepth 100000 in
set_option maxHeartbeats 4000000 in
theorem num_2 (w W0 : World) (s : PSt) (vo vt : Value) (a ib c : Nat) (n : Int) (h : StN w vo vt s)
    (hW0 : W0 = ((w.alloc (.cells (stC s vo vt) 35)).alloc (.cells (insC ⟨2, a, ib, c, n⟩) 55)).alloc (.cells zeroS 35)) (ha : a < 8) (hib : ib < 8) (hc : c < 8) (z : Int) (hz : Hid (wr64 (xA s ib + xA s c) = z)) :
    Calls Tryd.prog 26 #[.agg (stC s vo vt), insV ⟨2, a, ib, c, n⟩] w (PartPost w (setX s a z) (.bool true)) := by
  obtain ⟨hw, hsz⟩ := RfW.start hW0 h
  have HW := Lib.hid hw
  have HL := Lib.hid h.len
  have HSZ := Lib.hid hsz
  clear hw h hsz
  go_enter Tryd.func26, Tryd.ntmps26
  go_upto_region 1 with (fail)
  rw [← hW0]
  clear hW0
  go_upto_region 2 with (first
    | (refine wpList_ldX rfl _ rfl rfl HW.out.st HL.out ?_)
    | (refine wpList_putB rfl 28 _ _ rfl W0.heap.size (xC s.x) rfl rfl 28 zero8 (blk_new W0 zero8 28) (x8_info HL.out.x) (by rw [xC_size, HL.out.x]; rfl) (xC_one _) ?_))
  have HW1 : Hid (RfW w (putB (W0.alloc (.cells zero8 28)) W0.heap.size (xC s.x) 28) w.heap.size s vo vt ⟨2, a, ib, c, n⟩) := Lib.hid (RfW.other (HW.out.next ((Below.refl _ _).alloc (Nat.le_refl _) _)) (by have := HSZ.out; omega) (blk_new W0 zero8 28) (by decide))
  have HX1 : Hid (blk (putB (W0.alloc (.cells zero8 28)) W0.heap.size (xC s.x) 28) W0.heap.size (xC s.x) 28) := Lib.hid (putB_at (blk_new W0 zero8 28) _ _)
  obtain ⟨X, hX⟩ : ∃ X, X = W0.heap.size := ⟨_, rfl⟩
  obtain ⟨w1, hw1⟩ : ∃ w1, w1 = putB (W0.alloc (.cells zero8 28)) W0.heap.size (xC s.x) 28 := ⟨_, rfl⟩
  rw [← hw1] at HW1 HX1 ⊢
  have hXB : w.heap.size + 2 < X := by have := HSZ.out; omega
  rw [← hX] at HX1 ⊢
  clear hw1 hX HW HSZ
  obtain ⟨e0, e1, e2, e3, e4⟩ := ins_e HW1.out.ins
  have hx8 := HL.out.x
  have ha8 : (a : Int) < 8 := by omega
  have ha0 : (0 : Int) ≤ (a : Int) := by omega
  have hi8 : (ib : Int) < 8 := by omega
  have hi0 : (0 : Int) ≤ (ib : Int) := by omega
  have hc8 : (c : Int) < 8 := by omega
  have hc0 : (0 : Int) ≤ (c : Int) := by omega
  have ca := xC_cell HX1.out (k := a) (by omega)
  have cb : w1.cell? ⟨X, ib, none⟩ = some (.int .i64 (xA s ib)) := xC_cell HX1.out (k := ib) (by omega)
  have cc : w1.cell? ⟨X, c, none⟩ = some (.int .i64 (xA s c)) := xC_cell HX1.out (k := c) (by omega)
  have fa := blk_frozen HX1.out a
  go_upto_region 7 with (fail)
  refine wp_region_still_tail 11 (by kernel_rfl) (by kernel_rfl) ?_
  simp only [List.take_succ_cons, List.take_zero, List.drop_succ_cons, List.drop_zero]
  change wpStill _ _ w1.drew (fun a' => wpList _ _ _ _ a' w1.drew) _ _
  repeat still_step
  refine wpStill_nil ?_
  go_upto_region 15 with (fail)
  have HZ : Hid (wrap64 (xA s ib + xA s c) = z) := Lib.hid (by rw [← hz.out]; unfold wrap64 wr64; omega)
  rw [HZ.out]
  have HW2 : Hid (RfW w (w1.setCell ⟨X, a, none⟩ (.int .i64 z)).drew w.heap.size s vo vt ⟨2, a, ib, c, n⟩) := Lib.hid ((HW1.out.otherC (k := a) (v := .int .i64 z) hXB HX1.out (by decide)).next (Below.refl _ _).drew)
  have HX2 : Hid (blk (w1.setCell ⟨X, a, none⟩ (.int .i64 z)).drew X (xC (s.x.set a z)) 28) := Lib.hid (xC_put HX1.out a z)
  have hlx : (s.x.set a z).length = 8 := by rw [List.length_set]; exact hx8
  clear HW1 HX1 HZ ca cb cc fa e0 e1 e2 e3 e4
  obtain ⟨w2, hw2⟩ : ∃ w2, w2 = (w1.setCell ⟨X, a, none⟩ (.int .i64 z)).drew := ⟨_, rfl⟩
  rw [← hw2] at HW2 HX2 ⊢
  clear hw2
  go_wp2_with (first
    | (refine wpList_loadB rfl 28 _ rfl X (xC (s.x.set a z)) rfl 28 HX2.out _ Tryd.underlying28 rfl (x8_info hlx) ?_)
    | (refine wpList_putX rfl _ _ rfl rfl rfl HW2.out.st HW2.out.at'.len hlx ?_
       have HW3 := Lib.hid (HW2.out.put (t := { s with x := (s.x.set a z) }) ⟨⟨hlx, HW2.out.at'.len.p, HW2.out.at'.len.g⟩, HW2.out.at'.objs, HW2.out.at'.out⟩)
       clear HW2 HX2)
    | (refine wpList_loadB rfl 35 _ rfl w.heap.size _ rfl 35 HW3.out.st _ Tryd.underlying35 rfl (rstate_size HW3.out.at'.len) ?_)
    | (refine wpList_putB rfl 35 _ _ rfl (w.heap.size + 2) _ rfl rfl 35 _ HW3.out.res (rstate_size HW3.out.at'.len) (by rw [stC_size HW3.out.at'.len]; rfl) (stC_one' HW3.out.at') ?_))
  refine bodyPost_ret (v := .tuple #[.agg (stC { s with x := (s.x.set a z) } vo vt), .bool true]) ?_ rfl HW3.out.post
  rw [res_cell1 (p := 4) (u := 5) rfl _ _ (w.heap.size + 2) (stC { s with x := (s.x.set a z) } vo vt) 35 _ rfl (putB_at HW3.out.res _ _) Tryd.underlying35 rfl (rstate_size HW3.out.at'.len)]; rfl
end Go.Proofs.YtmnoohpkjgjphaaDoor
