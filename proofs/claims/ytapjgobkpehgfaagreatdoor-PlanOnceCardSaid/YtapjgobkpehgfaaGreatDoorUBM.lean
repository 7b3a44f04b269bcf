/-
  What the statements of layer 12 carry along.
  The document's put: its contract.
  The document's numbers: its contract.
-/
import Derived.Test.YtapjgobkpehgfaaGreatDoorUBL
import Derived.Test.YtapjgobkpehgfaaGreatDoorUAY
import Derived.Test.YtapjgobkpehgfaaGreatDoorUAQ
import Derived.Maps.AppendAt
import Derived.Laws.AppendOwnNone
import Derived.Outline
import Derived.StillTailTactics

/- What the statements of layer 12 carry along. -/
namespace Go.Proofs.YtapjgobkpehgfaaGreatDoor
set_option linter.unusedSimpArgs false
set_option linter.unusedVariables false
open Go.RowKit

/-- Best's answer, opened. -/
def BestPost (w : World) (p : PProg) (e : Ending) (w' : World) : Prop := ∃ a c, e = .returned (.tuple #[.slice a p.code.length c, .int .i64 0]) ∧ p.code.length ≤ c ∧ c ≤ 9223372036854775807 ∧ FactsAt w' (.slice a p.code.length c) (bestL p) ∧ Below w.heap.size w w'
theorem best_post {v : Value} {p : PProg} {w : World} (h : ProgAt w v p) (hs : OkP p) (hO : HasO w) (hc : (checkL p).2 = 0) : Calls Tryz.prog 9 #[v] w (BestPost w p) := by
  refine (plbest_n v p w h hs hO hc).mono ?_
  rintro e w' ⟨v1, rfl, hr, hb⟩
  obtain ⟨a, c, rfl, h1, h2⟩ := hr.form
  rw [best_len] at h1 hr ⊢
  exact ⟨a, c, rfl, h1, h2, hr, hb⟩
structure PK (w wr : World) (xm : Option Addr) (cm : Nat) (x x' : Option Addr) (kx kx' : Nat) (p : PProg) : Prop where
  keep : Keep wr w.heap.size (.slice x p.types.length kx) (.slice x' p.code.length kx') p
  below : Below w.heap.size w wr
  facts : FactsAt wr (.slice xm p.code.length cm) (bestL p)
section
variable {w wr w' : World} {xm x x' : Option Addr} {cm kx kx' : Nat} {p : PProg}
theorem PK.next (h : PK w wr xm cm x x' kx kx' p) (hb : Below wr.heap.size wr w') : PK w w' xm cm x x' kx kx' p :=
  ⟨h.keep.below hb, h.below.trans (hb.mono h.below.size), h.facts.below hb⟩
end
section
variable {q : PProg} {i : PIns} {k : Nat}
theorem loopV_nat {m : Nat} (hm : m ≤ q.code.length) : loopV q m = loopL q m := by unfold loopV wayV; rw [if_pos ⟨by omega, by omega⟩]; simp [loopL]
theorem best_cases : ((bestI q k i).st = false ∧ (bestI q k i).ra = false ∧ (bestI q k i).pl = false) ∨ ((bestI q k i).st = false ∧ (bestI q k i).ra = false ∧ (bestI q k i).pl = true ∧ i.op = 11) ∨ ((bestI q k i).st = false ∧ (bestI q k i).ra = true ∧ (bestI q k i).pl = false ∧ i.op = 5) ∨
    ((bestI q k i).st = true ∧ (bestI q k i).pl = false ∧ i.op = 5 ∧ loopL q k = false) := by
  rcases hs : (bestI q k i).st with _ | _
  · rcases hr : (bestI q k i).ra with _ | _
    · rcases hp : (bestI q k i).pl with _ | _
      · exact .inl ⟨rfl, rfl, rfl⟩
      · exact .inr (.inl ⟨rfl, rfl, rfl, (best_pl hp).1⟩)
    · have h5 := (best_ra hr).1
      rcases hp : (bestI q k i).pl with _ | _
      · exact .inr (.inr (.inl ⟨rfl, rfl, rfl, h5⟩))
      · have := (best_pl hp).1; omega
  · obtain ⟨h5, -, hl⟩ := best_st hs
    rcases hp : (bestI q k i).pl with _ | _
    · exact .inr (.inr (.inr ⟨rfl, rfl, h5, hl⟩))
    · have := (best_pl hp).1; omega
theorem plain_lt (hc : (checkL q).2 = 0) (hok : ∀ i ∈ q.code, OkI i) (hi : q.code[k]? = some i) (hp : (bestI q k i).pl = true) : 0 ≤ i.a ∧ i.a < 8 := by
  obtain ⟨h11, hb⟩ := best_pl hp
  have hm := List.mem_of_getElem? hi
  obtain ⟨hh, _, _, hall, _⟩ := check_ok hc
  obtain ⟨_, _, _, hk⟩ := ins_parts (hall i hm)
  obtain ⟨o0, o1, a0, a1, b0, b1, c0, c1, n0, n1⟩ := hok i hm
  have hl : 0 ≤ localI q i.a ∧ sameT (localI q i.b) (toP q.types (localI q i.a) i.n) = true := by unfold kindsB at hk; rw [h11] at hk; simpa using hk
  have hlt := (local_lt hh a0 hl.1).1
  have := (head_parts hh).2.2.1
  omega
theorem on_keep (hin : InP q) {s t : PSt} {seen : Nat → Bool} (h : OnI q s seen) (hi : q.code[s.pc]? = some i) (hd : doI q (onI s) i = some t) : OnI q t seen := by
  have h1 := on_next hin h hi hd false
  refine ⟨fun k hk => h1.way k ?_⟩
  split
  · simpa using hk
  · exact hk
theorem on_mark (hin : InP q) {s t : PSt} {seen : Nat → Bool} (h : OnI q s seen) (hi : q.code[s.pc]? = some i) (hd : doI q (onI s) i = some t) : OnI q t (addB seen s.pc) := by
  have h1 := on_next hin h hi hd true
  refine ⟨fun k hk => h1.way k ?_⟩
  split
  · rfl
  · next hne =>
    have : k = s.pc ∨ seen k = true := by simpa [addB] using hk
    exact this.resolve_left hne
theorem saved_two : ∀ l : List PFact, (∀ f ∈ l, f.pl = true → f.st = false ∧ f.ra = false) → savedS l + savedR l + savedP l ≤ 2 * l.length
  | [], _ => by simp [savedS, savedR, savedP]
  | f :: l, h => by
    have ih := saved_two l fun g hg => h g (List.mem_cons_of_mem _ hg)
    have h0 := h f List.mem_cons_self
    unfold savedS savedR savedP at ih ⊢
    rw [List.countP_cons, List.countP_cons, List.countP_cons, List.length_cons]
    rcases hp : f.pl with _ | _
    · simp only [Bool.false_eq_true, if_false]
      split <;> split <;> omega
    · obtain ⟨h1, h2⟩ := h0 hp
      rw [h1, h2]
      simp only [Bool.false_eq_true, if_false, if_true]
      omega
theorem best_mem {f : PFact} (h : f ∈ bestL q) : ∃ (k : Nat) (i : PIns), q.code[k]? = some i ∧ f = bestI q k i := by
  unfold bestL at h
  obtain ⟨k, hk, rfl⟩ := List.mem_map.1 h
  have hk := List.mem_range.1 hk
  have hi : q.code[k]? = some q.code[k] := List.getElem?_eq_getElem hk
  exact ⟨k, _, hi, by unfold bestK; rw [hi]⟩
/-- How much Best leaves out, as numbers. -/
theorem saved_nums (p : PProg) (_hc : (checkL p).2 = 0) (_hok : ∀ i ∈ p.code, OkI i) : ∃ s r t : Nat, (∀ w1 vl, FactsAt w1 vl (bestL p) → Calls Tryz.prog 15 #[vl] w1 (AggPost w1 (.tuple #[.int .i64 (s : Int), .int .i64 (r : Int), .int .i64 (t : Int)]))) ∧ s + r + t ≤ 2 * p.code.length ∧ s ≤ p.code.length ∧ r ≤ p.code.length ∧ t ≤ p.code.length := by
  refine ⟨savedS (bestL p), savedR (bestL p), savedP (bestL p), fun w1 vl h => plsaved_n vl _ w1 h, ?_, ?_⟩
  · rw [← best_len (q := p)]
    refine saved_two _ fun f hf hp => ?_
    obtain ⟨k, i, _, rfl⟩ := best_mem hf
    have h11 := (best_pl hp).1
    constructor
    · rcases hs : (bestI p k i).st with _ | _
      · rfl
      · have := (best_st hs).1; omega
    · rcases hs : (bestI p k i).ra with _ | _
      · rfl
      · have := (best_ra hs).1; omega
  · have h := saved_le (bestL p)
    rw [best_len] at h
    exact h
end
end Go.Proofs.YtapjgobkpehgfaaGreatDoor

/- The document's put: its contract. -/
namespace Go.Proofs.YtapjgobkpehgfaaGreatDoor
set_option linter.unusedSimpArgs false
set_option linter.unusedVariables false
open Go.RowKit

theorem own_empty (w : World) (t : TypeId) : (w.alloc (.cells #[] t)).ownsRow w.heap.size t 1 (.slice (some ⟨w.heap.size, 0, none⟩) 0 0) 0 [] :=
  ⟨rfl, .inr ⟨w.heap.size, 0, #[], rfl, Nat.le_refl _, blk_new _ _ _, Nat.le_refl _, Nat.zero_le _, rfl, rfl⟩⟩
theorem plainA {b off i : Nat} : (⟨b, off, none⟩ : Addr).add i = ⟨b, off + i, none⟩ := by
  unfold Addr.add
  by_cases h : i = 0 <;> simp [h]
/-- 'append([]T{}, v...)': a copy of a row in a row of the call's own. -/
theorem wpList_copy {t e : TypeId} {i0 : TypeInfo} {z : Value} {bytes : Nat} (hu : Tryz.prog.underlying t = some (.slice e)) (hi : Tryz.prog.info? e = some i0) (hz0 : i0.zero = some z) (hz1 : i0.size = 1) (hz2 : i0.bytes = bytes) (hzs : z.cells.size = 1) (hby : bytes ≤ 24)
    {w : World} {ops : Array Oper} {rest : List Oper} {o : Oper} {a : Act} {Q : Exit → Act → World → Prop} (hgd : o.guard = none) (s x : Operand)
    (ho : o.op = .call { callee := .builtin .append, args := #[s, x], argTypes := #[t, t] }) (base : Nat) (u : Value) (hs : a.eval s = u) (hown : w.ownsRow base e 1 u 0 []) (hbase : base ≤ w.heap.size)
    (v : Value) (cs : List Value) (hx : a.eval x = v) (hrow : RowN w v cs) (h1 : ∀ y ∈ cs, y.oneCell' = true) (hl : cs.length ≤ 1000000)
    (h : ∀ v' w', w'.ownsRow base e 1 v' cs.length cs → Below base w w' → wpList Tryz.prog ops Q rest (a.put o.dst v') w') : wpList Tryz.prog ops Q (o :: rest) a w := by
  rcases hrow.cases with ⟨rfl, rfl⟩ | ⟨h0, b, off, c, rfl, g1, g2, hb, hc⟩
  · refine wpList_plain hgd fun K hK => ?_
    have hrun := run_append_owned_none (P := Tryz.prog) (w := w) base t o.type e i0 1 hu hi u 0 [] hown
    unfold Oper.wp
    simp [execOp, ho, resolve, invoke, builtin, hs, hx, hrun, Result.andThen]
    exact hK _ _ (h u w hown (Below.refl _ _))
  · refine wpList_append_own _ hgd s x t ho base e i0 z 1 bytes hu hi hz0 hz1 hz2 hzs (by omega) u 0 [] hs hown ⟨b, off, none⟩ cs.length c cs hx (by omega) (fun j y hy => by rw [plainA]; exact hc j y hy) h1 (by unfold maxLen; omega) (by have : (0 + cs.length) * bytes ≤ 1000000 * 24 := Nat.mul_le_mul (by omega) hby; omega) hbase ?_
    intro v' w' h2 h3 _
    refine h v' w' (by simpa using h2) ?_
    exact (Below.refl base w).grown h3 hbase (fun g hg => (own_lt hown g hg).1)
theorem i64_ones (xs : List Int) : ∀ u ∈ i64s xs, u.oneCell' = true := fun u hu => by obtain ⟨x, _, rfl⟩ := List.mem_map.1 hu; rfl
theorem rowN_one {w : World} {v : Value} {cs : List Value} (h : RowN w v cs) : v.oneCell' = true := by
  obtain ⟨⟨a, c, e, _⟩, _⟩ := h
  rw [e]; rfl
theorem GridI.set_rowsN {w : World} {rows : List Value} {xss : List (List Int)} {k : Nat} {r : Value} {xs : List Int}
    (h : ∀ (j : Nat) (r : Value) (xs : List Int), rows[j]? = some r → xss[j]? = some xs → RowN w r (i64s xs)) (hr : RowN w r (i64s xs)) :
    ∀ (j : Nat) (r' : Value) (xs' : List Int), (rows.set k r)[j]? = some r' → (xss.set k xs)[j]? = some xs' → RowN w r' (i64s xs') := by
  intro j r' xs' h1 h2
  by_cases hj : k = j
  · subst hj
    rw [List.getElem?_set] at h1 h2
    simp only [if_true] at h1 h2
    split at h1 <;> split at h2 <;> simp_all
  · rw [List.getElem?_set_ne hj] at h1 h2
    exact h j r' xs' h1 h2
def PutPost (w : World) (rows : List Value) (k : Nat) (ys : List Int) (e : Ending) (w' : World) : Prop :=
  ∃ v1 r2, e = .returned v1 ∧ w'.ownsRow w.heap.size 42 1 v1 rows.length (rows.set k r2) ∧ w'.ownsRow w.heap.size 2 1 r2 ys.length (i64s ys) ∧ Below w.heap.size w w'
set_option maxRecDepth 100000 in
set_option maxHeartbeats 2000000 in
theorem put_at (w : World) (b off c k n : Nat) (v : Int) (rows : List Value) (r : Value) (xs : List Int) (hr : RowN w (.slice (some ⟨b, off, none⟩) rows.length c) rows) (hr1 : ∀ u ∈ rows, u.oneCell' = true) (hk : rows[k]? = some r) (hx : RowN w r (i64s xs)) (hn : n < xs.length) (hl1 : rows.length ≤ 1000000) (hl2 : xs.length ≤ 1000000) :
    Calls Tryz.prog 46 #[.slice (some ⟨b, off, none⟩) rows.length c, .int .i64 ((k : Int) + 1), .int .i64 n, .int .i64 v] w
      (PutPost w rows k (xs.set n v)) := by
  obtain ⟨i1, p1, p2, p3, p4⟩ := info_parts infoO
  obtain ⟨i2, q1, q2, q3, q4⟩ := info_parts info64
  have hkl := (List.getElem?_eq_some_iff.1 hk).1
  obtain ⟨b0, off0, c0, e0, gc1, gc2, hb0, hcell⟩ := (hr.cases).resolve_left (by rintro ⟨rfl, _⟩; simp at hk) |>.2
  simp only [Value.slice.injEq, Option.some.injEq, Addr.mk.injEq] at e0
  obtain ⟨⟨rfl, rfl, -⟩, -, rfl⟩ := e0
  unfold maxLen at gc2
  have hx0 : i64s xs ≠ [] := fun e => by have := congrArg List.length e; rw [i64s_len] at this; simp only [List.length_nil] at this; omega
  obtain ⟨-, b3, off3, c3, rfl, -, -, -, -⟩ := (hx.cases).resolve_left (fun h => hx0 h.1)
  clear hx0
  rw [i64s_len] at hk hx
  have HC := Lib.hid (hcell k _ hk)
  have HR := Lib.hid hr
  have H1 := Lib.hid hr1
  have HX := Lib.hid hx
  have HK := Lib.hid hk
  clear hr hr1 hx hk hcell
  go_enter Tryz.func46, Tryz.ntmps46
  go_upto_region 3 with (first
    | (refine wpList_copy Tryz.underlying41 p1 p2 p3 p4 rfl (by omega) rfl (.tmp 11) (.tmp 12) rfl w.heap.size _ rfl (own_empty w _) (by simp) _ rows rfl (HR.out.below ((Below.refl _ _).alloc (Nat.le_refl _) _)) H1.out hl1 ?_
       intro v1 w1 ho1 hb1
       obtain ⟨g1, c1, hv1, ha1, hg1⟩ := ho1.form (by omega)
       subst hv1
       have HO1 := Lib.hid ho1
       have HB1 := Lib.hid (((Below.refl _ _).alloc (Nat.le_refl _) _).trans hb1)
       have cr : w1.cell? ⟨b, off + k, none⟩ = some (.slice (some ⟨b3, off3, none⟩) xs.length c3) := by rw [HB1.out.cell (p := ⟨b, off + k, none⟩) hb0]; exact HC.out
       have hbw1 : b < w1.heap.size := by have := HB1.out.size; omega
       clear ho1 hb1)
    | (refine wpList_copy Tryz.underlying42 q1 q2 q3 q4 rfl (by omega) rfl (.tmp 14) (.tmp 19) rfl w1.heap.size _ rfl (own_empty w1 _) (by simp) _ (i64s xs) rfl ((HX.out.below HB1.out).below ((Below.refl _ _).alloc (Nat.le_refl _) _)) (i64_ones xs) (by simpa using hl2) ?_
       intro v2 w2 ho2 hb2
       obtain ⟨g2, c2, hv2, ha2, hg2⟩ := ho2.form (by rw [i64s_len]; omega)
       subst hv2
       have HO2 := Lib.hid ho2
       have HB2 := Lib.hid (((Below.refl _ _).alloc (Nat.le_refl _) _).trans hb2)
       clear ho2 hb2 cr))
  obtain ⟨cap2, cur2, e2, k1, k2, k3, k4, k5, -⟩ := own_cell HO2.out rfl
  have f2 := blk_frozen k3 n
  have d2 := blk_cell k3 n _ (Array.getElem?_eq_getElem (show n < cur2.size by rw [i64s_len] at k1; omega))
  go_upto_region 4 with (fail)
  have HO1b := Lib.hid (own_below HO1.out HB2.out)
  obtain ⟨cap1, cur1, e1, j1, j2, j3, j4, j5, -⟩ := own_cell HO1b.out rfl
  have hne : g1 ≠ g2 := by omega
  have HO2c : Hid ((w2.setCell ⟨g2, n, none⟩ (.int .i64 v)).ownsRow w1.heap.size 2 1 (.slice (some ⟨g2, 0, none⟩) xs.length c2) xs.length (i64s (xs.set n v))) := Lib.hid (by
    simp only [i64s_len] at HO2 k1 k5
    rw [setCell_putB k3]
    have := own_putC (n := xs.length) k3 (by omega) k1 k2 k4 n (.int .i64 v) k5
    rw [show i64s (xs.set n v) = (i64s xs).set n (.int .i64 v) by simp]
    exact this)
  have HO1c : Hid ((w2.setCell ⟨g2, n, none⟩ (.int .i64 v)).ownsRow w.heap.size 42 1 (.slice (some ⟨g1, 0, none⟩) rows.length c1) rows.length rows) := Lib.hid (by
    rw [setCell_putB k3]
    exact own_same HO1b.out (fun g hg _ => putB_ne w2 (fun e => hne (by simp [Value.ownBlock] at hg; simp at e; omega)) _ _))
  have HBc : Hid (Below w.heap.size w (w2.setCell ⟨g2, n, none⟩ (.int .i64 v))) := Lib.hid ((HB1.out.trans (HB2.out.mono HB1.out.size)).setCell (p := ⟨g2, n, none⟩) (by have := HB1.out.size; show w.heap.size ≤ g2; omega) _)
  clear f2 d2 k1 k2 k3 k4 k5 j1 j2 j3 j4 j5 HO1b HO1 HO2 HB1 HB2
  obtain ⟨w3, hw3⟩ : ∃ w3, w3 = w2.setCell ⟨g2, n, none⟩ (.int .i64 v) := ⟨_, rfl⟩
  rw [← hw3] at HO1c HO2c HBc ⊢
  clear hw3
  obtain ⟨cap1, cur1, e1, j1, j2, j3, j4, j5, -⟩ := own_cell HO1c.out rfl
  have f3 := blk_frozen j3 k
  have d3 := blk_cell j3 k _ (Array.getElem?_eq_getElem (show k < cur1.size by omega))
  go_wp2
  go_ret
  refine ⟨_, .slice (some ⟨g2, 0, none⟩) xs.length c2, rfl, ?_, ?_, HBc.out.setCell (p := ⟨g1, k, none⟩) (by show w.heap.size ≤ g1; omega) _⟩
  · rw [setCell_putB j3]
    exact own_putC (n := rows.length) j3 (by omega) j1 j2 j4 k _ j5
  · rw [setCell_putB j3, List.length_set]
    exact own_same (ownsRow_le HO2c.out (by omega)) (fun g hg _ => putB_ne w3 (fun e => hne (by simp [Value.ownBlock] at hg; omega)) _ _)
def PutG (w : World) (objs : List (List Int)) (e : Ending) (w' : World) : Prop := ∃ v1, e = .returned v1 ∧ GridN w' v1 objs ∧ Below w.heap.size w w'
theorem put_n (w : World) (vo : Value) (objs : List (List Int)) (o n v : Int) (h : GridN w vo objs) (h1 : 1 ≤ o) (h2 : o ≤ objs.length) (h3 : 0 ≤ n) (h4 : n < (objA objs o).length) (hl : objs.length ≤ 1000000) (hlx : ∀ xs ∈ objs, xs.length ≤ 1000000) :
    Calls Tryz.prog 46 #[vo, .int .i64 o, .int .i64 n, .int .i64 v] w (PutG w (putA objs o n v)) := by
  obtain ⟨k, rfl⟩ : ∃ k : Nat, o = (k : Int) + 1 := ⟨(o - 1).toNat, by omega⟩
  obtain ⟨m, rfl⟩ : ∃ m : Nat, n = m := ⟨n.toNat, by omega⟩
  obtain ⟨rows, hr1, hr2, hr3, hr4⟩ := id h
  have ek : ((k : Int) + 1).toNat - 1 = k := by omega
  have hk : k < objs.length := by omega
  have hxk : objs[k]? = some (objA objs ((k : Int) + 1)) := by
    unfold objA; rw [ek, List.getD_eq_getElem?_getD, List.getElem?_eq_getElem hk]; rfl
  have hrk : rows[k]? = some (rows[k]'(by omega)) := List.getElem?_eq_getElem (by omega)
  obtain ⟨⟨a, c, rfl, g1, g2, g3⟩, -⟩ := id hr2
  obtain ⟨b, off, rfl, -, -⟩ := g3.resolve_left (fun e => by have := congrArg List.length e; rw [hr1] at this; simp only [List.length_nil] at this; omega)
  have hm : m < (objA objs ((k : Int) + 1)).length := by omega
  refine (put_at w b off c k m v rows _ (objA objs ((k : Int) + 1)) hr2 (fun u hu => ?_) hrk (hr4 k _ _ hrk hxk) hm (by omega) (hlx _ (List.mem_of_getElem? hxk))).mono ?_
  · obtain ⟨j, hj⟩ := List.getElem?_of_mem hu
    have hlt := (List.getElem?_eq_some_iff.1 hj).1
    exact rowN_one (hr4 j u _ hj (List.getElem?_eq_getElem (show j < objs.length by omega)))
  · rintro e w' ⟨v1, r2, rfl, q1, q2, hb⟩
    have hput : putA objs ((k : Int) + 1) m v = objs.set k ((objA objs ((k : Int) + 1)).set m v) := by unfold putA; rw [ek, Int.toNat_natCast]
    have hne : (objA objs ((k : Int) + 1)).set m v ≠ [] := by
      intro e; have := congrArg List.length e; rw [List.length_set] at this; simp only [List.length_nil] at this; omega
    refine ⟨v1, rfl, ?_, hb⟩
    rw [hput]
    refine ⟨rows.set k r2, by simp [hr1], own_rowN q1 (by decide) (fun e => ?_), fun xs hxs => ?_, GridI.set_rowsN (fun j r xs a b => (hr4 j r xs a b).below hb) (own_rowN q2 (by decide) (fun e => absurd (List.length_eq_zero_iff.1 (by rw [← i64s_len, e]; rfl)) hne))⟩
    · have := congrArg List.length e; rw [List.length_set] at this; simp only [List.length_nil] at this; omega
    · rcases mem_set_or hxs with hm' | rfl
      · exact hr3 xs hm'
      · exact hne
end Go.Proofs.YtapjgobkpehgfaaGreatDoor

/- The document's numbers: its contract. -/
namespace Go.Proofs.YtapjgobkpehgfaaGreatDoor
set_option linter.unusedSimpArgs false
set_option linter.unusedVariables false
open Go.RowKit

theorem x8_info {l : List Int} (h : l.length = 8) : (Tryz.prog.info? 38).map (·.size) = some (xC l).size := by rw [xC_size, h]; exact infoX
theorem stC_one' {w : World} {vo vt : Value} {s : PSt} (h : StN w vo vt s) : (stC s vo vt).all (·.oneCell') = true := by
  obtain ⟨rows, _, h1, _⟩ := h.objs
  exact stC_one s (rowN_one h1) (rowN_one h.out)
/-- The world in numbers: an array of its own beside. -/
theorem RfW.start {w W0 : World} {s : PSt} {vo vt : Value} {i : PIns} (hW0 : W0 = ((w.alloc (.cells (stC s vo vt) 44)).alloc (.cells (insC i) 46)).alloc (.cells zeroS 44)) (h : StN w vo vt s) : RfW w W0 w.heap.size s vo vt i ∧ W0.heap.size = w.heap.size + 3 := by
  have s1 : (w.alloc (.cells (stC s vo vt) 44)).heap.size = w.heap.size + 1 := World.size_alloc _ _
  have s2 : ((w.alloc (.cells (stC s vo vt) 44)).alloc (.cells (insC i) 46)).heap.size = w.heap.size + 2 := by rw [World.size_alloc, s1]
  have hb : Below w.heap.size w W0 := by rw [hW0]; exact (((Below.refl _ _).alloc (Nat.le_refl _) _).alloc (by simp) _).alloc (by simp; omega) _
  have k2 := blk_new (w.alloc (.cells (stC s vo vt) 44)) (insC i) 46
  have k3 := blk_new ((w.alloc (.cells (stC s vo vt) 44)).alloc (.cells (insC i) 46)) zeroS 44
  rw [s1] at k2
  rw [s2] at k3
  refine ⟨⟨hb, Nat.le_refl _, ?_, ?_, ?_, h.below hb⟩, ?_⟩
  · rw [hW0]; exact blk_alloc (blk_alloc (blk_new _ _ _) _) _
  · rw [hW0]; exact blk_alloc k2 _
  · rw [hW0]; exact k3
  · rw [hW0, World.size_alloc, s2]
theorem ins_e {wr : World} {b : Nat} {i : PIns} (h : blk wr b (insC i) 46) : wr.cell? ⟨b, 0, none⟩ = some (.int .u8 i.op) ∧ wr.cell? ⟨b, 1, none⟩ = some (.int .u8 i.a) ∧ wr.cell? ⟨b, 2, none⟩ = some (.int .u8 i.b) ∧ wr.cell? ⟨b, 3, none⟩ = some (.int .u8 i.c) ∧ wr.cell? ⟨b, 4, none⟩ = some (.int .i64 i.n) :=
  ⟨blk_cell h 0 _ rfl, blk_cell h 1 _ rfl, blk_cell h 2 _ rfl, blk_cell h 3 _ rfl, blk_cell h 4 _ rfl⟩
theorem xC_cell {wr : World} {b : Nat} {l : List Int} {t : TypeId} (h : blk wr b (xC l) t) {k : Nat} (hk : k < l.length) : wr.cell? ⟨b, k, none⟩ = some (.int .i64 (l.getD k 0)) := blk_cell h k _ (xC_get hk)
theorem xC_put {wr : World} {b : Nat} {l : List Int} {t : TypeId} (h : blk wr b (xC l) t) (k : Nat) (v : Int) : blk (wr.setCell ⟨b, k, none⟩ (.int .i64 v)) b (xC (l.set k v)) t := by
  rw [setCell_putB h, xC_set]; exact putB_at h _ _
theorem rowI_form {w : World} {v : Value} {l : List Int} (h : RowN w v (i64s l)) : ∃ a c, v = .slice a l.length c ∧ l.length ≤ c ∧ c ≤ 9223372036854775807 := by
  obtain ⟨⟨a, c, rfl, h1, h2, h3⟩, -⟩ := h
  unfold maxLen at h2
  rw [i64s_len] at h1 ⊢
  exact ⟨a, c, rfl, h1, by omega⟩
theorem RfW.otherC {w wr : World} {B X : Nat} {s : PSt} {vo vt : Value} {i : PIns} {C : Array Value} {t : TypeId} {k : Nat} {v : Value} (h : RfW w wr B s vo vt i) (hX : B + 2 < X) (hb : blk wr X C t) (ht : t ≠ 2 ∧ t ≠ 42) : RfW w (wr.setCell ⟨X, k, none⟩ v) B s vo vt i := by
  rw [setCell_putB hb]; exact h.other hX hb ht

set_option maxRecDepth 100000 in
set_option maxHeartbeats 4000000 in
theorem num_1 (w W0 : World) (s : PSt) (vo vt : Value) (a ib c : Nat) (n : Int) (z : Nat) (h : StN w vo vt s)
    (hW0 : W0 = ((w.alloc (.cells (stC s vo vt) 44)).alloc (.cells (insC ⟨1, a, ib, c, n⟩) 46)).alloc (.cells zeroS 44)) (ha : a < 8) :
    Calls Tryz.prog 24 #[.agg (stC s vo vt), insV ⟨1, a, ib, c, n⟩] w (PartPost w (setX s a n) (.bool true)) := by
  obtain ⟨hw, hsz⟩ := RfW.start hW0 h
  have HW := Lib.hid hw
  have HL := Lib.hid h.len
  have HSZ := Lib.hid hsz
  clear hw h hsz
  go_enter Tryz.func24, Tryz.ntmps24
  go_upto_region 1 with (fail)
  rw [← hW0]
  clear hW0
  go_upto_region 2 with (first
    | (refine wpList_ldX rfl _ rfl rfl HW.out.st HL.out ?_)
    | (refine wpList_putB rfl 38 _ _ rfl W0.heap.size (xC s.x) rfl rfl 38 zero8 (blk_new W0 zero8 38) (x8_info HL.out.x) (by rw [xC_size, HL.out.x]; rfl) (xC_one _) ?_))
  have HW1 : Hid (RfW w (putB (W0.alloc (.cells zero8 38)) W0.heap.size (xC s.x) 38) w.heap.size s vo vt ⟨1, a, ib, c, n⟩) := Lib.hid (RfW.other (HW.out.next ((Below.refl _ _).alloc (Nat.le_refl _) _)) (by have := HSZ.out; omega) (blk_new W0 zero8 38) (by decide))
  have HX1 : Hid (blk (putB (W0.alloc (.cells zero8 38)) W0.heap.size (xC s.x) 38) W0.heap.size (xC s.x) 38) := Lib.hid (putB_at (blk_new W0 zero8 38) _ _)
  obtain ⟨X, hX⟩ : ∃ X, X = W0.heap.size := ⟨_, rfl⟩
  obtain ⟨w1, hw1⟩ : ∃ w1, w1 = putB (W0.alloc (.cells zero8 38)) W0.heap.size (xC s.x) 38 := ⟨_, rfl⟩
  rw [← hw1] at HW1 HX1 ⊢
  have hXB : w.heap.size + 2 < X := by have := HSZ.out; omega
  rw [← hX] at HX1 ⊢
  clear hw1 hX HW HSZ
  obtain ⟨e0, e1, e2, e3, e4⟩ := ins_e HW1.out.ins
  have hx8 := HL.out.x
  have ha8 : (a : Int) < 8 := by omega
  have ha0 : (0 : Int) ≤ (a : Int) := by omega
  have ca := xC_cell HX1.out (k := a) (by omega)
  have fa := blk_frozen HX1.out a
  go_upto_region 15 with (fail)
  have HW2 := Lib.hid (HW1.out.otherC (k := a) (v := .int .i64 n) hXB HX1.out (by decide))
  have HX2 := Lib.hid (xC_put HX1.out a n)
  have hlx : (s.x.set a n).length = 8 := by rw [List.length_set]; exact hx8
  clear HW1 HX1 ca fa e0 e1 e2 e3 e4
  obtain ⟨w2, hw2⟩ : ∃ w2, w2 = w1.setCell ⟨X, a, none⟩ (.int .i64 n) := ⟨_, rfl⟩
  rw [← hw2] at HW2 HX2 ⊢
  clear hw2
  go_wp2_with (first
    | (refine wpList_loadB rfl 38 _ rfl X (xC (s.x.set a n)) rfl 38 HX2.out _ Tryz.underlying38 rfl (x8_info hlx) ?_)
    | (refine wpList_putX rfl _ _ rfl rfl rfl HW2.out.st HW2.out.at'.len hlx ?_
       have HW3 := Lib.hid (HW2.out.put (t := { s with x := (s.x.set a n) }) ⟨⟨hlx, HW2.out.at'.len.p, HW2.out.at'.len.g⟩, HW2.out.at'.objs, HW2.out.at'.out⟩)
       clear HW2 HX2)
    | (refine wpList_loadB rfl 44 _ rfl w.heap.size _ rfl 44 HW3.out.st _ Tryz.underlying44 rfl (rstate_size HW3.out.at'.len) ?_)
    | (refine wpList_putB rfl 44 _ _ rfl (w.heap.size + 2) _ rfl rfl 44 _ HW3.out.res (rstate_size HW3.out.at'.len) (by rw [stC_size HW3.out.at'.len]; rfl) (stC_one' HW3.out.at') ?_))
  refine bodyPost_ret (v := .tuple #[.agg (stC { s with x := (s.x.set a n) } vo vt), .bool true]) ?_ rfl HW3.out.post
  rw [res_cell1 (p := 4) (u := 5) rfl _ _ (w.heap.size + 2) (stC { s with x := (s.x.set a n) } vo vt) 44 _ rfl (putB_at HW3.out.res _ _) Tryz.underlying44 rfl (rstate_size HW3.out.at'.len)]; rfl

set_option maxRecDepth 100000 in
set_option maxHeartbeats 4000000 in
theorem num_2 (w W0 : World) (s : PSt) (vo vt : Value) (a ib c : Nat) (n : Int) (h : StN w vo vt s)
    (hW0 : W0 = ((w.alloc (.cells (stC s vo vt) 44)).alloc (.cells (insC ⟨2, a, ib, c, n⟩) 46)).alloc (.cells zeroS 44)) (ha : a < 8) (hib : ib < 8) (hc : c < 8) (z : Int) (hz : Hid (wr64 (xA s ib + xA s c) = z)) :
    Calls Tryz.prog 24 #[.agg (stC s vo vt), insV ⟨2, a, ib, c, n⟩] w (PartPost w (setX s a z) (.bool true)) := by
  obtain ⟨hw, hsz⟩ := RfW.start hW0 h
  have HW := Lib.hid hw
  have HL := Lib.hid h.len
  have HSZ := Lib.hid hsz
  clear hw h hsz
  go_enter Tryz.func24, Tryz.ntmps24
  go_upto_region 1 with (fail)
  rw [← hW0]
  clear hW0
  go_upto_region 2 with (first
    | (refine wpList_ldX rfl _ rfl rfl HW.out.st HL.out ?_)
    | (refine wpList_putB rfl 38 _ _ rfl W0.heap.size (xC s.x) rfl rfl 38 zero8 (blk_new W0 zero8 38) (x8_info HL.out.x) (by rw [xC_size, HL.out.x]; rfl) (xC_one _) ?_))
  have HW1 : Hid (RfW w (putB (W0.alloc (.cells zero8 38)) W0.heap.size (xC s.x) 38) w.heap.size s vo vt ⟨2, a, ib, c, n⟩) := Lib.hid (RfW.other (HW.out.next ((Below.refl _ _).alloc (Nat.le_refl _) _)) (by have := HSZ.out; omega) (blk_new W0 zero8 38) (by decide))
  have HX1 : Hid (blk (putB (W0.alloc (.cells zero8 38)) W0.heap.size (xC s.x) 38) W0.heap.size (xC s.x) 38) := Lib.hid (putB_at (blk_new W0 zero8 38) _ _)
  obtain ⟨X, hX⟩ : ∃ X, X = W0.heap.size := ⟨_, rfl⟩
  obtain ⟨w1, hw1⟩ : ∃ w1, w1 = putB (W0.alloc (.cells zero8 38)) W0.heap.size (xC s.x) 38 := ⟨_, rfl⟩
  rw [← hw1] at HW1 HX1 ⊢
  have hXB : w.heap.size + 2 < X := by have := HSZ.out; omega
  rw [← hX] at HX1 ⊢
  clear hw1 hX HW HSZ
  obtain ⟨e0, e1, e2, e3, e4⟩ := ins_e HW1.out.ins
  have hx8 := HL.out.x
  have ha8 : (a : Int) < 8 := by omega
  have ha0 : (0 : Int) ≤ (a : Int) := by omega
  have hi8 : (ib : Int) < 8 := by omega
  have hi0 : (0 : Int) ≤ (ib : Int) := by omega
  have hc8 : (c : Int) < 8 := by omega
  have hc0 : (0 : Int) ≤ (c : Int) := by omega
  have ca := xC_cell HX1.out (k := a) (by omega)
  have cb : w1.cell? ⟨X, ib, none⟩ = some (.int .i64 (xA s ib)) := xC_cell HX1.out (k := ib) (by omega)
  have cc : w1.cell? ⟨X, c, none⟩ = some (.int .i64 (xA s c)) := xC_cell HX1.out (k := c) (by omega)
  have fa := blk_frozen HX1.out a
  go_upto_region 7 with (fail)
  refine wp_region_still_tail 11 (by kernel_rfl) (by kernel_rfl) ?_
  simp only [List.take_succ_cons, List.take_zero, List.drop_succ_cons, List.drop_zero]
  change wpStill _ _ w1.drew (fun a' => wpList _ _ _ _ a' w1.drew) _ _
  repeat still_step
  refine wpStill_nil ?_
  go_upto_region 15 with (fail)
  have HZ : Hid (wrap64 (xA s ib + xA s c) = z) := Lib.hid (by rw [← hz.out]; unfold wrap64 wr64; omega)
  rw [HZ.out]
  have HW2 : Hid (RfW w (w1.setCell ⟨X, a, none⟩ (.int .i64 z)).drew w.heap.size s vo vt ⟨2, a, ib, c, n⟩) := Lib.hid ((HW1.out.otherC (k := a) (v := .int .i64 z) hXB HX1.out (by decide)).next (Below.refl _ _).drew)
  have HX2 : Hid (blk (w1.setCell ⟨X, a, none⟩ (.int .i64 z)).drew X (xC (s.x.set a z)) 38) := Lib.hid (xC_put HX1.out a z)
  have hlx : (s.x.set a z).length = 8 := by rw [List.length_set]; exact hx8
  clear HW1 HX1 HZ ca cb cc fa e0 e1 e2 e3 e4
  obtain ⟨w2, hw2⟩ : ∃ w2, w2 = (w1.setCell ⟨X, a, none⟩ (.int .i64 z)).drew := ⟨_, rfl⟩
  rw [← hw2] at HW2 HX2 ⊢
  clear hw2
  go_wp2_with (first
    | (refine wpList_loadB rfl 38 _ rfl X (xC (s.x.set a z)) rfl 38 HX2.out _ Tryz.underlying38 rfl (x8_info hlx) ?_)
    | (refine wpList_putX rfl _ _ rfl rfl rfl HW2.out.st HW2.out.at'.len hlx ?_
       have HW3 := Lib.hid (HW2.out.put (t := { s with x := (s.x.set a z) }) ⟨⟨hlx, HW2.out.at'.len.p, HW2.out.at'.len.g⟩, HW2.out.at'.objs, HW2.out.at'.out⟩)
       clear HW2 HX2)
    | (refine wpList_loadB rfl 44 _ rfl w.heap.size _ rfl 44 HW3.out.st _ Tryz.underlying44 rfl (rstate_size HW3.out.at'.len) ?_)
    | (refine wpList_putB rfl 44 _ _ rfl (w.heap.size + 2) _ rfl rfl 44 _ HW3.out.res (rstate_size HW3.out.at'.len) (by rw [stC_size HW3.out.at'.len]; rfl) (stC_one' HW3.out.at') ?_))
  refine bodyPost_ret (v := .tuple #[.agg (stC { s with x := (s.x.set a z) } vo vt), .bool true]) ?_ rfl HW3.out.post
  rw [res_cell1 (p := 4) (u := 5) rfl _ _ (w.heap.size + 2) (stC { s with x := (s.x.set a z) } vo vt) 44 _ rfl (putB_at HW3.out.res _ _) Tryz.underlying44 rfl (rstate_size HW3.out.at'.len)]; rfl
end Go.Proofs.YtapjgobkpehgfaaGreatDoor
