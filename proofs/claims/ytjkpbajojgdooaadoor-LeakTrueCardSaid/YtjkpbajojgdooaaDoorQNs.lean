/-
  The document's put: its contract.
  The document's numbers: its contract.
  The document's numbers: Print.
  The document's numbers: Same, and what is none of them.
-/
import Derived.Test.YtjkpbajojgdooaaDoorPA
import Derived.Test.YtjkpbajojgdooaaDoorPNA
import Derived.Maps.AppendAt
import Derived.Laws.AppendOwnNone
import Derived.Outline
import Derived.Test.YtjkpbajojgdooaaDoorQMem
import Derived.StillTailTactics
import Derived.Deep.QuietTactic
import Derived.BigQuiet

/- The document's put: its contract. -/
namespace Go.Proofs.YtjkpbajojgdooaaDoor
set_option linter.unusedSimpArgs false
set_option linter.unusedVariables false
open Go.RowKit

theorem own_empty (w : World) (t : TypeId) : (w.alloc (.cells #[] t)).ownsRow w.heap.size t 1 (.slice (some ⟨w.heap.size, 0, none⟩) 0 0) 0 [] :=
  ⟨rfl, .inr ⟨w.heap.size, 0, #[], rfl, Nat.le_refl _, blk_new _ _ _, Nat.le_refl _, Nat.zero_le _, rfl, rfl⟩⟩
theorem plainA {b off i : Nat} : (⟨b, off, none⟩ : Addr).add i = ⟨b, off + i, none⟩ := by
  unfold Addr.add
  by_cases h : i = 0 <;> simp [h]
/-- 'append([]T{}, v...)': a copy of a row in a row of the call's own. -/
theorem wpList_copy {t e : TypeId} {i0 : TypeInfo} {z : Value} {bytes : Nat} (hu : Tryd.prog.underlying t = some (.slice e)) (hi : Tryd.prog.info? e = some i0) (hz0 : i0.zero = some z) (hz1 : i0.size = 1) (hz2 : i0.bytes = bytes) (hzs : z.cells.size = 1) (hby : bytes ≤ 24)
    {w : World} {ops : Array Oper} {rest : List Oper} {o : Oper} {a : Act} {Q : Exit → Act → World → Prop} (hgd : o.guard = none) (s x : Operand)
    (ho : o.op = .call { callee := .builtin .append, args := #[s, x], argTypes := #[t, t] }) (base : Nat) (u : Value) (hs : a.eval s = u) (hown : w.ownsRow base e 1 u 0 []) (hbase : base ≤ w.heap.size)
    (v : Value) (cs : List Value) (hx : a.eval x = v) (hrow : RowN w v cs) (h1 : ∀ y ∈ cs, y.oneCell' = true) (hl : cs.length ≤ 1000000)
    (h : ∀ v' w', w'.ownsRow base e 1 v' cs.length cs → Below base w w' → wpList Tryd.prog ops Q rest (a.put o.dst v') w') : wpList Tryd.prog ops Q (o :: rest) a w := by
  rcases hrow.cases with ⟨rfl, rfl⟩ | ⟨h0, b, off, c, rfl, g1, g2, hb, hc⟩
  · refine wpList_plain hgd fun K hK => ?_
    have hrun := run_append_owned_none (P := Tryd.prog) (w := w) base t o.type e i0 1 hu hi u 0 [] hown
    unfold Oper.wp
    simp [execOp, ho, resolve, invoke, builtin, hs, hx, hrun, Result.andThen]
    exact hK _ _ (h u w hown (Below.refl _ _))
  · refine wpList_append_own _ hgd s x t ho base e i0 z 1 bytes hu hi hz0 hz1 hz2 hzs (by omega) u 0 [] hs hown ⟨b, off, none⟩ cs.length c cs hx (by omega) (fun j y hy => by rw [plainA]; exact hc j y hy) h1 (by unfold maxLen; omega) (by have : (0 + cs.length) * bytes ≤ 1000000 * 24 := Nat.mul_le_mul (by omega) hby; omega) hbase ?_
    intro v' w' h2 h3 _
    refine h v' w' (by simpa using h2) ?_
    exact (Below.refl base w).grown h3 hbase (fun g hg => (own_lt hown g hg).1)
theorem i64_ones (xs : List Int) : ∀ u ∈ i64s xs, u.oneCell' = true := fun u hu => by obtain ⟨x, _, rfl⟩ := List.mem_map.1 hu; rfl
theorem rowN_one {w : World} {v : Value} {cs : List Value} (h : RowN w v cs) : v.oneCell' = true := by
  obtain ⟨⟨a, c, e, _⟩, _⟩ := h
  rw [e]; rfl
theorem GridI.set_rowsN {w : World} {rows : List Value} {xss : List (List Int)} {k : Nat} {r : Value} {xs : List Int}
    (h : ∀ (j : Nat) (r : Value) (xs : List Int), rows[j]? = some r → xss[j]? = some xs → RowN w r (i64s xs)) (hr : RowN w r (i64s xs)) :
    ∀ (j : Nat) (r' : Value) (xs' : List Int), (rows.set k r)[j]? = some r' → (xss.set k xs)[j]? = some xs' → RowN w r' (i64s xs') := by
  intro j r' xs' h1 h2
  by_cases hj : k = j
  · subst hj
    rw [List.getElem?_set] at h1 h2
    simp only [if_true] at h1 h2
    split at h1 <;> split at h2 <;> simp_all
  · rw [List.getElem?_set_ne hj] at h1 h2
    exact h j r' xs' h1 h2
def PutPost (w : World) (rows : List Value) (k : Nat) (ys : List Int) (e : Ending) (w' : World) : Prop :=
  ∃ v1 r2, e = .returned v1 ∧ w'.ownsRow w.heap.size 34 1 v1 rows.length (rows.set k r2) ∧ w'.ownsRow w.heap.size 2 1 r2 ys.length (i64s ys) ∧ Below w.heap.size w w'
set_option maxRecDepth 100000 in
set_option maxHeartbeats 2000000 in
theorem put_at (w : World) (b off c k n : Nat) (v : Int) (rows : List Value) (r : Value) (xs : List Int) (hr : RowN w (.slice (some ⟨b, off, none⟩) rows.length c) rows) (hr1 : ∀ u ∈ rows, u.oneCell' = true) (hk : rows[k]? = some r) (hx : RowN w r (i64s xs)) (hn : n < xs.length) (hl1 : rows.length ≤ 1000000) (hl2 : xs.length ≤ 1000000) :
    Calls Tryd.prog 36 #[.slice (some ⟨b, off, none⟩) rows.length c, .int .i64 ((k : Int) + 1), .int .i64 n, .int .i64 v] w
      (PutPost w rows k (xs.set n v)) := by
  obtain ⟨i1, p1, p2, p3, p4⟩ := info_parts infoO
  obtain ⟨i2, q1, q2, q3, q4⟩ := info_parts info64
  have hkl := (List.getElem?_eq_some_iff.1 hk).1
  obtain ⟨b0, off0, c0, e0, gc1, gc2, hb0, hcell⟩ := (hr.cases).resolve_left (by rintro ⟨rfl, _⟩; simp at hk) |>.2
  simp only [Value.slice.injEq, Option.some.injEq, Addr.mk.injEq] at e0
  obtain ⟨⟨rfl, rfl, -⟩, -, rfl⟩ := e0
  unfold maxLen at gc2
  have hx0 : i64s xs ≠ [] := fun e => by have := congrArg List.length e; rw [i64s_len] at this; simp only [List.length_nil] at this; omega
  obtain ⟨-, b3, off3, c3, rfl, -, -, -, -⟩ := (hx.cases).resolve_left (fun h => hx0 h.1)
  clear hx0
  rw [i64s_len] at hk hx
  have HC := Lib.hid (hcell k _ hk)
  have HR := Lib.hid hr
  have H1 := Lib.hid hr1
  have HX := Lib.hid hx
  have HK := Lib.hid hk
  clear hr hr1 hx hk hcell
  go_enter Tryd.func36, Tryd.ntmps36
  go_upto_region 3 with (first
    | (refine wpList_copy Tryd.underlying33 p1 p2 p3 p4 rfl (by omega) rfl (.tmp 11) (.tmp 12) rfl w.heap.size _ rfl (own_empty w _) (by simp) _ rows rfl (HR.out.below ((Below.refl _ _).alloc (Nat.le_refl _) _)) H1.out hl1 ?_
       intro v1 w1 ho1 hb1
       obtain ⟨g1, c1, hv1, ha1, hg1⟩ := ho1.form (by omega)
       subst hv1
       have HO1 := Lib.hid ho1
       have HB1 := Lib.hid (((Below.refl _ _).alloc (Nat.le_refl _) _).trans hb1)
       have cr : w1.cell? ⟨b, off + k, none⟩ = some (.slice (some ⟨b3, off3, none⟩) xs.length c3) := by rw [HB1.out.cell (p := ⟨b, off + k, none⟩) hb0]; exact HC.out
       have hbw1 : b < w1.heap.size := by have := HB1.out.size; omega
       clear ho1 hb1)
    | (refine wpList_copy Tryd.underlying34 q1 q2 q3 q4 rfl (by omega) rfl (.tmp 14) (.tmp 19) rfl w1.heap.size _ rfl (own_empty w1 _) (by simp) _ (i64s xs) rfl ((HX.out.below HB1.out).below ((Below.refl _ _).alloc (Nat.le_refl _) _)) (i64_ones xs) (by simpa using hl2) ?_
       intro v2 w2 ho2 hb2
       obtain ⟨g2, c2, hv2, ha2, hg2⟩ := ho2.form (by rw [i64s_len]; omega)
       subst hv2
       have HO2 := Lib.hid ho2
       have HB2 := Lib.hid (((Below.refl _ _).alloc (Nat.le_refl _) _).trans hb2)
       clear ho2 hb2 cr))
  obtain ⟨cap2, cur2, e2, k1, k2, k3, k4, k5, -⟩ := own_cell HO2.out rfl
  have f2 := blk_frozen k3 n
  have d2 := blk_cell k3 n _ (Array.getElem?_eq_getElem (show n < cur2.size by rw [i64s_len] at k1; omega))
  go_upto_region 4 with (fail)
  have HO1b := Lib.hid (own_below HO1.out HB2.out)
  obtain ⟨cap1, cur1, e1, j1, j2, j3, j4, j5, -⟩ := own_cell HO1b.out rfl
  have hne : g1 ≠ g2 := by omega
  have HO2c : Hid ((w2.setCell ⟨g2, n, none⟩ (.int .i64 v)).ownsRow w1.heap.size 2 1 (.slice (some ⟨g2, 0, none⟩) xs.length c2) xs.length (i64s (xs.set n v))) := Lib.hid (by
    simp only [i64s_len] at HO2 k1 k5
    rw [setCell_putB k3]
    have := own_putC (n := xs.length) k3 (by omega) k1 k2 k4 n (.int .i64 v) k5
    rw [show i64s (xs.set n v) = (i64s xs).set n (.int .i64 v) by simp]
    exact this)
  have HO1c : Hid ((w2.setCell ⟨g2, n, none⟩ (.int .i64 v)).ownsRow w.heap.size 34 1 (.slice (some ⟨g1, 0, none⟩) rows.length c1) rows.length rows) := Lib.hid (by
    rw [setCell_putB k3]
    exact own_same HO1b.out (fun g hg _ => putB_ne w2 (fun e => hne (by simp [Value.ownBlock] at hg; simp at e; omega)) _ _))
  have HBc : Hid (Below w.heap.size w (w2.setCell ⟨g2, n, none⟩ (.int .i64 v))) := Lib.hid ((HB1.out.trans (HB2.out.mono HB1.out.size)).setCell (p := ⟨g2, n, none⟩) (by have := HB1.out.size; show w.heap.size ≤ g2; omega) _)
  clear f2 d2 k1 k2 k3 k4 k5 j1 j2 j3 j4 j5 HO1b HO1 HO2 HB1 HB2
  obtain ⟨w3, hw3⟩ : ∃ w3, w3 = w2.setCell ⟨g2, n, none⟩ (.int .i64 v) := ⟨_, rfl⟩
  rw [← hw3] at HO1c HO2c HBc ⊢
  clear hw3
  obtain ⟨cap1, cur1, e1, j1, j2, j3, j4, j5, -⟩ := own_cell HO1c.out rfl
  have f3 := blk_frozen j3 k
  have d3 := blk_cell j3 k _ (Array.getElem?_eq_getElem (show k < cur1.size by omega))
  go_wp2
  go_ret
  refine ⟨_, .slice (some ⟨g2, 0, none⟩) xs.length c2, rfl, ?_, ?_, HBc.out.setCell (p := ⟨g1, k, none⟩) (by show w.heap.size ≤ g1; omega) _⟩
  · rw [setCell_putB j3]
    exact own_putC (n := rows.length) j3 (by omega) j1 j2 j4 k _ j5
  · rw [setCell_putB j3, List.length_set]
    exact own_same (ownsRow_le HO2c.out (by omega)) (fun g hg _ => putB_ne w3 (fun e => hne (by simp [Value.ownBlock] at hg; omega)) _ _)
def PutG (w : World) (objs : List (List Int)) (e : Ending) (w' : World) : Prop := ∃ v1, e = .returned v1 ∧ GridN w' v1 objs ∧ Below w.heap.size w w'
theorem put_n (w : World) (vo : Value) (objs : List (List Int)) (o n v : Int) (h : GridN w vo objs) (h1 : 1 ≤ o) (h2 : o ≤ objs.length) (h3 : 0 ≤ n) (h4 : n < (objA objs o).length) (hl : objs.length ≤ 1000000) (hlx : ∀ xs ∈ objs, xs.length ≤ 1000000) :
    Calls Tryd.prog 36 #[vo, .int .i64 o, .int .i64 n, .int .i64 v] w (PutG w (putA objs o n v)) := by
  obtain ⟨k, rfl⟩ : ∃ k : Nat, o = (k : Int) + 1 := ⟨(o - 1).toNat, by omega⟩
  obtain ⟨m, rfl⟩ : ∃ m : Nat, n = m := ⟨n.toNat, by omega⟩
  obtain ⟨rows, hr1, hr2, hr3, hr4⟩ := id h
  have ek : ((k : Int) + 1).toNat - 1 = k := by omega
  have hk : k < objs.length := by omega
  have hxk : objs[k]? = some (objA objs ((k : Int) + 1)) := by
    unfold objA; rw [ek, List.getD_eq_getElem?_getD, List.getElem?_eq_getElem hk]; rfl
  have hrk : rows[k]? = some (rows[k]'(by omega)) := List.getElem?_eq_getElem (by omega)
  obtain ⟨⟨a, c, rfl, g1, g2, g3⟩, -⟩ := id hr2
  obtain ⟨b, off, rfl, -, -⟩ := g3.resolve_left (fun e => by have := congrArg List.length e; rw [hr1] at this; simp only [List.length_nil] at this; omega)
  have hm : m < (objA objs ((k : Int) + 1)).length := by omega
  refine (put_at w b off c k m v rows _ (objA objs ((k : Int) + 1)) hr2 (fun u hu => ?_) hrk (hr4 k _ _ hrk hxk) hm (by omega) (hlx _ (List.mem_of_getElem? hxk))).mono ?_
  · obtain ⟨j, hj⟩ := List.getElem?_of_mem hu
    have hlt := (List.getElem?_eq_some_iff.1 hj).1
    exact rowN_one (hr4 j u _ hj (List.getElem?_eq_getElem (show j < objs.length by omega)))
  · rintro e w' ⟨v1, r2, rfl, q1, q2, hb⟩
    have hput : putA objs ((k : Int) + 1) m v = objs.set k ((objA objs ((k : Int) + 1)).set m v) := by unfold putA; rw [ek, Int.toNat_natCast]
    have hne : (objA objs ((k : Int) + 1)).set m v ≠ [] := by
      intro e; have := congrArg List.length e; rw [List.length_set] at this; simp only [List.length_nil] at this; omega
    refine ⟨v1, rfl, ?_, hb⟩
    rw [hput]
    refine ⟨rows.set k r2, by simp [hr1], own_rowN q1 (by decide) (fun e => ?_), fun xs hxs => ?_, GridI.set_rowsN (fun j r xs a b => (hr4 j r xs a b).below hb) (own_rowN q2 (by decide) (fun e => absurd (List.length_eq_zero_iff.1 (by rw [← i64s_len, e]; rfl)) hne))⟩
    · have := congrArg List.length e; rw [List.length_set] at this; simp only [List.length_nil] at this; omega
    · rcases mem_set_or hxs with hm' | rfl
      · exact hr3 xs hm'
      · exact hne
end Go.Proofs.YtjkpbajojgdooaaDoor

/- The document's numbers: its contract. -/
namespace Go.Proofs.YtjkpbajojgdooaaDoor
set_option linter.unusedSimpArgs false
set_option linter.unusedVariables false
open Go.RowKit

theorem x8_info {l : List Int} (h : l.length = 8) : (Tryd.prog.info? 30).map (·.size) = some (xC l).size := by rw [xC_size, h]; exact infoX
theorem stC_one' {w : World} {vo vt : Value} {s : PSt} (h : StN w vo vt s) : (stC s vo vt).all (·.oneCell') = true := by
  obtain ⟨rows, _, h1, _⟩ := h.objs
  exact stC_one s (rowN_one h1) (rowN_one h.out)
/-- The world in numbers: an array of its own beside. -/
theorem RfW.start {w W0 : World} {s : PSt} {vo vt : Value} {i : PIns} (hW0 : W0 = ((w.alloc (.cells (stC s vo vt) 36)).alloc (.cells (insC i) 45)).alloc (.cells zeroS 36)) (h : StN w vo vt s) : RfW w W0 w.heap.size s vo vt i ∧ W0.heap.size = w.heap.size + 3 := by
  have s1 : (w.alloc (.cells (stC s vo vt) 36)).heap.size = w.heap.size + 1 := World.size_alloc _ _
  have s2 : ((w.alloc (.cells (stC s vo vt) 36)).alloc (.cells (insC i) 45)).heap.size = w.heap.size + 2 := by rw [World.size_alloc, s1]
  have hb : Below w.heap.size w W0 := by rw [hW0]; exact (((Below.refl _ _).alloc (Nat.le_refl _) _).alloc (by simp) _).alloc (by simp; omega) _
  have k2 := blk_new (w.alloc (.cells (stC s vo vt) 36)) (insC i) 45
  have k3 := blk_new ((w.alloc (.cells (stC s vo vt) 36)).alloc (.cells (insC i) 45)) zeroS 36
  rw [s1] at k2
  rw [s2] at k3
  refine ⟨⟨hb, Nat.le_refl _, ?_, ?_, ?_, h.below hb⟩, ?_⟩
  · rw [hW0]; exact blk_alloc (blk_alloc (blk_new _ _ _) _) _
  · rw [hW0]; exact blk_alloc k2 _
  · rw [hW0]; exact k3
  · rw [hW0, World.size_alloc, s2]
theorem ins_e {wr : World} {b : Nat} {i : PIns} (h : blk wr b (insC i) 45) : wr.cell? ⟨b, 0, none⟩ = some (.int .u8 i.op) ∧ wr.cell? ⟨b, 1, none⟩ = some (.int .u8 i.a) ∧ wr.cell? ⟨b, 2, none⟩ = some (.int .u8 i.b) ∧ wr.cell? ⟨b, 3, none⟩ = some (.int .u8 i.c) ∧ wr.cell? ⟨b, 4, none⟩ = some (.int .i64 i.n) :=
  ⟨blk_cell h 0 _ rfl, blk_cell h 1 _ rfl, blk_cell h 2 _ rfl, blk_cell h 3 _ rfl, blk_cell h 4 _ rfl⟩
theorem xC_cell {wr : World} {b : Nat} {l : List Int} {t : TypeId} (h : blk wr b (xC l) t) {k : Nat} (hk : k < l.length) : wr.cell? ⟨b, k, none⟩ = some (.int .i64 (l.getD k 0)) := blk_cell h k _ (xC_get hk)
theorem xC_put {wr : World} {b : Nat} {l : List Int} {t : TypeId} (h : blk wr b (xC l) t) (k : Nat) (v : Int) : blk (wr.setCell ⟨b, k, none⟩ (.int .i64 v)) b (xC (l.set k v)) t := by
  rw [setCell_putB h, xC_set]; exact putB_at h _ _
theorem rowI_form {w : World} {v : Value} {l : List Int} (h : RowN w v (i64s l)) : ∃ a c, v = .slice a l.length c ∧ l.length ≤ c ∧ c ≤ 9223372036854775807 := by
  obtain ⟨⟨a, c, rfl, h1, h2, h3⟩, -⟩ := h
  unfold maxLen at h2
  rw [i64s_len] at h1 ⊢
  exact ⟨a, c, rfl, h1, by omega⟩
theorem RfW.otherC {w wr : World} {B X : Nat} {s : PSt} {vo vt : Value} {i : PIns} {C : Array Value} {t : TypeId} {k : Nat} {v : Value} (h : RfW w wr B s vo vt i) (hX : B + 2 < X) (hb : blk wr X C t) (ht : t ≠ 2 ∧ t ≠ 34) : RfW w (wr.setCell ⟨X, k, none⟩ v) B s vo vt i := by
  rw [setCell_putB hb]; exact h.other hX hb ht

set_option maxRecDepth 100000 in
set_option maxHeartbeats 4000000 in
theorem num_1 (w W0 : World) (s : PSt) (vo vt : Value) (a ib c : Nat) (n : Int) (z : Nat) (h : StN w vo vt s)
    (hW0 : W0 = ((w.alloc (.cells (stC s vo vt) 36)).alloc (.cells (insC ⟨1, a, ib, c, n⟩) 45)).alloc (.cells zeroS 36)) (ha : a < 8) :
    Calls Tryd.prog 23 #[.agg (stC s vo vt), insV ⟨1, a, ib, c, n⟩] w (PartPost w (setX s a n) (.bool true)) := by
  obtain ⟨hw, hsz⟩ := RfW.start hW0 h
  have HW := Lib.hid hw
  have HL := Lib.hid h.len
  have HSZ := Lib.hid hsz
  clear hw h hsz
  go_enter Tryd.func23, Tryd.ntmps23
  go_upto_region 1 with (fail)
  rw [← hW0]
  clear hW0
  go_upto_region 2 with (first
    | (refine wpList_ldX rfl _ rfl rfl HW.out.st HL.out ?_)
    | (refine wpList_putB rfl 30 _ _ rfl W0.heap.size (xC s.x) rfl rfl 30 zero8 (blk_new W0 zero8 30) (x8_info HL.out.x) (by rw [xC_size, HL.out.x]; rfl) (xC_one _) ?_))
  have HW1 : Hid (RfW w (putB (W0.alloc (.cells zero8 30)) W0.heap.size (xC s.x) 30) w.heap.size s vo vt ⟨1, a, ib, c, n⟩) := Lib.hid (RfW.other (HW.out.next ((Below.refl _ _).alloc (Nat.le_refl _) _)) (by have := HSZ.out; omega) (blk_new W0 zero8 30) (by decide))
  have HX1 : Hid (blk (putB (W0.alloc (.cells zero8 30)) W0.heap.size (xC s.x) 30) W0.heap.size (xC s.x) 30) := Lib.hid (putB_at (blk_new W0 zero8 30) _ _)
  obtain ⟨X, hX⟩ : ∃ X, X = W0.heap.size := ⟨_, rfl⟩
  obtain ⟨w1, hw1⟩ : ∃ w1, w1 = putB (W0.alloc (.cells zero8 30)) W0.heap.size (xC s.x) 30 := ⟨_, rfl⟩
  rw [← hw1] at HW1 HX1 ⊢
  have hXB : w.heap.size + 2 < X := by have := HSZ.out; omega
  rw [← hX] at HX1 ⊢
  clear hw1 hX HW HSZ
  obtain ⟨e0, e1, e2, e3, e4⟩ := ins_e HW1.out.ins
  have hx8 := HL.out.x
  have ha8 : (a : Int) < 8 := by omega
  have ha0 : (0 : Int) ≤ (a : Int) := by omega
  have ca := xC_cell HX1.out (k := a) (by omega)
  have fa := blk_frozen HX1.out a
  go_upto_region 15 with (fail)
  have HW2 := Lib.hid (HW1.out.otherC (k := a) (v := .int .i64 n) hXB HX1.out (by decide))
  have HX2 := Lib.hid (xC_put HX1.out a n)
  have hlx : (s.x.set a n).length = 8 := by rw [List.length_set]; exact hx8
  clear HW1 HX1 ca fa e0 e1 e2 e3 e4
  obtain ⟨w2, hw2⟩ : ∃ w2, w2 = w1.setCell ⟨X, a, none⟩ (.int .i64 n) := ⟨_, rfl⟩
  rw [← hw2] at HW2 HX2 ⊢
  clear hw2
  go_wp2_with (first
    | (refine wpList_loadB rfl 30 _ rfl X (xC (s.x.set a n)) rfl 30 HX2.out _ Tryd.underlying30 rfl (x8_info hlx) ?_)
    | (refine wpList_putX rfl _ _ rfl rfl rfl HW2.out.st HW2.out.at'.len hlx ?_
       have HW3 := Lib.hid (HW2.out.put (t := { s with x := (s.x.set a n) }) ⟨⟨hlx, HW2.out.at'.len.p, HW2.out.at'.len.g⟩, HW2.out.at'.objs, HW2.out.at'.out⟩)
       clear HW2 HX2)
    | (refine wpList_loadB rfl 36 _ rfl w.heap.size _ rfl 36 HW3.out.st _ Tryd.underlying36 rfl (rstate_size HW3.out.at'.len) ?_)
    | (refine wpList_putB rfl 36 _ _ rfl (w.heap.size + 2) _ rfl rfl 36 _ HW3.out.res (rstate_size HW3.out.at'.len) (by rw [stC_size HW3.out.at'.len]; rfl) (stC_one' HW3.out.at') ?_))
  refine bodyPost_ret (v := .tuple #[.agg (stC { s with x := (s.x.set a n) } vo vt), .bool true]) ?_ rfl HW3.out.post
  rw [res_cell1 (p := 4) (u := 5) rfl _ _ (w.heap.size + 2) (stC { s with x := (s.x.set a n) } vo vt) 36 _ rfl (putB_at HW3.out.res _ _) Tryd.underlying36 rfl (rstate_size HW3.out.at'.len)]; rfl

set_option maxRecDepth 100000 in
set_option maxHeartbeats 4000000 in
theorem num_2 (w W0 : World) (s : PSt) (vo vt : Value) (a ib c : Nat) (n : Int) (h : StN w vo vt s)
    (hW0 : W0 = ((w.alloc (.cells (stC s vo vt) 36)).alloc (.cells (insC ⟨2, a, ib, c, n⟩) 45)).alloc (.cells zeroS 36)) (ha : a < 8) (hib : ib < 8) (hc : c < 8) (z : Int) (hz : Hid (wr64 (xA s ib + xA s c) = z)) :
    Calls Tryd.prog 23 #[.agg (stC s vo vt), insV ⟨2, a, ib, c, n⟩] w (PartPost w (setX s a z) (.bool true)) := by
  obtain ⟨hw, hsz⟩ := RfW.start hW0 h
  have HW := Lib.hid hw
  have HL := Lib.hid h.len
  have HSZ := Lib.hid hsz
  clear hw h hsz
  go_enter Tryd.func23, Tryd.ntmps23
  go_upto_region 1 with (fail)
  rw [← hW0]
  clear hW0
  go_upto_region 2 with (first
    | (refine wpList_ldX rfl _ rfl rfl HW.out.st HL.out ?_)
    | (refine wpList_putB rfl 30 _ _ rfl W0.heap.size (xC s.x) rfl rfl 30 zero8 (blk_new W0 zero8 30) (x8_info HL.out.x) (by rw [xC_size, HL.out.x]; rfl) (xC_one _) ?_))
  have HW1 : Hid (RfW w (putB (W0.alloc (.cells zero8 30)) W0.heap.size (xC s.x) 30) w.heap.size s vo vt ⟨2, a, ib, c, n⟩) := Lib.hid (RfW.other (HW.out.next ((Below.refl _ _).alloc (Nat.le_refl _) _)) (by have := HSZ.out; omega) (blk_new W0 zero8 30) (by decide))
  have HX1 : Hid (blk (putB (W0.alloc (.cells zero8 30)) W0.heap.size (xC s.x) 30) W0.heap.size (xC s.x) 30) := Lib.hid (putB_at (blk_new W0 zero8 30) _ _)
  obtain ⟨X, hX⟩ : ∃ X, X = W0.heap.size := ⟨_, rfl⟩
  obtain ⟨w1, hw1⟩ : ∃ w1, w1 = putB (W0.alloc (.cells zero8 30)) W0.heap.size (xC s.x) 30 := ⟨_, rfl⟩
  rw [← hw1] at HW1 HX1 ⊢
  have hXB : w.heap.size + 2 < X := by have := HSZ.out; omega
  rw [← hX] at HX1 ⊢
  clear hw1 hX HW HSZ
  obtain ⟨e0, e1, e2, e3, e4⟩ := ins_e HW1.out.ins
  have hx8 := HL.out.x
  have ha8 : (a : Int) < 8 := by omega
  have ha0 : (0 : Int) ≤ (a : Int) := by omega
  have hi8 : (ib : Int) < 8 := by omega
  have hi0 : (0 : Int) ≤ (ib : Int) := by omega
  have hc8 : (c : Int) < 8 := by omega
  have hc0 : (0 : Int) ≤ (c : Int) := by omega
  have ca := xC_cell HX1.out (k := a) (by omega)
  have cb : w1.cell? ⟨X, ib, none⟩ = some (.int .i64 (xA s ib)) := xC_cell HX1.out (k := ib) (by omega)
  have cc : w1.cell? ⟨X, c, none⟩ = some (.int .i64 (xA s c)) := xC_cell HX1.out (k := c) (by omega)
  have fa := blk_frozen HX1.out a
  go_upto_region 7 with (fail)
  refine wp_region_still_tail 11 (by kernel_rfl) (by kernel_rfl) ?_
  simp only [List.take_succ_cons, List.take_zero, List.drop_succ_cons, List.drop_zero]
  change wpStill _ _ w1.drew (fun a' => wpList _ _ _ _ a' w1.drew) _ _
  repeat still_step
  refine wpStill_nil ?_
  go_upto_region 15 with (fail)
  have HZ : Hid (wrap64 (xA s ib + xA s c) = z) := Lib.hid (by rw [← hz.out]; unfold wrap64 wr64; omega)
  rw [HZ.out]
  have HW2 : Hid (RfW w (w1.setCell ⟨X, a, none⟩ (.int .i64 z)).drew w.heap.size s vo vt ⟨2, a, ib, c, n⟩) := Lib.hid ((HW1.out.otherC (k := a) (v := .int .i64 z) hXB HX1.out (by decide)).next (Below.refl _ _).drew)
  have HX2 : Hid (blk (w1.setCell ⟨X, a, none⟩ (.int .i64 z)).drew X (xC (s.x.set a z)) 30) := Lib.hid (xC_put HX1.out a z)
  have hlx : (s.x.set a z).length = 8 := by rw [List.length_set]; exact hx8
  clear HW1 HX1 HZ ca cb cc fa e0 e1 e2 e3 e4
  obtain ⟨w2, hw2⟩ : ∃ w2, w2 = (w1.setCell ⟨X, a, none⟩ (.int .i64 z)).drew := ⟨_, rfl⟩
  rw [← hw2] at HW2 HX2 ⊢
  clear hw2
  go_wp2_with (first
    | (refine wpList_loadB rfl 30 _ rfl X (xC (s.x.set a z)) rfl 30 HX2.out _ Tryd.underlying30 rfl (x8_info hlx) ?_)
    | (refine wpList_putX rfl _ _ rfl rfl rfl HW2.out.st HW2.out.at'.len hlx ?_
       have HW3 := Lib.hid (HW2.out.put (t := { s with x := (s.x.set a z) }) ⟨⟨hlx, HW2.out.at'.len.p, HW2.out.at'.len.g⟩, HW2.out.at'.objs, HW2.out.at'.out⟩)
       clear HW2 HX2)
    | (refine wpList_loadB rfl 36 _ rfl w.heap.size _ rfl 36 HW3.out.st _ Tryd.underlying36 rfl (rstate_size HW3.out.at'.len) ?_)
    | (refine wpList_putB rfl 36 _ _ rfl (w.heap.size + 2) _ rfl rfl 36 _ HW3.out.res (rstate_size HW3.out.at'.len) (by rw [stC_size HW3.out.at'.len]; rfl) (stC_one' HW3.out.at') ?_))
  refine bodyPost_ret (v := .tuple #[.agg (stC { s with x := (s.x.set a z) } vo vt), .bool true]) ?_ rfl HW3.out.post
  rw [res_cell1 (p := 4) (u := 5) rfl _ _ (w.heap.size + 2) (stC { s with x := (s.x.set a z) } vo vt) 36 _ rfl (putB_at HW3.out.res _ _) Tryd.underlying36 rfl (rstate_size HW3.out.at'.len)]; rfl
end Go.Proofs.YtjkpbajojgdooaaDoor

/- The document's numbers: Print. -/
namespace Go.Proofs.YtjkpbajojgdooaaDoor
set_option linter.unusedSimpArgs false
set_option linter.unusedVariables false
open Go.RowKit

set_option maxRecDepth 100000 in
set_option maxHeartbeats 4000000 in
theorem num_14 (w W0 : World) (s : PSt) (vo vt : Value) (a ib c : Nat) (n : Int) (z : Nat) (h : StN w vo vt s)
    (hW0 : W0 = ((w.alloc (.cells (stC s vo vt) 36)).alloc (.cells (insC ⟨14, a, ib, c, n⟩) 45)).alloc (.cells zeroS 36)) (ha : a < 8) (ho : s.out.length ≤ 1000000) :
    Calls Tryd.prog 23 #[.agg (stC s vo vt), insV ⟨14, a, ib, c, n⟩] w (PartPost w ({ s with out := s.out ++ [xA s a] }) (.bool true)) := by
  obtain ⟨i2, q1, q2, q3, q4⟩ := info_parts info64
  obtain ⟨av, cv, hvt, gv1, gv2⟩ := rowI_form h.out
  subst hvt
  obtain ⟨hw, hsz⟩ := RfW.start hW0 h
  have HW := Lib.hid hw
  have HL := Lib.hid h.len
  have HSZ := Lib.hid hsz
  clear hw h hsz
  go_enter Tryd.func23, Tryd.ntmps23
  go_upto_region 1 with (fail)
  rw [← hW0]
  clear hW0
  go_upto_region 2 with (first
    | (refine wpList_ldX rfl _ rfl rfl HW.out.st HL.out ?_)
    | (refine wpList_putB rfl 30 _ _ rfl W0.heap.size (xC s.x) rfl rfl 30 zero8 (blk_new W0 zero8 30) (x8_info HL.out.x) (by rw [xC_size, HL.out.x]; rfl) (xC_one _) ?_))
  have HW1 : Hid (RfW w (putB (W0.alloc (.cells zero8 30)) W0.heap.size (xC s.x) 30) w.heap.size s vo (.slice av s.out.length cv) ⟨14, a, ib, c, n⟩) := Lib.hid (RfW.other (HW.out.next ((Below.refl _ _).alloc (Nat.le_refl _) _)) (by have := HSZ.out; omega) (blk_new W0 zero8 30) (by decide))
  have HX1 : Hid (blk (putB (W0.alloc (.cells zero8 30)) W0.heap.size (xC s.x) 30) W0.heap.size (xC s.x) 30) := Lib.hid (putB_at (blk_new W0 zero8 30) _ _)
  obtain ⟨X, hX⟩ : ∃ X, X = W0.heap.size := ⟨_, rfl⟩
  obtain ⟨w1, hw1⟩ : ∃ w1, w1 = putB (W0.alloc (.cells zero8 30)) W0.heap.size (xC s.x) 30 := ⟨_, rfl⟩
  rw [← hw1] at HW1 HX1 ⊢
  have hXB : w.heap.size + 2 < X := by have := HSZ.out; omega
  rw [← hX] at HX1 ⊢
  clear hw1 hX HW HSZ
  obtain ⟨e0, e1, e2, e3, e4⟩ := ins_e HW1.out.ins
  have hx8 := HL.out.x
  have ha8 : (a : Int) < 8 := by omega
  have ha0 : (0 : Int) ≤ (a : Int) := by omega
  have ca : w1.cell? ⟨X, a, none⟩ = some (.int .i64 (xA s a)) := xC_cell HX1.out (k := a) (by omega)
  have c21 := blk_cell HW1.out.st 21 _ (stC_rest HL.out).2.1
  have hBX : w.heap.size + 2 < w1.heap.size := HW1.out.size
  have hXl := blk_lt HX1.out
  have hB0 : w.heap.size < w1.heap.size := by omega
  go_upto_region 14 with (
       refine wpList_copy Tryd.underlying34 q1 q2 q3 q4 rfl (by omega) rfl (.tmp 55) (.tmp 57) rfl w1.heap.size _ rfl (own_empty w1 _) (by simp) _ (i64s s.out) rfl (HW1.out.at'.out.below ((Below.refl _ _).alloc (Nat.le_refl _) _)) (i64_ones _) (by simpa using ho) ?_
       intro v1 w2 ho1 hb1
       have HO1 := Lib.hid ho1
       have HB1 := Lib.hid (((Below.refl _ _).alloc (Nat.le_refl _) _).trans hb1)
       have HW2 := Lib.hid (HW1.out.next HB1.out)
       have HX2 := Lib.hid (blk_below HX1.out HB1.out)
       clear ho1 hb1 ca c21 e0 e1 e2 e3 e4
       have ca : w2.cell? ⟨X, a, none⟩ = some (.int .i64 (xA s a)) := xC_cell HX2.out (k := a) (by omega)
       obtain ⟨e0, e1, e2, e3, e4⟩ := ins_e HW2.out.ins
       have hB2 := HB1.out.size
       have hB3 : w.heap.size < w2.heap.size := by omega)
  go_upto_region 15 with (
       refine wpList_append_own _ rfl (.tmp 59) (.tmp 64) 34 rfl w1.heap.size 2 i2 (.int .i64 0) 1 8 Tryd.underlying34 q1 q2 q3 q4 rfl (by omega) v1 s.out.length (i64s s.out) rfl (by have := own_below HO1.out ((Below.refl w2.heap.size w2).alloc (Nat.le_refl _) (.cells #[.int .i64 (xA s a)] 2)); rw [i64s_len] at this; exact this) ⟨w2.heap.size, 0, none⟩ 1 1 [.int .i64 (xA s a)] rfl rfl (one_cellV _ _) (by intro u hu; simp at hu; subst hu; rfl) (by unfold maxLen; omega) (by omega) (by simp; omega) ?_
       intro v2 w3 ho2 hg2 _
       obtain ⟨va2, vc2, hv2, -, -⟩ := own_form ho2
       subst hv2
       have HO2 := Lib.hid ho2
       have HB2 : Hid (Below w1.heap.size w2 w3) := Lib.hid (((Below.refl w1.heap.size w2).alloc hB2 (.cells #[.int .i64 (xA s a)] 2)).grown hg2 (by simp; omega) (fun g hg => (own_lt HO1.out g hg).1))
       have HW3 := Lib.hid (HW1.out.next (HB1.out.trans HB2.out))
       have HX2 := Lib.hid (blk_below HX1.out (HB1.out.trans HB2.out))
       clear HW1 HX1 HW2 ca e0 e1 e2 e3 e4 hg2 HO1 HB1
       have c21 := blk_cell HW3.out.st 21 _ (stC_rest HL.out).2.1
       have f21 := blk_frozen HW3.out.st 21)
  have HW2 : Hid (RfW w (w3.setCell ⟨w.heap.size, 21, none⟩ (.slice va2 (s.out.length + 1) vc2)) w.heap.size { s with out := s.out ++ [xA s a] } vo (.slice va2 (s.out.length + 1) vc2) ⟨14, a, ib, c, n⟩) := Lib.hid (by
    rw [setCell_putB HW3.out.st, stC_setT HL.out (s.out ++ [xA s a])]
    refine HW3.out.put ⟨⟨HL.out.x, HL.out.p, HL.out.g⟩, HW3.out.at'.objs, ?_⟩
    show RowN w3 _ (i64s (s.out ++ [xA s a]))
    rw [show i64s (s.out ++ [xA s a]) = i64s s.out ++ [.int .i64 (xA s a)] by simp]
    exact own_rowN HO2.out (by decide) (by simp))
  have HX2 : Hid (blk (w3.setCell ⟨w.heap.size, 21, none⟩ (.slice va2 (s.out.length + 1) vc2)) X (xC s.x) 30) := Lib.hid (by
    rw [setCell_putB HW3.out.st]; unfold blk; rw [putB_ne _ (by omega)]; exact HX2.out)
  clear HW3 HO2 HB2 c21 f21 ho2
  obtain ⟨w4, hw4⟩ : ∃ w4, w4 = w3.setCell ⟨w.heap.size, 21, none⟩ (.slice va2 (s.out.length + 1) vc2) := ⟨_, rfl⟩
  rw [← hw4] at HW2 HX2 ⊢
  clear hw4
  go_wp2_with (first
    | (refine wpList_loadB rfl 30 _ rfl X (xC s.x) rfl 30 HX2.out _ Tryd.underlying30 rfl (x8_info hx8) ?_)
    | (refine wpList_putX rfl _ _ rfl rfl rfl HW2.out.st HW2.out.at'.len hx8 ?_
       have HW3 := Lib.hid (HW2.out.put (t := { s with out := s.out ++ [xA s a] }) ⟨⟨hx8, HW2.out.at'.len.p, HW2.out.at'.len.g⟩, HW2.out.at'.objs, HW2.out.at'.out⟩)
       clear HW2 HX2)
    | (refine wpList_loadB rfl 36 _ rfl w.heap.size _ rfl 36 HW3.out.st _ Tryd.underlying36 rfl (rstate_size HW3.out.at'.len) ?_)
    | (refine wpList_putB rfl 36 _ _ rfl (w.heap.size + 2) _ rfl rfl 36 _ HW3.out.res (rstate_size HW3.out.at'.len) (by rw [stC_size HW3.out.at'.len]; rfl) (stC_one' HW3.out.at') ?_))
  refine bodyPost_ret (v := .tuple #[.agg (stC { s with out := s.out ++ [xA s a] } vo (.slice va2 (s.out.length + 1) vc2)), .bool true]) ?_ rfl HW3.out.post
  rw [res_cell1 (p := 4) (u := 5) rfl _ _ (w.heap.size + 2) (stC { s with out := s.out ++ [xA s a] } vo (.slice va2 (s.out.length + 1) vc2)) 36 _ rfl (putB_at HW3.out.res _ _) Tryd.underlying36 rfl (rstate_size HW3.out.at'.len)]; rfl

end Go.Proofs.YtjkpbajojgdooaaDoor

/- The document's numbers: Same, and what is none of them. -/
namespace Go.Proofs.YtjkpbajojgdooaaDoor
set_option linter.unusedSimpArgs false
set_option linter.unusedVariables false
open Go.RowKit

theorem belowN (w : World) (n : Nat) : Below w.heap.size w (w.drewN n) := ⟨rfl, rfl, rfl, Nat.le_refl _, fun _ _ => rfl⟩

set_option maxRecDepth 100000 in
set_option maxHeartbeats 4000000 in
theorem num_15t (w W0 : World) (s : PSt) (vo vt : Value) (a ib c : Nat) (n : Int) (z : Nat) (h : StN w vo vt s)
    (hW0 : W0 = ((w.alloc (.cells (stC s vo vt) 36)).alloc (.cells (insC ⟨15, a, ib, c, n⟩) 45)).alloc (.cells zeroS 36)) (ha : a < 8) (hib : ib < 8) (hc : c < 8) (he : (pA s ib == pA s c) = true) :
    Calls Tryd.prog 23 #[.agg (stC s vo vt), insV ⟨15, a, ib, c, n⟩] w (PartPost w (setX s a 1) (.bool true)) := by
  obtain ⟨hw, hsz⟩ := RfW.start hW0 h
  have HW := Lib.hid hw
  have HL := Lib.hid h.len
  have HSZ := Lib.hid hsz
  clear hw h hsz
  go_enter Tryd.func23, Tryd.ntmps23
  go_upto_region 1 with (fail)
  rw [← hW0]
  clear hW0
  go_upto_region 2 with (first
    | (refine wpList_ldX rfl _ rfl rfl HW.out.st HL.out ?_)
    | (refine wpList_putB rfl 30 _ _ rfl W0.heap.size (xC s.x) rfl rfl 30 zero8 (blk_new W0 zero8 30) (x8_info HL.out.x) (by rw [xC_size, HL.out.x]; rfl) (xC_one _) ?_))
  have HW1 : Hid (RfW w (putB (W0.alloc (.cells zero8 30)) W0.heap.size (xC s.x) 30) w.heap.size s vo vt ⟨15, a, ib, c, n⟩) := Lib.hid (RfW.other (HW.out.next ((Below.refl _ _).alloc (Nat.le_refl _) _)) (by have := HSZ.out; omega) (blk_new W0 zero8 30) (by decide))
  have HX1 : Hid (blk (putB (W0.alloc (.cells zero8 30)) W0.heap.size (xC s.x) 30) W0.heap.size (xC s.x) 30) := Lib.hid (putB_at (blk_new W0 zero8 30) _ _)
  obtain ⟨X, hX⟩ : ∃ X, X = W0.heap.size := ⟨_, rfl⟩
  obtain ⟨w1, hw1⟩ : ∃ w1, w1 = putB (W0.alloc (.cells zero8 30)) W0.heap.size (xC s.x) 30 := ⟨_, rfl⟩
  rw [← hw1] at HW1 HX1 ⊢
  have hXB : w.heap.size + 2 < X := by have := HSZ.out; omega
  rw [← hX] at HX1 ⊢
  clear hw1 hX HW HSZ
  obtain ⟨e0, e1, e2, e3, e4⟩ := ins_e HW1.out.ins
  have hx8 := HL.out.x
  have ha8 : (a : Int) < 8 := by omega
  have ha0 : (0 : Int) ≤ (a : Int) := by omega
  have hi8 : (ib : Int) < 8 := by omega
  have hi0 : (0 : Int) ≤ (ib : Int) := by omega
  have hc8 : (c : Int) < 8 := by omega
  have hc0 : (0 : Int) ≤ (c : Int) := by omega
  have ca : w1.cell? ⟨X, a, none⟩ = some (.int .i64 (xA s a)) := xC_cell HX1.out (k := a) (by omega)
  have fa := blk_frozen HX1.out a
  go_upto_region 10 with (fail)
  have HWa := Lib.hid (HW1.out.otherC (k := a) (v := .int .i64 0) hXB HX1.out (by decide))
  have HXa := Lib.hid (xC_put HX1.out a 0)
  clear HW1 HX1 ca fa e0 e1 e2 e3 e4
  obtain ⟨wa, hwa⟩ : ∃ wa, wa = w1.setCell ⟨X, a, none⟩ (.int .i64 0) := ⟨_, rfl⟩
  rw [← hwa] at HWa HXa ⊢
  clear hwa
  obtain ⟨e0, e1, e2, e3, e4⟩ := ins_e HWa.out.ins
  have cb : wa.cell? ⟨w.heap.size, 8 + ib, none⟩ = some (.int .i64 (pA s ib)) := blk_cell HWa.out.st _ _ (stC_p HL.out ib (by omega))
  have cc : wa.cell? ⟨w.heap.size, 8 + c, none⟩ = some (.int .i64 (pA s c)) := blk_cell HWa.out.st _ _ (stC_p HL.out c (by omega))
  have ca : wa.cell? ⟨X, a, none⟩ = some (.int .i64 0) := (blk_cell HXa.out a _ (xC_get (by rw [List.length_set]; omega))).trans (by rw [getD_set, if_pos ⟨rfl, by omega⟩])
  have fa := blk_frozen HXa.out a
  go_quiet (fail)
  go_upto_region 15 with (fail)
  have HW2 : Hid (RfW w ((wa.drewN nq).setCell ⟨X, a, none⟩ (.int .i64 1)) w.heap.size s vo vt ⟨15, a, ib, c, n⟩) := Lib.hid ((HWa.out.next (belowN wa nq)).otherC (k := a) (v := .int .i64 1) hXB (show blk (wa.drewN nq) X _ 30 from HXa.out) (by decide))
  have HX2 : Hid (blk ((wa.drewN nq).setCell ⟨X, a, none⟩ (.int .i64 1)) X (xC (s.x.set a 1)) 30) := Lib.hid (by have := xC_put (show blk (wa.drewN nq) X (xC (s.x.set a 0)) 30 from HXa.out) a 1; rw [List.set_set] at this; exact this)
  have hlx : (s.x.set a 1).length = 8 := by rw [List.length_set]; exact hx8
  clear HWa HXa ca cb cc fa e0 e1 e2 e3 e4
  obtain ⟨w2, hw2⟩ : ∃ w2, w2 = (wa.drewN nq).setCell ⟨X, a, none⟩ (.int .i64 1) := ⟨_, rfl⟩
  rw [← hw2] at HW2 HX2 ⊢
  clear hw2
  go_wp2_with (first
    | (refine wpList_loadB rfl 30 _ rfl X (xC (s.x.set a 1)) rfl 30 HX2.out _ Tryd.underlying30 rfl (x8_info hlx) ?_)
    | (refine wpList_putX rfl _ _ rfl rfl rfl HW2.out.st HW2.out.at'.len hlx ?_
       have HW3 := Lib.hid (HW2.out.put (t := { s with x := (s.x.set a 1) }) ⟨⟨hlx, HW2.out.at'.len.p, HW2.out.at'.len.g⟩, HW2.out.at'.objs, HW2.out.at'.out⟩)
       clear HW2 HX2)
    | (refine wpList_loadB rfl 36 _ rfl w.heap.size _ rfl 36 HW3.out.st _ Tryd.underlying36 rfl (rstate_size HW3.out.at'.len) ?_)
    | (refine wpList_putB rfl 36 _ _ rfl (w.heap.size + 2) _ rfl rfl 36 _ HW3.out.res (rstate_size HW3.out.at'.len) (by rw [stC_size HW3.out.at'.len]; rfl) (stC_one' HW3.out.at') ?_))
  refine bodyPost_ret (v := .tuple #[.agg (stC { s with x := (s.x.set a 1) } vo vt), .bool true]) ?_ rfl HW3.out.post
  rw [res_cell1 (p := 4) (u := 5) rfl _ _ (w.heap.size + 2) (stC { s with x := (s.x.set a 1) } vo vt) 36 _ rfl (putB_at HW3.out.res _ _) Tryd.underlying36 rfl (rstate_size HW3.out.at'.len)]; rfl

set_option maxRecDepth 100000 in
set_option maxHeartbeats 4000000 in
theorem num_15f (w W0 : World) (s : PSt) (vo vt : Value) (a ib c : Nat) (n : Int) (z : Nat) (h : StN w vo vt s)
    (hW0 : W0 = ((w.alloc (.cells (stC s vo vt) 36)).alloc (.cells (insC ⟨15, a, ib, c, n⟩) 45)).alloc (.cells zeroS 36)) (ha : a < 8) (hib : ib < 8) (hc : c < 8) (he : (pA s ib == pA s c) = false) :
    Calls Tryd.prog 23 #[.agg (stC s vo vt), insV ⟨15, a, ib, c, n⟩] w (PartPost w (setX s a 0) (.bool true)) := by
  obtain ⟨hw, hsz⟩ := RfW.start hW0 h
  have HW := Lib.hid hw
  have HL := Lib.hid h.len
  have HSZ := Lib.hid hsz
  clear hw h hsz
  go_enter Tryd.func23, Tryd.ntmps23
  go_upto_region 1 with (fail)
  rw [← hW0]
  clear hW0
  go_upto_region 2 with (first
    | (refine wpList_ldX rfl _ rfl rfl HW.out.st HL.out ?_)
    | (refine wpList_putB rfl 30 _ _ rfl W0.heap.size (xC s.x) rfl rfl 30 zero8 (blk_new W0 zero8 30) (x8_info HL.out.x) (by rw [xC_size, HL.out.x]; rfl) (xC_one _) ?_))
  have HW1 : Hid (RfW w (putB (W0.alloc (.cells zero8 30)) W0.heap.size (xC s.x) 30) w.heap.size s vo vt ⟨15, a, ib, c, n⟩) := Lib.hid (RfW.other (HW.out.next ((Below.refl _ _).alloc (Nat.le_refl _) _)) (by have := HSZ.out; omega) (blk_new W0 zero8 30) (by decide))
  have HX1 : Hid (blk (putB (W0.alloc (.cells zero8 30)) W0.heap.size (xC s.x) 30) W0.heap.size (xC s.x) 30) := Lib.hid (putB_at (blk_new W0 zero8 30) _ _)
  obtain ⟨X, hX⟩ : ∃ X, X = W0.heap.size := ⟨_, rfl⟩
  obtain ⟨w1, hw1⟩ : ∃ w1, w1 = putB (W0.alloc (.cells zero8 30)) W0.heap.size (xC s.x) 30 := ⟨_, rfl⟩
  rw [← hw1] at HW1 HX1 ⊢
  have hXB : w.heap.size + 2 < X := by have := HSZ.out; omega
  rw [← hX] at HX1 ⊢
  clear hw1 hX HW HSZ
  obtain ⟨e0, e1, e2, e3, e4⟩ := ins_e HW1.out.ins
  have hx8 := HL.out.x
  have ha8 : (a : Int) < 8 := by omega
  have ha0 : (0 : Int) ≤ (a : Int) := by omega
  have hi8 : (ib : Int) < 8 := by omega
  have hi0 : (0 : Int) ≤ (ib : Int) := by omega
  have hc8 : (c : Int) < 8 := by omega
  have hc0 : (0 : Int) ≤ (c : Int) := by omega
  have ca : w1.cell? ⟨X, a, none⟩ = some (.int .i64 (xA s a)) := xC_cell HX1.out (k := a) (by omega)
  have fa := blk_frozen HX1.out a
  go_upto_region 10 with (fail)
  have HWa := Lib.hid (HW1.out.otherC (k := a) (v := .int .i64 0) hXB HX1.out (by decide))
  have HXa := Lib.hid (xC_put HX1.out a 0)
  clear HW1 HX1 ca fa e0 e1 e2 e3 e4
  obtain ⟨wa, hwa⟩ : ∃ wa, wa = w1.setCell ⟨X, a, none⟩ (.int .i64 0) := ⟨_, rfl⟩
  rw [← hwa] at HWa HXa ⊢
  clear hwa
  obtain ⟨e0, e1, e2, e3, e4⟩ := ins_e HWa.out.ins
  have cb : wa.cell? ⟨w.heap.size, 8 + ib, none⟩ = some (.int .i64 (pA s ib)) := blk_cell HWa.out.st _ _ (stC_p HL.out ib (by omega))
  have cc : wa.cell? ⟨w.heap.size, 8 + c, none⟩ = some (.int .i64 (pA s c)) := blk_cell HWa.out.st _ _ (stC_p HL.out c (by omega))
  have ca : wa.cell? ⟨X, a, none⟩ = some (.int .i64 0) := (blk_cell HXa.out a _ (xC_get (by rw [List.length_set]; omega))).trans (by rw [getD_set, if_pos ⟨rfl, by omega⟩])
  have fa := blk_frozen HXa.out a
  go_quiet (fail)
  go_upto_region 15 with (fail)
  have HW2 : Hid (RfW w (wa.drewN nq) w.heap.size s vo vt ⟨15, a, ib, c, n⟩) := Lib.hid (HWa.out.next (belowN wa nq))
  have HX2 : Hid (blk (wa.drewN nq) X (xC (s.x.set a 0)) 30) := Lib.hid (show blk (wa.drewN nq) X (xC (s.x.set a 0)) 30 from HXa.out)
  have hlx : (s.x.set a 0).length = 8 := by rw [List.length_set]; exact hx8
  clear HWa HXa ca cb cc fa e0 e1 e2 e3 e4
  obtain ⟨w2, hw2⟩ : ∃ w2, w2 = wa.drewN nq := ⟨_, rfl⟩
  rw [← hw2] at HW2 HX2 ⊢
  clear hw2
  go_wp2_with (first
    | (refine wpList_loadB rfl 30 _ rfl X (xC (s.x.set a 0)) rfl 30 HX2.out _ Tryd.underlying30 rfl (x8_info hlx) ?_)
    | (refine wpList_putX rfl _ _ rfl rfl rfl HW2.out.st HW2.out.at'.len hlx ?_
       have HW3 := Lib.hid (HW2.out.put (t := { s with x := (s.x.set a 0) }) ⟨⟨hlx, HW2.out.at'.len.p, HW2.out.at'.len.g⟩, HW2.out.at'.objs, HW2.out.at'.out⟩)
       clear HW2 HX2)
    | (refine wpList_loadB rfl 36 _ rfl w.heap.size _ rfl 36 HW3.out.st _ Tryd.underlying36 rfl (rstate_size HW3.out.at'.len) ?_)
    | (refine wpList_putB rfl 36 _ _ rfl (w.heap.size + 2) _ rfl rfl 36 _ HW3.out.res (rstate_size HW3.out.at'.len) (by rw [stC_size HW3.out.at'.len]; rfl) (stC_one' HW3.out.at') ?_))
  refine bodyPost_ret (v := .tuple #[.agg (stC { s with x := (s.x.set a 0) } vo vt), .bool true]) ?_ rfl HW3.out.post
  rw [res_cell1 (p := 4) (u := 5) rfl _ _ (w.heap.size + 2) (stC { s with x := (s.x.set a 0) } vo vt) 36 _ rfl (putB_at HW3.out.res _ _) Tryd.underlying36 rfl (rstate_size HW3.out.at'.len)]; rfl

set_option maxRecDepth 100000 in
set_option maxHeartbeats 4000000 in
theorem num_no (w W0 : World) (s : PSt) (vo vt : Value) (z a ib c n : Int) (h : StN w vo vt s)
    (hW0 : W0 = ((w.alloc (.cells (stC s vo vt) 36)).alloc (.cells (insC ⟨z, a, ib, c, n⟩) 45)).alloc (.cells zeroS 36)) (q1 : (z == 1) = false) (q2 : (z == 2) = false) (q14 : (z == 14) = false) (q15 : (z == 15) = false) :
    Calls Tryd.prog 23 #[.agg (stC s vo vt), insV ⟨z, a, ib, c, n⟩] w (PartPost w (s) (.bool false)) := by
  obtain ⟨hw, hsz⟩ := RfW.start hW0 h
  have HW := Lib.hid hw
  have HL := Lib.hid h.len
  have HSZ := Lib.hid hsz
  clear hw h hsz
  go_enter Tryd.func23, Tryd.ntmps23
  go_upto_region 1 with (fail)
  rw [← hW0]
  clear hW0
  go_upto_region 2 with (first
    | (refine wpList_ldX rfl _ rfl rfl HW.out.st HL.out ?_)
    | (refine wpList_putB rfl 30 _ _ rfl W0.heap.size (xC s.x) rfl rfl 30 zero8 (blk_new W0 zero8 30) (x8_info HL.out.x) (by rw [xC_size, HL.out.x]; rfl) (xC_one _) ?_))
  have HW1 : Hid (RfW w (putB (W0.alloc (.cells zero8 30)) W0.heap.size (xC s.x) 30) w.heap.size s vo vt ⟨z, a, ib, c, n⟩) := Lib.hid (RfW.other (HW.out.next ((Below.refl _ _).alloc (Nat.le_refl _) _)) (by have := HSZ.out; omega) (blk_new W0 zero8 30) (by decide))
  have HX1 : Hid (blk (putB (W0.alloc (.cells zero8 30)) W0.heap.size (xC s.x) 30) W0.heap.size (xC s.x) 30) := Lib.hid (putB_at (blk_new W0 zero8 30) _ _)
  obtain ⟨X, hX⟩ : ∃ X, X = W0.heap.size := ⟨_, rfl⟩
  obtain ⟨w1, hw1⟩ : ∃ w1, w1 = putB (W0.alloc (.cells zero8 30)) W0.heap.size (xC s.x) 30 := ⟨_, rfl⟩
  rw [← hw1] at HW1 HX1 ⊢
  have hXB : w.heap.size + 2 < X := by have := HSZ.out; omega
  rw [← hX] at HX1 ⊢
  clear hw1 hX HW HSZ
  obtain ⟨e0, e1, e2, e3, e4⟩ := ins_e HW1.out.ins
  have hx8 := HL.out.x
  go_wp2_with (first
    | (refine wpList_loadB rfl 36 _ rfl w.heap.size _ rfl 36 HW1.out.st _ Tryd.underlying36 rfl (rstate_size HW1.out.at'.len) ?_)
    | (refine wpList_putB rfl 36 _ _ rfl (w.heap.size + 2) _ rfl rfl 36 _ HW1.out.res (rstate_size HW1.out.at'.len) (by rw [stC_size HW1.out.at'.len]; rfl) (stC_one' HW1.out.at') ?_))
  refine bodyPost_ret (v := .tuple #[.agg (stC s vo vt), .bool false]) ?_ rfl HW1.out.post
  rw [res_cell1 (p := 4) (u := 5) rfl _ _ (w.heap.size + 2) (stC s vo vt) 36 _ rfl (putB_at HW1.out.res _ _) Tryd.underlying36 rfl (rstate_size HW1.out.at'.len)]; rfl
end Go.Proofs.YtjkpbajojgdooaaDoor
