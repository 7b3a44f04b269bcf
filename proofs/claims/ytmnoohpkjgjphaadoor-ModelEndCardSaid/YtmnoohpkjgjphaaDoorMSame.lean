/-
  The document's Same of a state with itself, wherever the two lie.
-/
import Derived.Test.YtmnoohpkjgjphaaDoorMArr
import Derived.Test.YtmnoohpkjgjphaaDoorPGet
import Derived.StillTailTactics
import Derived.Deep.CutRange
namespace Go.Proofs.YtmnoohpkjgjphaaDoor
set_option linter.unusedSimpArgs false
set_option linter.unusedVariables false
open Go.RowKit

/-- A row that is loaded behind a guard that says yes. -/
theorem wpList_load_want {ops : Array Oper} {rest : List Oper} {o : Oper} {a : Act} {w : World} {Q : Exit → Act → World → Prop} (hw : Region.wanted o (yielded ops a.tmps) = true) (ty : TypeId) (x : Operand) (ho : o.op = .load ty x)
    (b off : Nat) (hx : a.eval x = .pointer (some ⟨b, off, none⟩)) (cs : List Value) (d : TypeDesc) (hc : w.rangeAt b off cs) (hu : Tryd.prog.underlying ty = some d) (hd : d.isRow = true) (hi : (Tryd.prog.info? ty).map (·.size) = some cs.length)
    (h : wpList Tryd.prog ops Q rest (a.put o.dst (.agg cs.toArray)) w) : wpList Tryd.prog ops Q (o :: rest) a w :=
  BigFrame.wpList_want hw fun K hK => wp_load_mid ty x ho b off hx cs d hc hu hd hi (hK _ _ h)
theorem range_x {w : World} {b : Nat} {s : PSt} {vo vt : Value} {t : TypeId} (h : blk w b (stC s vo vt) t) (hl : LenS s) : w.rangeAt b 0 (i64s s.x) ∧ w.rangeAt b 8 (i64s s.p) ∧ w.rangeAt b 16 (i64s s.g) := by
  have key : ∀ (l : List Int) (j : Nat) (v : Value), (i64s l)[j]? = some v → v = .int .i64 (l.getD j 0) ∧ j < l.length := fun l j v hv => by
    have hj := (List.getElem?_eq_some_iff.1 hv).1
    rw [i64s_len] at hj
    refine ⟨?_, hj⟩
    have e : l[j]? = some (l.getD j 0) := by rw [List.getD_eq_getElem?_getD, List.getElem?_eq_getElem hj]; rfl
    rw [i64s_get e] at hv
    exact (Option.some.inj hv).symm
  refine ⟨fun j v hv => ?_, fun j v hv => ?_, fun j v hv => ?_⟩
  · obtain ⟨rfl, hj⟩ := key _ _ _ hv
    rw [Nat.zero_add]; exact blk_cell h _ _ (stC_x hl j (by have := hl.x; omega))
  · obtain ⟨rfl, hj⟩ := key _ _ _ hv
    exact blk_cell h _ _ (stC_p hl j (by have := hl.p; omega))
  · obtain ⟨rfl, hj⟩ := key _ _ _ hv
    exact blk_cell h _ _ (stC_g hl j (by have := hl.g; omega))
set_option maxRecDepth 100000 in
set_option maxHeartbeats 4000000 in
theorem same_at (w W0 : World) (s : PSt) (vt vt' : Value) (ao ao' : Option Addr) (co co' : Nat) (hW0 : W0 = (w.alloc (.cells (stC s (.slice ao s.objs.length co) vt) 35)).alloc (.cells (stC s (.slice ao' s.objs.length co') vt') 35)) (HS : Hid (Below w.heap.size w W0)) (HL : Hid (LenS s))
    (K1 : Hid (blk W0 w.heap.size (stC s (.slice ao s.objs.length co) vt) 35)) (K2 : Hid (blk W0 (w.heap.size + 1) (stC s (.slice ao' s.objs.length co') vt') 35)) (g1 : s.objs.length ≤ co) (g2 : co ≤ 9223372036854775807) (k1 : s.objs.length ≤ co') (k2 : co' ≤ 9223372036854775807)
    (HNU : Hid (∀ w1, Below w.heap.size w w1 → Calls Tryd.prog 17 #[vt, vt'] w1 (AggPost w1 (.bool true))))
    (HROW : Hid (∀ j : Nat, j < s.objs.length → ∃ (b o b' o' : Nat) (r r' : Value), ao = some ⟨b, o, none⟩ ∧ ao' = some ⟨b', o', none⟩ ∧ b < w.heap.size ∧ b' < w.heap.size ∧ w.cell? ⟨b, o + j, none⟩ = some r ∧ w.cell? ⟨b', o' + j, none⟩ = some r' ∧ ∀ w1, Below w.heap.size w w1 → Calls Tryd.prog 17 #[r, r'] w1 (AggPost w1 (.bool true)))) :
    Calls Tryd.prog 14 #[.agg (stC s (.slice ao s.objs.length co) vt), .agg (stC s (.slice ao' s.objs.length co') vt')] w (AggPost w (.bool true)) := by
  have HR1 := Lib.hid (range_x K1.out HL.out)
  have HR2 := Lib.hid (range_x K2.out HL.out)
  have qX := fun w => same_X w s.x HL.out.x
  have qP := fun w => same_P w s.p HL.out.p
  have qG := fun w => same_G w s.g HL.out.g
  have hx := HL.out.x
  have hp := HL.out.p
  have hg := HL.out.g
  have IX : (Tryd.prog.info? 28).map (·.size) = some (i64s s.x).length := by rw [i64s_len, hx]; exact infoX
  have IP : (Tryd.prog.info? 29).map (·.size) = some (i64s s.p).length := by rw [i64s_len, hp]; exact infoP
  have IG : (Tryd.prog.info? 30).map (·.size) = some (i64s s.g).length := by rw [i64s_len, hg]; exact infoG
  have HIX := Lib.hid IX
  have HIP := Lib.hid IP
  have HIG := Lib.hid IG
  obtain ⟨a20, a21, a22, a23⟩ := stC_rest (vo := .slice ao s.objs.length co) (vt := vt) HL.out
  obtain ⟨b20, b21, b22, b23⟩ := stC_rest (vo := .slice ao' s.objs.length co') (vt := vt') HL.out
  have c20 := blk_cell K1.out _ _ a20
  have c21 := blk_cell K1.out _ _ a21
  have c22 := blk_cell K1.out _ _ a22
  have c23 := blk_cell K1.out _ _ a23
  have d20 := blk_cell K2.out _ _ b20
  have d21 := blk_cell K2.out _ _ b21
  have d22 := blk_cell K2.out _ _ b22
  have d23 := blk_cell K2.out _ _ b23
  clear a20 a21 a22 a23 b20 b21 b22 b23 hx hp hg IX IP IG
  go_enter Tryd.func14, Tryd.ntmps14
  go_upto_region 1 with (fail)
  rw [← hW0]
  clear hW0
  go_upto_region 3 with (first
    | (refine wpList_load_mid rfl 28 _ rfl w.heap.size 0 rfl (i64s s.x) _ HR1.out.1 Tryd.underlying28 rfl HIX.out ?_)
    | (refine wpList_load_mid rfl 28 _ rfl (w.heap.size + 1) 0 rfl (i64s s.x) _ HR2.out.1 Tryd.underlying28 rfl HIX.out ?_)
    | (refine wpList_load_want (by rfl) 29 _ rfl w.heap.size 8 rfl (i64s s.p) _ HR1.out.2.1 Tryd.underlying29 rfl HIP.out ?_)
    | (refine wpList_load_want (by rfl) 29 _ rfl (w.heap.size + 1) 8 rfl (i64s s.p) _ HR2.out.2.1 Tryd.underlying29 rfl HIP.out ?_)
    | (refine wpList_load_want (by rfl) 30 _ rfl w.heap.size 16 rfl (i64s s.g) _ HR1.out.2.2 Tryd.underlying30 rfl HIG.out ?_)
    | (refine wpList_load_want (by rfl) 30 _ rfl (w.heap.size + 1) 16 rfl (i64s s.g) _ HR2.out.2.2 Tryd.underlying30 rfl HIG.out ?_)
    | (go_at_call 17; refine (HNU.out _ HS.out).mono ?_; rintro e w1 ⟨rfl, hb⟩; have HB1 := Lib.hid (HS.out.trans (hb.mono HS.out.size)); have KA := Lib.hid (blk_below K1.out hb); have KB := Lib.hid (blk_below K2.out hb); clear hb HNU c20 c21 c22 c23 d20 d21 d22 d23; obtain ⟨a20, a21, a22, a23⟩ := stC_rest (vo := .slice ao s.objs.length co) (vt := vt) HL.out; obtain ⟨b20, b21, b22, b23⟩ := stC_rest (vo := .slice ao' s.objs.length co') (vt := vt') HL.out; have c20 := blk_cell KA.out _ _ a20; have d20 := blk_cell KB.out _ _ b20; clear a20 a21 a22 a23 b20 b21 b22 b23))
  clear HR1 HR2 qX qP qG HIX HIP HIG K1 K2
  go_wp2_with (fail)
  go_loopw [5] (fun i wr => ∃ k : Nat, k ≤ s.objs.length ∧ i = .int .i64 k ∧ Hid (Below w.heap.size w wr) ∧ Hid (blk wr w.heap.size (stC s (.slice ao s.objs.length co) vt) 35) ∧ Hid (blk wr (w.heap.size + 1) (stC s (.slice ao' s.objs.length co') vt') 35)) (fun i _ => s.objs.length - (intOf i).toNat)
  case atStart => exact ⟨0, Nat.zero_le _, rfl, HB1, KA, KB⟩
  case round =>
    obtain ⟨k, hk, rfl, hbw, ka, kb⟩ := hrel
    clear HB1 KA KB c20 d20
    have c20 := blk_cell ka.out _ _ (stC_rest (vo := .slice ao s.objs.length co) (vt := vt) HL.out).1
    have d20 := blk_cell kb.out _ _ (stC_rest (vo := .slice ao' s.objs.length co') (vt := vt') HL.out).1
    by_cases hlt : k < s.objs.length
    · obtain ⟨b, o, b', o', r, r', rfl, rfl, hb, hb', hc, hc', hn⟩ := HROW.out k hlt
      have q1 : wr.cell? ⟨b, o + k, none⟩ = some r := by rw [hbw.out.cell (p := ⟨b, o + k, none⟩) hb]; exact hc
      have q2 : wr.cell? ⟨b', o' + k, none⟩ = some r' := by rw [hbw.out.cell (p := ⟨b', o' + k, none⟩) hb']; exact hc'
      have HN := Lib.hid hn
      have hki : (k : Int) < (s.objs.length : Int) := by omega
      have hk0 : (0 : Int) ≤ (k : Int) := by omega
      clear hn hc hc' hb hb'
      go_wp2_with (fail)
      refine wp_region_still_tail 10 (by kernel_rfl) (by kernel_rfl) ?_
      simp only [List.take_succ_cons, List.take_zero, List.drop_succ_cons, List.drop_zero]
      change wpStill _ _ wr.drew (fun a' => wpList _ _ _ _ a' wr.drew) _ _
      repeat still_step
      refine wpStill_nil ?_
      go_wp2_with (go_at_call 17; refine (HN.out _ hbw.out.drew).mono ?_; rintro e w2 ⟨rfl, hb⟩; have HB2 := Lib.hid ((Below.refl wr.heap.size wr).drew.trans hb); clear hb)
      have HB3 := Lib.hid (hbw.out.trans (HB2.out.mono hbw.out.size))
      have KA3 := Lib.hid (blk_below ka.out HB2.out)
      have KB3 := Lib.hid (blk_below kb.out HB2.out)
      go_roundw
      case rel => exact ⟨k + 1, by omega, by go_num, HB3, KA3, KB3⟩
      case measure => simp [intOf]; omega
    · obtain rfl : k = s.objs.length := by omega
      go_wp2
      go_ret
      exact ⟨rfl, hbw.out⟩
theorem same_n (va vb : Value) (s : PSt) (w : World) (ha : StAt w va s) (hb : StAt w vb s) : Calls Tryd.prog 14 #[va, vb] w (AggPost w (.bool true)) := by
  obtain ⟨vo, vt, rfl, hg, ht, hl⟩ := ha
  obtain ⟨vo', vt', rfl, hg', ht', -⟩ := hb
  obtain ⟨rows, hr1, ⟨ao, co, rfl, g1, g2, g3⟩, hr3⟩ := hg
  obtain ⟨rows', hs1, ⟨ao', co', rfl, k1, k2, k3⟩, hs3⟩ := hg'
  have s1 : (w.alloc (.cells (stC s (.slice ao rows.length co) vt) 35)).heap.size = w.heap.size + 1 := World.size_alloc _ _
  have hwb : Below w.heap.size w ((w.alloc (.cells (stC s (.slice ao s.objs.length co) vt) 35)).alloc (.cells (stC s (.slice ao' s.objs.length co') vt') 35)) := ((Below.refl _ _).alloc (Nat.le_refl _) _).alloc (by simp) _
  unfold maxLen at g2 k2
  rw [hr1] at g1 s1 ⊢
  rw [hs1] at k1 ⊢
  have k2' := blk_new (w.alloc (.cells (stC s (.slice ao s.objs.length co) vt) 35)) (stC s (.slice ao' s.objs.length co') vt') 35
  rw [s1] at k2'
  refine same_at w _ s vt vt' ao ao' co co' rfl (Lib.hid hwb) (Lib.hid hl) (Lib.hid (blk_alloc (blk_new _ _ _) _)) (Lib.hid k2') g1 (by omega) k1 (by omega) (Lib.hid fun w1 hb1 => nums_n _ _ s.out s.out true w1 (ht.below hb1) (ht'.below hb1) (by simp)) (Lib.hid fun j hj => ?_)
  obtain ⟨xs, hx⟩ : ∃ xs, s.objs[j]? = some xs := ⟨_, List.getElem?_eq_getElem hj⟩
  obtain ⟨r, h1⟩ : ∃ r, rows[j]? = some r := ⟨_, List.getElem?_eq_getElem (by omega)⟩
  obtain ⟨r', h2⟩ : ∃ r, rows'[j]? = some r := ⟨_, List.getElem?_eq_getElem (by omega)⟩
  obtain ⟨b, o, rfl, hb, hc⟩ := g3.resolve_left (by rintro rfl; simp at h1)
  obtain ⟨b', o', rfl, hb', hc'⟩ := k3.resolve_left (by rintro rfl; simp at h2)
  exact ⟨b, o, b', o', r, r', rfl, rfl, hb, hb', hc j r h1, hc' j r' h2, fun w1 hb1 => nums_n _ _ xs xs true w1 ((hr3 j r xs h1 hx).below hb1) ((hs3 j r' xs h2 hx).below hb1) (by simp)⟩
end Go.Proofs.YtmnoohpkjgjphaaDoor
