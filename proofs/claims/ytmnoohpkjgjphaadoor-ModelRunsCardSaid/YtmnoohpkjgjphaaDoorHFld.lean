/-
  Contracts of check: hasField, isNumber, pointsTo, alike, isPlace, jumps, areInts.
-/
import Derived.Test.YtmnoohpkjgjphaaDoorHNam
namespace Go.Proofs.YtmnoohpkjgjphaaDoor
set_option linter.unusedSimpArgs false
set_option linter.unusedVariables false
open Go.RowKit

theorem ksize_n (v : Value) (ts : List ByteArray) (t z : Int) (w : World) (h : TsAt w v ts) (hz : Hid (sizeI ts t = z)) : Calls Tryd.prog 54 #[v, .int .i64 t] w fun e w' => e = .returned (.int .i64 z) ∧ w = w' :=
  (ksize_any v ts t w h).mono fun e w' ⟨h1, h2⟩ => ⟨by rw [h1, hz.out], h2⟩
theorem kto_n (v : Value) (ts : List ByteArray) (t f z : Int) (w : World) (h : TsAt w v ts) (hz : Hid (toI ts t f = z)) : Calls Tryd.prog 88 #[v, .int .i64 t, .int .i64 f] w fun e w' => e = .returned (.int .i64 z) ∧ w = w' :=
  (kto_any v ts t f w h).mono fun e w' ⟨h1, h2⟩ => ⟨by rw [h1, hz.out], h2⟩
theorem sizeI_le {ts : List ByteArray} {t : Int} : 0 ≤ sizeI ts t ∧ sizeI ts t ≤ 6 := by
  unfold sizeI
  split
  · next h =>
    obtain ⟨h0, h1, h2⟩ := one_iff.1 h
    have := right_ty h2 (n := t.toNat) (by omega)
    omega
  · omega
theorem toI_le {ts : List ByteArray} {t f : Int} : -1 ≤ toI ts t f ∧ toI ts t f ≤ 207 := by
  unfold toI
  split
  · next h =>
    obtain ⟨h0, h1, h2⟩ := one_iff.1 h.1
    have hb := byt_lt (ty ts t.toNat) f.toNat
    rcases right_let h2 (n := t.toNat) (k := f.toNat) (by omega) (by omega) with e | e
    · rw [e, ptr_i]; omega
    · have := dig_iff.1 e
      by_cases h3 : byt (ty ts t.toNat) f.toNat = 105
      · rw [h3, ptr_i]; omega
      · rw [ptr_d h3]; omega
  · omega
/-- Is there such a field? -/
def hasI (ts : List Bs) (t n : Int) : Bool := decide (0 ≤ n) && decide (n < sizeP ts t)
theorem hasF_b (v : Value) (p : PProg) (t n : Int) (b : Bool) (w : World) (h : ProgAt w v p) (hs : OkP p) (hb : hasI p.types t n = b) : Calls Tryd.prog 87 #[v, .int .i64 t, .int .i64 n] w (AggPost w (.bool b)) := by
  obtain ⟨vt, vc, rfl, ht, hc⟩ := h
  have hwb : Below w.heap.size w (w.alloc (.cells (progC vt p vc) 25)) := (Below.refl _ _).alloc (Nat.le_refl _) _
  have HT := Lib.hid (ts_of (ht.below hwb) hs.ty)
  have HW := Lib.hid hwb
  obtain ⟨x, c, rfl, -, -, -⟩ := id ht.elems
  obtain ⟨x', c', rfl, -, -, -⟩ := id hc
  obtain ⟨z0, z1⟩ := sizeI_le (ts := tsP p.types) (t := t)
  have hz : sizeP p.types t = sizeI (tsP p.types) t := rfl
  unfold hasI at hb
  rw [hz] at hb
  generalize hzz : sizeI (tsP p.types) t = z at *
  have HZ := Lib.hid hzz
  have HB := Lib.hid hb
  clear ht hc hs hwb hz hb hzz
  by_cases h0 : 0 ≤ n
  · by_cases h1 : n < z
    all_goals
      go_enter Tryd.func87, Tryd.ntmps87
      go_wp2_with (go_at_call 54; refine (ksize_n _ (tsP p.types) t z _ HT.out HZ).mono ?_; rintro e w' ⟨rfl, rfl⟩)
      go_ret
      exact ⟨ret_bool (by rw [← HB.out]; simp; omega), HW.out⟩
  · go_enter Tryd.func87, Tryd.ntmps87
    go_wp2
    go_ret
    exact ⟨ret_bool (by rw [← HB.out]; simp; omega), HW.out⟩
/-- A program in a block of its own. -/
structure Keep (W : World) (b : Nat) (vt vc : Value) (p : PProg) : Prop where
  blk : blk W b (progC vt p vc) 25
  at' : ProgAt W (.agg (progC vt p vc)) p
theorem Keep.below {W w' : World} {b : Nat} {vt vc : Value} {p : PProg} (h : Keep W b vt vc p) (hb : Below W.heap.size W w') : Keep w' b vt vc p := ⟨blk_below h.blk hb, h.at'.below hb⟩
theorem Keep.cells {W : World} {b : Nat} {vt vc : Value} {p : PProg} (h : Keep W b vt vc p) : W.cell? ⟨b, 0, none⟩ = some vt ∧ W.cell? ⟨b, 1, none⟩ = some (str p.locals) ∧ W.cell? ⟨b, 2, none⟩ = some (str p.globs) ∧ W.cell? ⟨b, 3, none⟩ = some vc :=
  ⟨blk_cell h.blk 0 _ rfl, blk_cell h.blk 1 _ rfl, blk_cell h.blk 2 _ rfl, blk_cell h.blk 3 _ rfl⟩
theorem Keep.ts {W : World} {b : Nat} {vt vc : Value} {p : PProg} (h : Keep W b vt vc p) (hs : OkP p) : TsAt W vt (tsP p.types) := by
  obtain ⟨vt', vc', e, ht, _⟩ := h.at'
  simp only [progC, Value.agg.injEq, Array.mk.injEq, List.cons.injEq] at e
  rw [e.1]; exact ts_of ht hs.ty
theorem keep_new {w : World} {vt vc : Value} {p : PProg} (h : ProgAt w (.agg (progC vt p vc)) p) : Keep (w.alloc (.cells (progC vt p vc) 25)) w.heap.size vt vc p :=
  ⟨blk_new _ _ _, h.below ((Below.refl _ _).alloc (Nat.le_refl _) _)⟩
theorem numF_b (v : Value) (p : PProg) (t n : Int) (b : Bool) (w : World) (h : ProgAt w v p) (hs : OkP p) (hb : numF p.types t n = b) : Calls Tryd.prog 80 #[v, .int .i64 t, .int .i64 n] w (AggPost w (.bool b)) := by
  obtain ⟨vt, vc, rfl, ht, hc⟩ := id h
  have hwb : Below w.heap.size w (w.alloc (.cells (progC vt p vc) 25)) := (Below.refl _ _).alloc (Nat.le_refl _) _
  have HK := Lib.hid (keep_new h)
  have HSZ : (w.alloc (.cells (progC vt p vc) 25)).heap.size = w.heap.size + 1 := World.size_alloc _ _
  have HTS := Lib.hid hs
  obtain ⟨x, c, rfl, -, -, -⟩ := id ht.elems
  obtain ⟨x', c', rfl, -, -, -⟩ := id hc
  obtain ⟨z0, z1⟩ := toI_le (ts := tsP p.types) (t := t) (f := n)
  have hnum : numF p.types t n = (hasI p.types t n && decide (toI (tsP p.types) t n < 0)) := rfl
  rw [hnum] at hb
  rcases hh : hasI p.types t n with _ | _
  · have HH := Lib.hid (fun w1 (hb1 : Below (w.alloc (.cells (progC (.slice x p.types.length c) p (.slice x' p.code.length c')) 25)).heap.size _ w1) => hasF_b _ p t n false w1 (HK.out.at'.below hb1) hs hh)
    rw [hh] at hb
    have HB := Lib.hid hb
    have HW := Lib.hid hwb
    have HZ := Lib.hid HSZ
    clear h ht hc hs hb hwb hh hnum HSZ
    go_enter Tryd.func80, Tryd.ntmps80
    go_wp2_with (first
      | (refine wpList_loadB rfl 25 _ rfl w.heap.size (progC (.slice x p.types.length c) p (.slice x' p.code.length c')) rfl 25 HK.out.blk _ Tryd.underlying25 rfl prog_info ?_)
      | (go_at_call 87; refine (HH.out _ (Below.refl _ _)).mono ?_; rintro e w' ⟨rfl, hb1⟩))
    go_ret
    exact ⟨ret_bool (by rw [← HB.out]; rfl), HW.out.trans (hb1.mono (by rw [HZ.out]; omega))⟩
  · have HH := Lib.hid (fun w1 (hb1 : Below (w.alloc (.cells (progC (.slice x p.types.length c) p (.slice x' p.code.length c')) 25)).heap.size _ w1) => hasF_b _ p t n true w1 (HK.out.at'.below hb1) hs hh)
    rw [hh] at hb
    generalize hzz : toI (tsP p.types) t n = z at *
    have HI := Lib.hid hzz
    have hn : 0 ≤ n ∧ n ≤ 6 := by
      unfold hasI at hh
      simp only [Bool.and_eq_true, decide_eq_true_eq] at hh
      have : sizeP p.types t ≤ 6 := sizeI_le.2
      omega
    have HB := Lib.hid hb
    have HW := Lib.hid hwb
    have HZ := Lib.hid HSZ
    clear h ht hc hs hb hwb hh hnum hzz HSZ
    by_cases hz : z = -1
    · have e1 : (z == -1) = true := by simp [hz]
      have HZ1 := Lib.hid hz
      clear hz
      go_enter Tryd.func80, Tryd.ntmps80
      go_wp2_with (first
        | (refine wpList_loadB rfl 25 _ rfl w.heap.size (progC (.slice x p.types.length c) p (.slice x' p.code.length c')) rfl 25 HK.out.blk _ Tryd.underlying25 rfl prog_info ?_)
        | (go_at_call 87; refine (HH.out _ (Below.refl _ _)).mono ?_; rintro e w' ⟨rfl, hb1⟩; have HB1 := Lib.hid hb1; clear hb1; have HKN := Lib.hid (HK.out.below HB1.out); obtain ⟨c0, -, -, -⟩ := HKN.out.cells; have HT1 := Lib.hid (HKN.out.ts HTS.out))
        | (go_at_call 88; refine (kto_n _ (tsP p.types) t n z _ HT1.out HI).mono ?_; rintro e w' ⟨rfl, rfl⟩))
      go_ret
      exact ⟨ret_bool (by rw [← HB.out, HZ1.out]; rfl), HW.out.trans (HB1.out.mono (by rw [HZ.out]; omega))⟩
    · have e1 : (z == -1) = false := by simp [hz]
      have HZ1 := Lib.hid hz
      clear hz
      go_enter Tryd.func80, Tryd.ntmps80
      go_wp2_with (first
        | (refine wpList_loadB rfl 25 _ rfl w.heap.size (progC (.slice x p.types.length c) p (.slice x' p.code.length c')) rfl 25 HK.out.blk _ Tryd.underlying25 rfl prog_info ?_)
        | (go_at_call 87; refine (HH.out _ (Below.refl _ _)).mono ?_; rintro e w' ⟨rfl, hb1⟩; have HB1 := Lib.hid hb1; clear hb1; have HKN := Lib.hid (HK.out.below HB1.out); obtain ⟨c0, -, -, -⟩ := HKN.out.cells; have HT1 := Lib.hid (HKN.out.ts HTS.out))
        | (go_at_call 88; refine (kto_n _ (tsP p.types) t n z _ HT1.out HI).mono ?_; rintro e w' ⟨rfl, rfl⟩))
      go_ret
      exact ⟨ret_bool (by rw [← HB.out]; have := HZ1.out; simp; omega), HW.out.trans (HB1.out.mono (by rw [HZ.out]; omega))⟩
end Go.Proofs.YtmnoohpkjgjphaaDoor
