/-
  Contracts of check: pointsTo, alike, isPlace, jumps, areInts, Need, kindsMayBe.
-/
import Derived.Test.YtmnoohpkjgjphaaDoorHFld
namespace Go.Proofs.YtmnoohpkjgjphaaDoor
set_option linter.unusedSimpArgs false
set_option linter.unusedVariables false
open Go.RowKit

theorem toP_no {ts : List Bs} {t n : Int} (h : hasI ts t n = false) : toP ts t n = -1 := by
  unfold toP toI
  rw [if_neg]
  rintro ⟨h1, h2, h3⟩
  unfold hasI sizeP sizeI at h
  rw [if_pos h1, decide_eq_true h2, decide_eq_true h3] at h
  cases h
theorem ptsTo_n (v : Value) (p : PProg) (t n z : Int) (w : World) (h : ProgAt w v p) (hs : OkP p) (hz : toP p.types t n = z) : Calls Tryd.prog 81 #[v, .int .i64 t, .int .i64 n] w (AggPost w (.int .i64 z)) := by
  obtain ⟨vt, vc, rfl, ht, hc⟩ := id h
  have hwb : Below w.heap.size w (w.alloc (.cells (progC vt p vc) 25)) := (Below.refl _ _).alloc (Nat.le_refl _) _
  have HK := Lib.hid (keep_new h)
  have HSZ : (w.alloc (.cells (progC vt p vc) 25)).heap.size = w.heap.size + 1 := World.size_alloc _ _
  have HTS := Lib.hid hs
  obtain ⟨x, c, rfl, -, -, -⟩ := id ht.elems
  obtain ⟨x', c', rfl, -, -, -⟩ := id hc
  rcases hh : hasI p.types t n with _ | _
  · have HH := Lib.hid (fun w1 (hb1 : Below (w.alloc (.cells (progC (.slice x p.types.length c) p (.slice x' p.code.length c')) 25)).heap.size _ w1) => hasF_b _ p t n false w1 (HK.out.at'.below hb1) hs hh)
    have he : z = -1 := by rw [← hz]; exact toP_no hh
    subst he
    have HW := Lib.hid hwb
    have HZ := Lib.hid HSZ
    clear h ht hc hs hwb hh HSZ hz
    go_enter Tryd.func81, Tryd.ntmps81
    go_wp2_with (first
      | (refine wpList_loadB rfl 25 _ rfl w.heap.size (progC (.slice x p.types.length c) p (.slice x' p.code.length c')) rfl 25 HK.out.blk _ Tryd.underlying25 rfl prog_info ?_)
      | (go_at_call 87; refine (HH.out _ (Below.refl _ _)).mono ?_; rintro e w' ⟨rfl, hb1⟩))
    go_ret
    exact ⟨rfl, HW.out.trans (hb1.mono (by rw [HZ.out]; omega))⟩
  · have HH := Lib.hid (fun w1 (hb1 : Below (w.alloc (.cells (progC (.slice x p.types.length c) p (.slice x' p.code.length c')) 25)).heap.size _ w1) => hasF_b _ p t n true w1 (HK.out.at'.below hb1) hs hh)
    have HI : Hid (toI (tsP p.types) t n = z) := Lib.hid hz
    have hn : 0 ≤ n ∧ n ≤ 6 := by
      unfold hasI at hh
      simp only [Bool.and_eq_true, decide_eq_true_eq] at hh
      have : sizeP p.types t ≤ 6 := sizeI_le.2
      omega
    have HW := Lib.hid hwb
    have HZ := Lib.hid HSZ
    clear h ht hc hs hwb hh HSZ hz
    go_enter Tryd.func81, Tryd.ntmps81
    go_wp2_with (first
      | (refine wpList_loadB rfl 25 _ rfl w.heap.size (progC (.slice x p.types.length c) p (.slice x' p.code.length c')) rfl 25 HK.out.blk _ Tryd.underlying25 rfl prog_info ?_)
      | (go_at_call 87; refine (HH.out _ (Below.refl _ _)).mono ?_; rintro e w' ⟨rfl, hb1⟩; have HB1 := Lib.hid hb1; clear hb1; have HKN := Lib.hid (HK.out.below HB1.out); obtain ⟨c0, -, -, -⟩ := HKN.out.cells; have HT1 := Lib.hid (HKN.out.ts HTS.out))
      | (go_at_call 88; refine (kto_n _ (tsP p.types) t n z _ HT1.out HI).mono ?_; rintro e w' ⟨rfl, rfl⟩))
    go_ret
    exact ⟨rfl, HW.out.trans (HB1.out.mono (by rw [HZ.out]; omega))⟩

theorem alike_b (s t : Int) (b : Bool) (w : World) (h1 : -1 ≤ s) (hb : sameT s t = b) : Calls Tryd.prog 79 #[.int .i64 s, .int .i64 t] w fun e w' => e = .returned (.bool b) ∧ w = w' := by
  unfold sameT at hb
  have HB := Lib.hid hb
  clear hb
  by_cases h : s = t
  · have e1 : (s == t) = true := by simp [h]
    have HS := Lib.hid h
    clear h
    by_cases h2 : s = -1
    · have e2 : (s != -1) = false := by simp [h2]
      have HS2 := Lib.hid h2
      clear h2
      go_enter Tryd.func79, Tryd.ntmps79
      go_wp2
      go_ret
      exact ⟨ret_bool (by rw [← HB.out, HS2.out]; rfl), rfl⟩
    · have e2 : (s != -1) = true := by simp [h2]
      have HS2 := Lib.hid h2
      clear h2
      go_enter Tryd.func79, Tryd.ntmps79
      go_wp2
      go_ret
      exact ⟨ret_bool (by rw [← HB.out]; have := HS.out; have := HS2.out; simp; omega), rfl⟩
  · have e1 : (s == t) = false := by simp [h]
    have HS := Lib.hid h
    clear h
    go_enter Tryd.func79, Tryd.ntmps79
    go_wp2
    go_ret
    exact ⟨ret_bool (by rw [← HB.out]; have := HS.out; simp; omega), rfl⟩
theorem place_b (v : Value) (p : PProg) (n : Int) (b : Bool) (w : World) (h : ProgAt w v p) (hb : (decide (0 ≤ n) && decide (n ≤ p.code.length)) = b) : Calls Tryd.prog 67 #[v, .int .i64 n] w (AggPost w (.bool b)) := by
  obtain ⟨vt, vc, rfl, ht, hc⟩ := h
  have hwb : Below w.heap.size w (w.alloc (.cells (progC vt p vc) 25)) := (Below.refl _ _).alloc (Nat.le_refl _) _
  have HW := Lib.hid hwb
  obtain ⟨x, c, rfl, -, -, -⟩ := id ht.elems
  obtain ⟨x', c', rfl, g1, g2, -⟩ := id hc
  have HB := Lib.hid hb
  unfold maxLen at g2
  clear ht hc hwb hb
  by_cases h0 : 0 ≤ n
  · by_cases h1 : n ≤ p.code.length
    all_goals
      go_enter Tryd.func67, Tryd.ntmps67
      go_wp2
      go_ret
      exact ⟨ret_bool (by rw [← HB.out]; simp; omega), HW.out⟩
  · go_enter Tryd.func67, Tryd.ntmps67
    go_wp2
    go_ret
    exact ⟨ret_bool (by rw [← HB.out]; simp; omega), HW.out⟩
theorem jumps_b (i : PIns) (b : Bool) (w : World) (hb : jumpI i = b) : Calls Tryd.prog 66 #[insV i] w (AggPost w (.bool b)) := by
  unfold jumpI at hb
  have HB := Lib.hid hb
  obtain ⟨op, a, bb, c, n⟩ := i
  simp only at *
  clear hb
  by_cases h3 : op = 3
  · have e1 : (op == 3) = true := by simp [h3]
    have H3 := Lib.hid h3
    clear h3
    go_enter Tryd.func66, Tryd.ntmps66
    go_wp2
    go_ret
    exact ⟨ret_bool (by rw [← HB.out, H3.out]; rfl), (Below.refl _ _).alloc (Nat.le_refl _) _⟩
  · have e1 : (op == 3) = false := by simp [h3]
    have H3 := Lib.hid h3
    clear h3
    go_enter Tryd.func66, Tryd.ntmps66
    go_wp2
    go_ret
    exact ⟨ret_bool (by rw [← HB.out]; have := H3.out; by_cases h4 : op = 4 <;> simp [this, h4]), (Below.refl _ _).alloc (Nat.le_refl _) _⟩
theorem all8_next {xs : List Int} {k : Nat} {x : Int} (h : (xs.take k).all (fun x => decide (x < 8)) = true) (hx : xs[k]? = some x) (hp : x < 8) : (xs.take (k + 1)).all (fun x => decide (x < 8)) = true := all_take_next h hx (decide_eq_true hp)
theorem ints_b (b : Nat) (xs : List Int) (r : Bool) (w : World) (hc : Hid (∀ j x, xs[j]? = some x → w.cell? ⟨b, j, none⟩ = some (.int .u8 x))) (hx : Hid (∀ x ∈ xs, 0 ≤ x ∧ x ≤ 255)) (hl : xs.length ≤ 3) (hr : Hid (xs.all (fun x => decide (x < 8)) = r)) :
    Calls Tryd.prog 78 #[.slice (some ⟨b, 0, none⟩) xs.length xs.length] w fun e w' => e = .returned (.bool r) ∧ w = w' := by
  go_enter Tryd.func78, Tryd.ntmps78
  go_wp2
  go_loop [7] (fun i => ∃ k : Nat, k ≤ xs.length ∧ i = .int .i64 k ∧ Hid ((xs.take k).all (fun x => decide (x < 8)) = true)) (fun i => xs.length - (intOf i).toNat)
  case atStart => exact ⟨0, Nat.zero_le _, rfl, Lib.hid rfl⟩
  case round =>
    obtain ⟨k, hk, rfl, hok⟩ := hrel
    by_cases hlt : k < xs.length
    · obtain ⟨x, hxk⟩ : ∃ x, xs[k]? = some x := ⟨_, List.getElem?_eq_getElem hlt⟩
      have hcell := hc.out k x hxk
      obtain ⟨x0, x1⟩ := hx.out x (List.mem_of_getElem? hxk)
      have HX := Lib.hid hxk
      clear hxk
      by_cases h8 : x < 8
      · go_wp2
        go_round
        case rel => exact ⟨k + 1, by omega, by go_num, Lib.hid (all8_next hok.out HX.out h8)⟩
        case measure => simp [intOf]; omega
      · go_wp2
        go_ret
        refine ⟨ret_bool ?_, rfl⟩
        rw [← hr.out]
        exact (all_not HX.out (decide_eq_false (by omega))).symm
    · go_wp2
      go_ret
      obtain rfl : k = xs.length := by omega
      exact ⟨ret_bool (by have := hok.out; rw [List.take_length] at this; rw [← hr.out, this]), rfl⟩
end Go.Proofs.YtmnoohpkjgjphaaDoor
