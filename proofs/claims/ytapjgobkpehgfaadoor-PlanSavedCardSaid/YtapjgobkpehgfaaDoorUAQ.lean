/-
  Which places each pointer local may be of, and which of them leak, in plain lists.
  What may be left out of a run, in plain words; what a run keeps of it.
  Contracts of check: pointsTo, alike, isPlace, jumps, areInts, Need, kindsMayBe.
-/
import Derived.Test.YtapjgobkpehgfaaDoorUAJ
import Derived.Test.YtapjgobkpehgfaaDoorUAD
import Derived.Test.YtapjgobkpehgfaaDoorUAM
import Derived.Test.YtapjgobkpehgfaaDoorUAG
import Derived.Test.YtapjgobkpehgfaaDoorUAP

/- Which places each pointer local may be of, and which of them leak, in plain lists. -/
namespace Go.Proofs.YtapjgobkpehgfaaDoor
set_option linter.unusedSimpArgs false
set_option linter.unusedVariables false

/-- What a pointer local may be of: the least there is. -/
inductive MayR (q : PProg) : Int → Nat → Prop
  | new {k : Nat} {i : PIns} : q.code[k]? = some i → i.op = 5 → MayR q i.a k
  | move {k : Nat} {i : PIns} : i ∈ q.code → i.op = 7 → MayR q i.b k → MayR q i.a k
/-- A place leaks. -/
def LeakR (q : PProg) (k : Nat) : Prop := ∃ i ∈ q.code, (i.op = 11 ∨ i.op = 13) ∧ MayR q i.b k
open Classical in
noncomputable def mayB (q : PProg) (a : Int) (k : Nat) : Bool := decide (MayR q a k)
open Classical in
noncomputable def leakB (q : PProg) (k : Nat) : Bool := decide (LeakR q k)
section
variable {q : PProg} {i : PIns} {k : Nat} {a : Int}
theorem mayB_iff : mayB q a k = true ↔ MayR q a k := by unfold mayB; simp
theorem leakB_iff : leakB q k = true ↔ LeakR q k := by unfold leakB; simp
theorem mayB_no : mayB q a k = false ↔ ¬ MayR q a k := by unfold mayB; simp
theorem leakB_no : leakB q k = false ↔ ¬ LeakR q k := by unfold leakB; simp
/-- It is of places of its own type. -/
theorem may_new (hc : (checkL q).2 = 0) (h : MayR q a k) : ∃ i, q.code[k]? = some i ∧ i.op = 5 ∧ localI q i.a = localI q a := by
  induction h with
  | new hi h5 => exact ⟨_, hi, h5, rfl⟩
  | @move k j hj h7 _ ih =>
    obtain ⟨i, h1, h2, h3⟩ := ih
    refine ⟨i, h1, h2, h3.trans ?_⟩
    obtain ⟨_, _, _, hall, _⟩ := check_ok hc
    have hk := (ins_parts (hall j hj)).2.2.2
    have hl : sameT (localI q j.a) (localI q j.b) = true := by unfold kindsB at hk; rw [h7] at hk; simpa using hk
    exact (same_parts hl).2.symm
theorem new_local (hc : (checkL q).2 = 0) (hm : i ∈ q.code) (h5 : i.op = 5) : 0 ≤ localI q i.a := by
  obtain ⟨_, _, _, hall, _⟩ := check_ok hc
  have hk := (ins_parts (hall i hm)).2.2.2
  unfold kindsB at hk; rw [h5] at hk; simpa using hk
theorem move_same (hc : (checkL q).2 = 0) (hm : i ∈ q.code) (h7 : i.op = 7) : 0 ≤ localI q i.a ∧ localI q i.a = localI q i.b := by
  obtain ⟨_, _, _, hall, _⟩ := check_ok hc
  have hk := (ins_parts (hall i hm)).2.2.2
  have hl : sameT (localI q i.a) (localI q i.b) = true := by unfold kindsB at hk; rw [h7] at hk; simpa using hk
  exact same_parts hl
/-- What leaks is the place of a New. -/
theorem leak_new (hc : (checkL q).2 = 0) (h : LeakR q k) : ∃ i, q.code[k]? = some i ∧ i.op = 5 := by
  obtain ⟨j, _, _, h1⟩ := h
  obtain ⟨i, h2, h3, _⟩ := may_new hc h1
  exact ⟨i, h2, h3⟩
end
end Go.Proofs.YtapjgobkpehgfaaDoor

/- What may be left out of a run, in plain words; what a run keeps of it. -/
namespace Go.Proofs.YtapjgobkpehgfaaDoor
set_option linter.unusedSimpArgs false
set_option linter.unusedVariables false

section
variable {q : PProg} {i : PIns} {k : Nat}
noncomputable def bestI (q : PProg) (k : Nat) (i : PIns) : PFact :=
  ⟨decide (i.op = 5) && !leakB q k && !loopL q k, decide (i.op = 5) && decide (0 ≤ lastL q k), decide (i.op = 11) && ((freshL q).getD k 0).testBit i.a.toNat⟩
noncomputable def bestK (q : PProg) (k : Nat) : PFact := match q.code[k]? with
  | some i => bestI q k i
  | none => noFact
noncomputable def bestL (q : PProg) : List PFact := (List.range q.code.length).map (bestK q)
theorem best_len : (bestL q).length = q.code.length := by unfold bestL; simp
end
end Go.Proofs.YtapjgobkpehgfaaDoor

/- Contracts of check: pointsTo, alike, isPlace, jumps, areInts, Need, kindsMayBe. -/
namespace Go.Proofs.YtapjgobkpehgfaaDoor
set_option linter.unusedSimpArgs false
set_option linter.unusedVariables false
open Go.RowKit

theorem toP_no {ts : List Bs} {t n : Int} (h : hasI ts t n = false) : toP ts t n = -1 := by
  unfold toP toI
  rw [if_neg]
  rintro ⟨h1, h2, h3⟩
  unfold hasI sizeP sizeI at h
  rw [if_pos h1, decide_eq_true h2, decide_eq_true h3] at h
  cases h
theorem ptsTo_n (v : Value) (p : PProg) (t n z : Int) (w : World) (h : ProgAt w v p) (hs : OkP p) (hz : toP p.types t n = z) : Calls Tryd.prog 66 #[v, .int .i64 t, .int .i64 n] w (AggPost w (.int .i64 z)) := by
  obtain ⟨vt, vc, rfl, ht, hc⟩ := id h
  have hwb : Below w.heap.size w (w.alloc (.cells (progC vt p vc) 32)) := (Below.refl _ _).alloc (Nat.le_refl _) _
  have HK := Lib.hid (keep_new h)
  have HSZ : (w.alloc (.cells (progC vt p vc) 32)).heap.size = w.heap.size + 1 := World.size_alloc _ _
  have HTS := Lib.hid hs
  obtain ⟨x, c, rfl, -, -, -⟩ := id ht.elems
  obtain ⟨x', c', rfl, -, -, -⟩ := id hc
  rcases hh : hasI p.types t n with _ | _
  · have HH := Lib.hid (fun w1 (hb1 : Below (w.alloc (.cells (progC (.slice x p.types.length c) p (.slice x' p.code.length c')) 32)).heap.size _ w1) => hasF_b _ p t n false w1 (HK.out.at'.below hb1) hs hh)
    have he : z = -1 := by rw [← hz]; exact toP_no hh
    subst he
    have HW := Lib.hid hwb
    have HZ := Lib.hid HSZ
    clear h ht hc hs hwb hh HSZ hz
    go_enter Tryd.func66, Tryd.ntmps66
    go_wp2_with (first
      | (refine wpList_loadB rfl 32 _ rfl w.heap.size (progC (.slice x p.types.length c) p (.slice x' p.code.length c')) rfl 32 HK.out.blk _ Tryd.underlying32 rfl prog_info ?_)
      | (go_at_call 72; refine (HH.out _ (Below.refl _ _)).mono ?_; rintro e w' ⟨rfl, hb1⟩))
    go_ret
    exact ⟨rfl, HW.out.trans (hb1.mono (by rw [HZ.out]; omega))⟩
  · have HH := Lib.hid (fun w1 (hb1 : Below (w.alloc (.cells (progC (.slice x p.types.length c) p (.slice x' p.code.length c')) 32)).heap.size _ w1) => hasF_b _ p t n true w1 (HK.out.at'.below hb1) hs hh)
    have HI : Hid (toI (tsP p.types) t n = z) := Lib.hid hz
    have hn : 0 ≤ n ∧ n ≤ 6 := by
      unfold hasI at hh
      simp only [Bool.and_eq_true, decide_eq_true_eq] at hh
      have : sizeP p.types t ≤ 6 := sizeI_le.2
      omega
    have HW := Lib.hid hwb
    have HZ := Lib.hid HSZ
    clear h ht hc hs hwb hh HSZ hz
    go_enter Tryd.func66, Tryd.ntmps66
    go_wp2_with (first
      | (refine wpList_loadB rfl 32 _ rfl w.heap.size (progC (.slice x p.types.length c) p (.slice x' p.code.length c')) rfl 32 HK.out.blk _ Tryd.underlying32 rfl prog_info ?_)
      | (go_at_call 72; refine (HH.out _ (Below.refl _ _)).mono ?_; rintro e w' ⟨rfl, hb1⟩; have HB1 := Lib.hid hb1; clear hb1; have HKN := Lib.hid (HK.out.below HB1.out); obtain ⟨c0, -, -, -⟩ := HKN.out.cells; have HT1 := Lib.hid (HKN.out.ts HTS.out))
      | (go_at_call 73; refine (kto_n _ (tsP p.types) t n z _ HT1.out HI).mono ?_; rintro e w' ⟨rfl, rfl⟩))
    go_ret
    exact ⟨rfl, HW.out.trans (HB1.out.mono (by rw [HZ.out]; omega))⟩

theorem alike_b (s t : Int) (b : Bool) (w : World) (h1 : -1 ≤ s) (hb : sameT s t = b) : Calls Tryd.prog 64 #[.int .i64 s, .int .i64 t] w fun e w' => e = .returned (.bool b) ∧ w = w' := by
  unfold sameT at hb
  have HB := Lib.hid hb
  clear hb
  by_cases h : s = t
  · have e1 : (s == t) = true := by simp [h]
    have HS := Lib.hid h
    clear h
    by_cases h2 : s = -1
    · have e2 : (s != -1) = false := by simp [h2]
      have HS2 := Lib.hid h2
      clear h2
      go_enter Tryd.func64, Tryd.ntmps64
      go_wp2
      go_ret
      exact ⟨ret_bool (by rw [← HB.out, HS2.out]; rfl), rfl⟩
    · have e2 : (s != -1) = true := by simp [h2]
      have HS2 := Lib.hid h2
      clear h2
      go_enter Tryd.func64, Tryd.ntmps64
      go_wp2
      go_ret
      exact ⟨ret_bool (by rw [← HB.out]; have := HS.out; have := HS2.out; simp; omega), rfl⟩
  · have e1 : (s == t) = false := by simp [h]
    have HS := Lib.hid h
    clear h
    go_enter Tryd.func64, Tryd.ntmps64
    go_wp2
    go_ret
    exact ⟨ret_bool (by rw [← HB.out]; have := HS.out; simp; omega), rfl⟩
theorem place_b (v : Value) (p : PProg) (n : Int) (b : Bool) (w : World) (h : ProgAt w v p) (hb : (decide (0 ≤ n) && decide (n ≤ p.code.length)) = b) : Calls Tryd.prog 46 #[v, .int .i64 n] w (AggPost w (.bool b)) := by
  obtain ⟨vt, vc, rfl, ht, hc⟩ := h
  have hwb : Below w.heap.size w (w.alloc (.cells (progC vt p vc) 32)) := (Below.refl _ _).alloc (Nat.le_refl _) _
  have HW := Lib.hid hwb
  obtain ⟨x, c, rfl, -, -, -⟩ := id ht.elems
  obtain ⟨x', c', rfl, g1, g2, -⟩ := id hc
  have HB := Lib.hid hb
  unfold maxLen at g2
  clear ht hc hwb hb
  by_cases h0 : 0 ≤ n
  · by_cases h1 : n ≤ p.code.length
    all_goals
      go_enter Tryd.func46, Tryd.ntmps46
      go_wp2
      go_ret
      exact ⟨ret_bool (by rw [← HB.out]; simp; omega), HW.out⟩
  · go_enter Tryd.func46, Tryd.ntmps46
    go_wp2
    go_ret
    exact ⟨ret_bool (by rw [← HB.out]; simp; omega), HW.out⟩
theorem jumps_b (i : PIns) (b : Bool) (w : World) (hb : jumpI i = b) : Calls Tryd.prog 45 #[insV i] w (AggPost w (.bool b)) := by
  unfold jumpI at hb
  have HB := Lib.hid hb
  obtain ⟨op, a, bb, c, n⟩ := i
  simp only at *
  clear hb
  by_cases h3 : op = 3
  · have e1 : (op == 3) = true := by simp [h3]
    have H3 := Lib.hid h3
    clear h3
    go_enter Tryd.func45, Tryd.ntmps45
    go_wp2
    go_ret
    exact ⟨ret_bool (by rw [← HB.out, H3.out]; rfl), (Below.refl _ _).alloc (Nat.le_refl _) _⟩
  · have e1 : (op == 3) = false := by simp [h3]
    have H3 := Lib.hid h3
    clear h3
    go_enter Tryd.func45, Tryd.ntmps45
    go_wp2
    go_ret
    exact ⟨ret_bool (by rw [← HB.out]; have := H3.out; by_cases h4 : op = 4 <;> simp [this, h4]), (Below.refl _ _).alloc (Nat.le_refl _) _⟩
theorem all8_next {xs : List Int} {k : Nat} {x : Int} (h : (xs.take k).all (fun x => decide (x < 8)) = true) (hx : xs[k]? = some x) (hp : x < 8) : (xs.take (k + 1)).all (fun x => decide (x < 8)) = true := all_take_next h hx (decide_eq_true hp)
theorem ints_b (b : Nat) (xs : List Int) (r : Bool) (w : World) (hc : Hid (∀ j x, xs[j]? = some x → w.cell? ⟨b, j, none⟩ = some (.int .u8 x))) (hx : Hid (∀ x ∈ xs, 0 ≤ x ∧ x ≤ 255)) (hl : xs.length ≤ 3) (hr : Hid (xs.all (fun x => decide (x < 8)) = r)) :
    Calls Tryd.prog 63 #[.slice (some ⟨b, 0, none⟩) xs.length xs.length] w fun e w' => e = .returned (.bool r) ∧ w = w' := by
  go_enter Tryd.func63, Tryd.ntmps63
  go_wp2
  go_loop [7] (fun i => ∃ k : Nat, k ≤ xs.length ∧ i = .int .i64 k ∧ Hid ((xs.take k).all (fun x => decide (x < 8)) = true)) (fun i => xs.length - (intOf i).toNat)
  case atStart => exact ⟨0, Nat.zero_le _, rfl, Lib.hid rfl⟩
  case round =>
    obtain ⟨k, hk, rfl, hok⟩ := hrel
    by_cases hlt : k < xs.length
    · obtain ⟨x, hxk⟩ : ∃ x, xs[k]? = some x := ⟨_, List.getElem?_eq_getElem hlt⟩
      have hcell := hc.out k x hxk
      obtain ⟨x0, x1⟩ := hx.out x (List.mem_of_getElem? hxk)
      have HX := Lib.hid hxk
      clear hxk
      by_cases h8 : x < 8
      · go_wp2
        go_round
        case rel => exact ⟨k + 1, by omega, by go_num, Lib.hid (all8_next hok.out HX.out h8)⟩
        case measure => simp [intOf]; omega
      · go_wp2
        go_ret
        refine ⟨ret_bool ?_, rfl⟩
        rw [← hr.out]
        exact (all_not HX.out (decide_eq_false (by omega))).symm
    · go_wp2
      go_ret
      obtain rfl : k = xs.length := by omega
      exact ⟨ret_bool (by have := hok.out; rw [List.take_length] at this; rw [← hr.out, this]), rfl⟩
end Go.Proofs.YtapjgobkpehgfaaDoor
