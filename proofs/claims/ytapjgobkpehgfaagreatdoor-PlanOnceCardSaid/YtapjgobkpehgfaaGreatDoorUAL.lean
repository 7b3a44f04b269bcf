/-
  Contracts of check: hasField, isNumber, pointsTo, alike, isPlace, jumps, areInts.
  Which objects are written whole, in plain lists: the document's Last; what lies between an object's making and its last write.
  Which places each pointer local may be of, and which of them leak, in plain lists.
  What may be left out of a run, in plain words; what a run keeps of it.
  Contracts of check: pointsTo, alike, isPlace, jumps, areInts, Need, kindsMayBe.
-/
import Derived.Test.YtapjgobkpehgfaaGreatDoorUAK
import Derived.Test.YtapjgobkpehgfaaGreatDoorUAG
import Derived.Test.YtapjgobkpehgfaaGreatDoorUAH
import Derived.Test.YtapjgobkpehgfaaGreatDoorUAD
import Derived.Test.YtapjgobkpehgfaaGreatDoorUAJ
import Derived.Test.YtapjgobkpehgfaaGreatDoorUAE

/- Contracts of check: hasField, isNumber, pointsTo, alike, isPlace, jumps, areInts. -/
namespace Go.Proofs.YtapjgobkpehgfaaGreatDoor
set_option linter.unusedSimpArgs false
set_option linter.unusedVariables false
open Go.RowKit

theorem ksize_n (v : Value) (ts : List ByteArray) (t z : Int) (w : World) (h : TsAt w v ts) (hz : Hid (sizeI ts t = z)) : Calls Tryz.prog 94 #[v, .int .i64 t] w fun e w' => e = .returned (.int .i64 z) ∧ w = w' :=
  (ksize_any v ts t w h).mono fun e w' ⟨h1, h2⟩ => ⟨by rw [h1, hz.out], h2⟩
theorem kto_n (v : Value) (ts : List ByteArray) (t f z : Int) (w : World) (h : TsAt w v ts) (hz : Hid (toI ts t f = z)) : Calls Tryz.prog 117 #[v, .int .i64 t, .int .i64 f] w fun e w' => e = .returned (.int .i64 z) ∧ w = w' :=
  (kto_any v ts t f w h).mono fun e w' ⟨h1, h2⟩ => ⟨by rw [h1, hz.out], h2⟩
theorem sizeI_le {ts : List ByteArray} {t : Int} : 0 ≤ sizeI ts t ∧ sizeI ts t ≤ 6 := by
  unfold sizeI
  split
  · next h =>
    obtain ⟨h0, h1, h2⟩ := one_iff.1 h
    have := right_ty h2 (n := t.toNat) (by omega)
    omega
  · omega
theorem toI_le {ts : List ByteArray} {t f : Int} : -1 ≤ toI ts t f ∧ toI ts t f ≤ 207 := by
  unfold toI
  split
  · next h =>
    obtain ⟨h0, h1, h2⟩ := one_iff.1 h.1
    have hb := byt_lt (ty ts t.toNat) f.toNat
    rcases right_let h2 (n := t.toNat) (k := f.toNat) (by omega) (by omega) with e | e
    · rw [e, ptr_i]; omega
    · have := dig_iff.1 e
      by_cases h3 : byt (ty ts t.toNat) f.toNat = 105
      · rw [h3, ptr_i]; omega
      · rw [ptr_d h3]; omega
  · omega
/-- Is there such a field? -/
def hasI (ts : List Bs) (t n : Int) : Bool := decide (0 ≤ n) && decide (n < sizeP ts t)
theorem hasF_b (v : Value) (p : PProg) (t n : Int) (b : Bool) (w : World) (h : ProgAt w v p) (hs : OkP p) (hb : hasI p.types t n = b) : Calls Tryz.prog 116 #[v, .int .i64 t, .int .i64 n] w (AggPost w (.bool b)) := by
  obtain ⟨vt, vc, rfl, ht, hc⟩ := h
  have hwb : Below w.heap.size w (w.alloc (.cells (progC vt p vc) 25)) := (Below.refl _ _).alloc (Nat.le_refl _) _
  have HT := Lib.hid (ts_of (ht.below hwb) hs.ty)
  have HW := Lib.hid hwb
  obtain ⟨x, c, rfl, -, -, -⟩ := id ht.elems
  obtain ⟨x', c', rfl, -, -, -⟩ := id hc
  obtain ⟨z0, z1⟩ := sizeI_le (ts := tsP p.types) (t := t)
  have hz : sizeP p.types t = sizeI (tsP p.types) t := rfl
  unfold hasI at hb
  rw [hz] at hb
  generalize hzz : sizeI (tsP p.types) t = z at *
  have HZ := Lib.hid hzz
  have HB := Lib.hid hb
  clear ht hc hs hwb hz hb hzz
  by_cases h0 : 0 ≤ n
  · by_cases h1 : n < z
    all_goals
      go_enter Tryz.func116, Tryz.ntmps116
      go_wp2_with (go_at_call 94; refine (ksize_n _ (tsP p.types) t z _ HT.out HZ).mono ?_; rintro e w' ⟨rfl, rfl⟩)
      go_ret
      exact ⟨ret_bool (by rw [← HB.out]; simp; omega), HW.out⟩
  · go_enter Tryz.func116, Tryz.ntmps116
    go_wp2
    go_ret
    exact ⟨ret_bool (by rw [← HB.out]; simp; omega), HW.out⟩
/-- A program in a block of its own. -/
structure Keep (W : World) (b : Nat) (vt vc : Value) (p : PProg) : Prop where
  blk : blk W b (progC vt p vc) 25
  at' : ProgAt W (.agg (progC vt p vc)) p
theorem Keep.below {W w' : World} {b : Nat} {vt vc : Value} {p : PProg} (h : Keep W b vt vc p) (hb : Below W.heap.size W w') : Keep w' b vt vc p := ⟨blk_below h.blk hb, h.at'.below hb⟩
theorem Keep.cells {W : World} {b : Nat} {vt vc : Value} {p : PProg} (h : Keep W b vt vc p) : W.cell? ⟨b, 0, none⟩ = some vt ∧ W.cell? ⟨b, 1, none⟩ = some (str p.locals) ∧ W.cell? ⟨b, 2, none⟩ = some (str p.globs) ∧ W.cell? ⟨b, 3, none⟩ = some vc :=
  ⟨blk_cell h.blk 0 _ rfl, blk_cell h.blk 1 _ rfl, blk_cell h.blk 2 _ rfl, blk_cell h.blk 3 _ rfl⟩
theorem Keep.ts {W : World} {b : Nat} {vt vc : Value} {p : PProg} (h : Keep W b vt vc p) (hs : OkP p) : TsAt W vt (tsP p.types) := by
  obtain ⟨vt', vc', e, ht, _⟩ := h.at'
  simp only [progC, Value.agg.injEq, Array.mk.injEq, List.cons.injEq] at e
  rw [e.1]; exact ts_of ht hs.ty
theorem keep_new {w : World} {vt vc : Value} {p : PProg} (h : ProgAt w (.agg (progC vt p vc)) p) : Keep (w.alloc (.cells (progC vt p vc) 25)) w.heap.size vt vc p :=
  ⟨blk_new _ _ _, h.below ((Below.refl _ _).alloc (Nat.le_refl _) _)⟩
theorem numF_b (v : Value) (p : PProg) (t n : Int) (b : Bool) (w : World) (h : ProgAt w v p) (hs : OkP p) (hb : numF p.types t n = b) : Calls Tryz.prog 105 #[v, .int .i64 t, .int .i64 n] w (AggPost w (.bool b)) := by
  obtain ⟨vt, vc, rfl, ht, hc⟩ := id h
  have hwb : Below w.heap.size w (w.alloc (.cells (progC vt p vc) 25)) := (Below.refl _ _).alloc (Nat.le_refl _) _
  have HK := Lib.hid (keep_new h)
  have HSZ : (w.alloc (.cells (progC vt p vc) 25)).heap.size = w.heap.size + 1 := World.size_alloc _ _
  have HTS := Lib.hid hs
  obtain ⟨x, c, rfl, -, -, -⟩ := id ht.elems
  obtain ⟨x', c', rfl, -, -, -⟩ := id hc
  obtain ⟨z0, z1⟩ := toI_le (ts := tsP p.types) (t := t) (f := n)
  have hnum : numF p.types t n = (hasI p.types t n && decide (toI (tsP p.types) t n < 0)) := rfl
  rw [hnum] at hb
  rcases hh : hasI p.types t n with _ | _
  · have HH := Lib.hid (fun w1 (hb1 : Below (w.alloc (.cells (progC (.slice x p.types.length c) p (.slice x' p.code.length c')) 25)).heap.size _ w1) => hasF_b _ p t n false w1 (HK.out.at'.below hb1) hs hh)
    rw [hh] at hb
    have HB := Lib.hid hb
    have HW := Lib.hid hwb
    have HZ := Lib.hid HSZ
    clear h ht hc hs hb hwb hh hnum HSZ
    go_enter Tryz.func105, Tryz.ntmps105
    go_wp2_with (first
      | (refine wpList_loadB rfl 25 _ rfl w.heap.size (progC (.slice x p.types.length c) p (.slice x' p.code.length c')) rfl 25 HK.out.blk _ Tryz.underlying25 rfl prog_info ?_)
      | (go_at_call 116; refine (HH.out _ (Below.refl _ _)).mono ?_; rintro e w' ⟨rfl, hb1⟩))
    go_ret
    exact ⟨ret_bool (by rw [← HB.out]; rfl), HW.out.trans (hb1.mono (by rw [HZ.out]; omega))⟩
  · have HH := Lib.hid (fun w1 (hb1 : Below (w.alloc (.cells (progC (.slice x p.types.length c) p (.slice x' p.code.length c')) 25)).heap.size _ w1) => hasF_b _ p t n true w1 (HK.out.at'.below hb1) hs hh)
    rw [hh] at hb
    generalize hzz : toI (tsP p.types) t n = z at *
    have HI := Lib.hid hzz
    have hn : 0 ≤ n ∧ n ≤ 6 := by
      unfold hasI at hh
      simp only [Bool.and_eq_true, decide_eq_true_eq] at hh
      have : sizeP p.types t ≤ 6 := sizeI_le.2
      omega
    have HB := Lib.hid hb
    have HW := Lib.hid hwb
    have HZ := Lib.hid HSZ
    clear h ht hc hs hb hwb hh hnum hzz HSZ
    by_cases hz : z = -1
    · have e1 : (z == -1) = true := by simp [hz]
      have HZ1 := Lib.hid hz
      clear hz
      go_enter Tryz.func105, Tryz.ntmps105
      go_wp2_with (first
        | (refine wpList_loadB rfl 25 _ rfl w.heap.size (progC (.slice x p.types.length c) p (.slice x' p.code.length c')) rfl 25 HK.out.blk _ Tryz.underlying25 rfl prog_info ?_)
        | (go_at_call 116; refine (HH.out _ (Below.refl _ _)).mono ?_; rintro e w' ⟨rfl, hb1⟩; have HB1 := Lib.hid hb1; clear hb1; have HKN := Lib.hid (HK.out.below HB1.out); obtain ⟨c0, -, -, -⟩ := HKN.out.cells; have HT1 := Lib.hid (HKN.out.ts HTS.out))
        | (go_at_call 117; refine (kto_n _ (tsP p.types) t n z _ HT1.out HI).mono ?_; rintro e w' ⟨rfl, rfl⟩))
      go_ret
      exact ⟨ret_bool (by rw [← HB.out, HZ1.out]; rfl), HW.out.trans (HB1.out.mono (by rw [HZ.out]; omega))⟩
    · have e1 : (z == -1) = false := by simp [hz]
      have HZ1 := Lib.hid hz
      clear hz
      go_enter Tryz.func105, Tryz.ntmps105
      go_wp2_with (first
        | (refine wpList_loadB rfl 25 _ rfl w.heap.size (progC (.slice x p.types.length c) p (.slice x' p.code.length c')) rfl 25 HK.out.blk _ Tryz.underlying25 rfl prog_info ?_)
        | (go_at_call 116; refine (HH.out _ (Below.refl _ _)).mono ?_; rintro e w' ⟨rfl, hb1⟩; have HB1 := Lib.hid hb1; clear hb1; have HKN := Lib.hid (HK.out.below HB1.out); obtain ⟨c0, -, -, -⟩ := HKN.out.cells; have HT1 := Lib.hid (HKN.out.ts HTS.out))
        | (go_at_call 117; refine (kto_n _ (tsP p.types) t n z _ HT1.out HI).mono ?_; rintro e w' ⟨rfl, rfl⟩))
      go_ret
      exact ⟨ret_bool (by rw [← HB.out]; have := HZ1.out; simp; omega), HW.out.trans (HB1.out.mono (by rw [HZ.out]; omega))⟩
end Go.Proofs.YtapjgobkpehgfaaGreatDoor

/- Which objects are written whole, in plain lists: the document's Last; what lies between an object's making and its last write. -/
namespace Go.Proofs.YtapjgobkpehgfaaGreatDoor
set_option linter.unusedSimpArgs false
set_option linter.unusedVariables false

/-- Neither reads a field, nor makes, nor changes p[a]. -/
def passI (i : PIns) (a : Int) : Bool := decide (i.op = 1 ∨ i.op = 2 ∨ i.op = 14 ∨ i.op = 15) || (decide (i.op = 6 ∨ i.op = 7) && decide (i.a ≠ a))
def putsI (i : PIns) (a : Int) : Bool := decide (i.op = 9 ∨ i.op = 11) && decide (i.a = a)
def goF (a : Int) : Int → List Bool → List PIns → Nat → Int
  | _, _, [], _ => -1
  | left, had, i :: r, k =>
    if putsI i a = true then
      (if (if had.getD i.n.toNat false = true then left else left - 1) = 0 then (k : Int) else goF a (if had.getD i.n.toNat false = true then left else left - 1) (had.set i.n.toNat true) r (k + 1))
    else if passI i a = true then goF a left had r (k + 1) else -1
def nought6 : List Bool := List.replicate 6 false
section
variable {q : PProg}
def lastL (q : PProg) (k : Nat) : Int := match q.code[k]? with
  | some i => if i.op = 5 then goF i.a (sizeP q.types (localI q i.a)) nought6 (q.code.drop (k + 1)) (k + 1) else -1
  | none => -1
def lastV (q : PProg) (k : Int) : Int := if k < 0 ∨ (q.code.length : Int) ≤ k then -1 else lastL q k.toNat
theorem lastV_none {k : Int} (h : k < 0 ∨ (q.code.length : Int) ≤ k) : lastV q k = -1 := by unfold lastV; rw [if_pos h]
theorem lastV_nat {k : Nat} (h : k < q.code.length) : lastV q (k : Int) = lastL q k := by unfold lastV; rw [if_neg (by omega), Int.toNat_natCast]
theorem lastL_at {k : Nat} {i : PIns} (hi : q.code[k]? = some i) (h5 : i.op = 5) : lastL q k = goF i.a (sizeP q.types (localI q i.a)) nought6 (q.code.drop (k + 1)) (k + 1) := by
  unfold lastL; rw [hi]; simp only; rw [if_pos h5]
theorem lastL_no {k : Nat} {i : PIns} (hi : q.code[k]? = some i) (h5 : i.op ≠ 5) : lastL q k = -1 := by
  unfold lastL; rw [hi]; simp only; rw [if_neg h5]
theorem puts_iff {i : PIns} {a : Int} : putsI i a = true ↔ (i.op = 9 ∨ i.op = 11) ∧ i.a = a := by unfold putsI; simp
theorem cnt_set {had : List Bool} {n : Nat} (h : n < had.length) : cnt (had.set n true) = cnt had + if had.getD n false = true then 0 else 1 := by
  induction had generalizing n with
  | nil => simp at h
  | cons b l ih =>
    cases n with
    | zero =>
      show (true :: l).countP id = (b :: l).countP id + _
      cases b <;> simp
    | succ n =>
      have := ih (n := n) (by simpa using h)
      show (b :: l.set n true).countP id = (b :: l).countP id + _
      unfold cnt at this
      cases b
      · simpa using this
      · simp only [List.countP_cons, id]
        have e : (true :: l).getD (n + 1) false = l.getD n false := rfl
        rw [e]
        simp only [if_true]
        omega
theorem goF_or (a : Int) : ∀ (r : List PIns) (left : Int) (had : List Bool) (k : Nat), goF a left had r k = -1 ∨ ∃ n : Nat, goF a left had r k = (n : Int) ∧ k ≤ n ∧ n < k + r.length
  | [], _, _, _ => .inl rfl
  | i :: r, left, had, k => by
    unfold goF
    by_cases hp : putsI i a = true
    · rw [if_pos hp]
      by_cases h0 : (if had.getD i.n.toNat false = true then left else left - 1) = 0
      · rw [if_pos h0]; exact .inr ⟨k, rfl, Nat.le_refl _, by simp⟩
      · rw [if_neg h0]
        rcases goF_or a r (if had.getD i.n.toNat false = true then left else left - 1) (had.set i.n.toNat true) (k + 1) with h | ⟨n, h, h1, h2⟩
        · exact .inl h
        · exact .inr ⟨n, h, by omega, by simp; omega⟩
    · rw [if_neg hp]
      by_cases hq : passI i a = true
      · rw [if_pos hq]
        rcases goF_or a r left had (k + 1) with h | ⟨n, h, h1, h2⟩
        · exact .inl h
        · exact .inr ⟨n, h, by omega, by simp; omega⟩
      · rw [if_neg hq]; exact .inl rfl
theorem lastL_or (k : Nat) : lastL q k = -1 ∨ ∃ n : Nat, lastL q k = (n : Int) ∧ k < n ∧ n < q.code.length := by
  rcases hi : q.code[k]? with _ | i
  · unfold lastL; rw [hi]; exact .inl rfl
  · have hk := (List.getElem?_eq_some_iff.1 hi).1
    by_cases h5 : i.op = 5
    · rw [lastL_at hi h5]
      rcases goF_or i.a (q.code.drop (k + 1)) (sizeP q.types (localI q i.a)) nought6 (k + 1) with h | ⟨n, h, h1, h2⟩
      · exact .inl h
      · rw [List.length_drop] at h2
        exact .inr ⟨n, h, by omega, by omega⟩
    · exact .inl (lastL_no hi h5)
/-- A store's field is one of six, in a program that may be run. -/
theorem puts_six (hc : (checkL q).2 = 0) (hok : ∀ i ∈ q.code, OkI i) {i : PIns} (hm : i ∈ q.code) {a : Int} (hp : putsI i a = true) : 0 ≤ i.n ∧ i.n < sizeP q.types (localI q a) ∧ sizeP q.types (localI q a) ≤ 6 := by
  obtain ⟨hh, _, _, hall, _⟩ := check_ok hc
  obtain ⟨hrt, hju, hin, hki⟩ := ins_parts (hall i hm)
  obtain ⟨o0, o1, a0, a1, b0, b1, c0, c1, n0, n1⟩ := hok i hm
  obtain ⟨ho, rfl⟩ := puts_iff.1 hp
  have h6 : sizeP q.types (localI q i.a) ≤ 6 := size_le6
  rcases ho with h9 | h11
  · have hl : 0 ≤ localI q i.a ∧ numF q.types (localI q i.a) i.n = true := by unfold kindsB at hki; simpa [h9] using hki
    have := num_parts hl.2
    exact ⟨by omega, by omega, h6⟩
  · have hl : 0 ≤ localI q i.a ∧ sameT (localI q i.b) (toP q.types (localI q i.a) i.n) = true := by unfold kindsB at hki; simpa [h11] using hki
    obtain ⟨m1, m2⟩ := same_parts hl.2
    have := toP_has (ts := q.types) (t := localI q i.a) (n := i.n) (by omega)
    exact ⟨by omega, by omega, h6⟩
where
  size_le6 {ts : List Bs} {t : Int} : sizeP ts t ≤ 6 := by
    exact (sizeI_le (ts := tsP ts) (t := t)).2
end
end Go.Proofs.YtapjgobkpehgfaaGreatDoor

/- Which places each pointer local may be of, and which of them leak, in plain lists. -/
namespace Go.Proofs.YtapjgobkpehgfaaGreatDoor
set_option linter.unusedSimpArgs false
set_option linter.unusedVariables false

/-- What a pointer local may be of: the least there is. -/
inductive MayR (q : PProg) : Int → Nat → Prop
  | new {k : Nat} {i : PIns} : q.code[k]? = some i → i.op = 5 → MayR q i.a k
  | move {k : Nat} {i : PIns} : i ∈ q.code → i.op = 7 → MayR q i.b k → MayR q i.a k
/-- A place leaks. -/
def LeakR (q : PProg) (k : Nat) : Prop := ∃ i ∈ q.code, (i.op = 11 ∨ i.op = 13) ∧ MayR q i.b k
open Classical in
noncomputable def mayB (q : PProg) (a : Int) (k : Nat) : Bool := decide (MayR q a k)
open Classical in
noncomputable def leakB (q : PProg) (k : Nat) : Bool := decide (LeakR q k)
section
variable {q : PProg} {i : PIns} {k : Nat} {a : Int}
theorem mayB_iff : mayB q a k = true ↔ MayR q a k := by unfold mayB; simp
theorem leakB_iff : leakB q k = true ↔ LeakR q k := by unfold leakB; simp
theorem mayB_no : mayB q a k = false ↔ ¬ MayR q a k := by unfold mayB; simp
theorem leakB_no : leakB q k = false ↔ ¬ LeakR q k := by unfold leakB; simp
/-- It is of places of its own type. -/
theorem may_new (hc : (checkL q).2 = 0) (h : MayR q a k) : ∃ i, q.code[k]? = some i ∧ i.op = 5 ∧ localI q i.a = localI q a := by
  induction h with
  | new hi h5 => exact ⟨_, hi, h5, rfl⟩
  | @move k j hj h7 _ ih =>
    obtain ⟨i, h1, h2, h3⟩ := ih
    refine ⟨i, h1, h2, h3.trans ?_⟩
    obtain ⟨_, _, _, hall, _⟩ := check_ok hc
    have hk := (ins_parts (hall j hj)).2.2.2
    have hl : sameT (localI q j.a) (localI q j.b) = true := by unfold kindsB at hk; rw [h7] at hk; simpa using hk
    exact (same_parts hl).2.symm
theorem new_local (hc : (checkL q).2 = 0) (hm : i ∈ q.code) (h5 : i.op = 5) : 0 ≤ localI q i.a := by
  obtain ⟨_, _, _, hall, _⟩ := check_ok hc
  have hk := (ins_parts (hall i hm)).2.2.2
  unfold kindsB at hk; rw [h5] at hk; simpa using hk
theorem move_same (hc : (checkL q).2 = 0) (hm : i ∈ q.code) (h7 : i.op = 7) : 0 ≤ localI q i.a ∧ localI q i.a = localI q i.b := by
  obtain ⟨_, _, _, hall, _⟩ := check_ok hc
  have hk := (ins_parts (hall i hm)).2.2.2
  have hl : sameT (localI q i.a) (localI q i.b) = true := by unfold kindsB at hk; rw [h7] at hk; simpa using hk
  exact same_parts hl
/-- What leaks is the place of a New. -/
theorem leak_new (hc : (checkL q).2 = 0) (h : LeakR q k) : ∃ i, q.code[k]? = some i ∧ i.op = 5 := by
  obtain ⟨j, _, _, h1⟩ := h
  obtain ⟨i, h2, h3, _⟩ := may_new hc h1
  exact ⟨i, h2, h3⟩
end
end Go.Proofs.YtapjgobkpehgfaaGreatDoor

/- What may be left out of a run, in plain words; what a run keeps of it. -/
namespace Go.Proofs.YtapjgobkpehgfaaGreatDoor
set_option linter.unusedSimpArgs false
set_option linter.unusedVariables false

section
variable {q : PProg} {i : PIns} {k : Nat}
noncomputable def bestI (q : PProg) (k : Nat) (i : PIns) : PFact :=
  ⟨decide (i.op = 5) && !leakB q k && !loopL q k, decide (i.op = 5) && decide (0 ≤ lastL q k), decide (i.op = 11) && ((freshL q).getD k 0).testBit i.a.toNat⟩
noncomputable def bestK (q : PProg) (k : Nat) : PFact := match q.code[k]? with
  | some i => bestI q k i
  | none => noFact
noncomputable def bestL (q : PProg) : List PFact := (List.range q.code.length).map (bestK q)
theorem best_len : (bestL q).length = q.code.length := by unfold bestL; simp
theorem best_get (hi : q.code[k]? = some i) : (bestL q)[k]? = some (bestI q k i) := by
  have hk := (List.getElem?_eq_some_iff.1 hi).1
  unfold bestL
  rw [List.getElem?_map, List.getElem?_range hk]
  simp only [Option.map_some, Option.some.injEq]
  unfold bestK; rw [hi]
theorem best_st (h : (bestI q k i).st = true) : i.op = 5 ∧ ¬ LeakR q k ∧ loopL q k = false := by
  unfold bestI at h
  simp only [Bool.and_eq_true, decide_eq_true_eq, Bool.not_eq_true', leakB_no] at h
  exact ⟨h.1.1, h.1.2, h.2⟩
theorem best_ra (h : (bestI q k i).ra = true) : i.op = 5 ∧ 0 ≤ lastL q k := by
  unfold bestI at h
  simp only [Bool.and_eq_true, decide_eq_true_eq] at h
  exact h
theorem best_pl (h : (bestI q k i).pl = true) : i.op = 11 ∧ ((freshL q).getD k 0).testBit i.a.toNat = true := by
  unfold bestI at h
  simp only [Bool.and_eq_true, decide_eq_true_eq] at h
  exact h
/-- P12.1, P9.3: where a store has no barrier its object is new. -/
theorem plain_run {s : PSt} (hc : (checkL q).2 = 0) (hok : ∀ i ∈ q.code, OkI i) {old : Nat} (h : FrI q s old) (hi : q.code[s.pc]? = some i) (hp : (bestI q s.pc i).pl = true) : i.op = 11 ∧ (s.p.getD i.a.toNat 0 = 0 ∨ (old : Int) < s.p.getD i.a.toNat 0) := by
  obtain ⟨h11, hb⟩ := best_pl hp
  have hm := List.mem_of_getElem? hi
  obtain ⟨hh, _, _, hall, _⟩ := check_ok hc
  obtain ⟨_, _, _, hk⟩ := ins_parts (hall i hm)
  obtain ⟨o0, o1, a0, a1, b0, b1, c0, c1, n0, n1⟩ := hok i hm
  have hl : 0 ≤ localI q i.a ∧ sameT (localI q i.b) (toP q.types (localI q i.a) i.n) = true := by unfold kindsB at hk; rw [h11] at hk; simpa using hk
  have hlt := (local_lt hh a0 hl.1).1
  exact ⟨h11, h.fr i.a.toNat (by omega) hb⟩
/-- What was made once out of the heap: the run has gone on from there. -/
structure OnI (q : PProg) (s : PSt) (seen : Nat → Bool) : Prop where
  way : ∀ k, seen k = true → Way q k s.pc
theorem on_0 : OnI q st0 (fun _ => false) := ⟨fun k h => by cases h⟩
theorem on_next {s t : PSt} (hin : InP q) {seen : Nat → Bool} (h : OnI q s seen) (hi : q.code[s.pc]? = some i) (hd : doI q (onI s) i = some t) (b : Bool) : OnI q t (fun k => if k = s.pc then (b || seen k) else seen k) := by
  have hn := step_nextV hin hi hd
  refine ⟨fun k hk => ?_⟩
  split at hk
  · next e => rw [e]; exact Way.one hn
  · exact (h.way k hk).step hn
theorem on_stack {s : PSt} (hin : InP q) {seen : Nat → Bool} (h : OnI q s seen) (hi : q.code[s.pc]? = some i) (hb : (bestI q s.pc i).st = true) : seen s.pc = false ∧ i.op = 5 := by
  obtain ⟨h5, -, hl⟩ := best_st hb
  refine ⟨?_, h5⟩
  rcases hs : seen s.pc with _ | _
  · rfl
  · have h1 := h.way _ hs
    have hk := (List.getElem?_eq_some_iff.1 hi).1
    rw [(loops_iff hin (by omega)).2 h1] at hl
    cases hl
end
end Go.Proofs.YtapjgobkpehgfaaGreatDoor

/- Contracts of check: pointsTo, alike, isPlace, jumps, areInts, Need, kindsMayBe. -/
namespace Go.Proofs.YtapjgobkpehgfaaGreatDoor
set_option linter.unusedSimpArgs false
set_option linter.unusedVariables false
open Go.RowKit

theorem toP_no {ts : List Bs} {t n : Int} (h : hasI ts t n = false) : toP ts t n = -1 := by
  unfold toP toI
  rw [if_neg]
  rintro ⟨h1, h2, h3⟩
  unfold hasI sizeP sizeI at h
  rw [if_pos h1, decide_eq_true h2, decide_eq_true h3] at h
  cases h
theorem ptsTo_n (v : Value) (p : PProg) (t n z : Int) (w : World) (h : ProgAt w v p) (hs : OkP p) (hz : toP p.types t n = z) : Calls Tryz.prog 106 #[v, .int .i64 t, .int .i64 n] w (AggPost w (.int .i64 z)) := by
  obtain ⟨vt, vc, rfl, ht, hc⟩ := id h
  have hwb : Below w.heap.size w (w.alloc (.cells (progC vt p vc) 25)) := (Below.refl _ _).alloc (Nat.le_refl _) _
  have HK := Lib.hid (keep_new h)
  have HSZ : (w.alloc (.cells (progC vt p vc) 25)).heap.size = w.heap.size + 1 := World.size_alloc _ _
  have HTS := Lib.hid hs
  obtain ⟨x, c, rfl, -, -, -⟩ := id ht.elems
  obtain ⟨x', c', rfl, -, -, -⟩ := id hc
  rcases hh : hasI p.types t n with _ | _
  · have HH := Lib.hid (fun w1 (hb1 : Below (w.alloc (.cells (progC (.slice x p.types.length c) p (.slice x' p.code.length c')) 25)).heap.size _ w1) => hasF_b _ p t n false w1 (HK.out.at'.below hb1) hs hh)
    have he : z = -1 := by rw [← hz]; exact toP_no hh
    subst he
    have HW := Lib.hid hwb
    have HZ := Lib.hid HSZ
    clear h ht hc hs hwb hh HSZ hz
    go_enter Tryz.func106, Tryz.ntmps106
    go_wp2_with (first
      | (refine wpList_loadB rfl 25 _ rfl w.heap.size (progC (.slice x p.types.length c) p (.slice x' p.code.length c')) rfl 25 HK.out.blk _ Tryz.underlying25 rfl prog_info ?_)
      | (go_at_call 116; refine (HH.out _ (Below.refl _ _)).mono ?_; rintro e w' ⟨rfl, hb1⟩))
    go_ret
    exact ⟨rfl, HW.out.trans (hb1.mono (by rw [HZ.out]; omega))⟩
  · have HH := Lib.hid (fun w1 (hb1 : Below (w.alloc (.cells (progC (.slice x p.types.length c) p (.slice x' p.code.length c')) 25)).heap.size _ w1) => hasF_b _ p t n true w1 (HK.out.at'.below hb1) hs hh)
    have HI : Hid (toI (tsP p.types) t n = z) := Lib.hid hz
    have hn : 0 ≤ n ∧ n ≤ 6 := by
      unfold hasI at hh
      simp only [Bool.and_eq_true, decide_eq_true_eq] at hh
      have : sizeP p.types t ≤ 6 := sizeI_le.2
      omega
    have HW := Lib.hid hwb
    have HZ := Lib.hid HSZ
    clear h ht hc hs hwb hh HSZ hz
    go_enter Tryz.func106, Tryz.ntmps106
    go_wp2_with (first
      | (refine wpList_loadB rfl 25 _ rfl w.heap.size (progC (.slice x p.types.length c) p (.slice x' p.code.length c')) rfl 25 HK.out.blk _ Tryz.underlying25 rfl prog_info ?_)
      | (go_at_call 116; refine (HH.out _ (Below.refl _ _)).mono ?_; rintro e w' ⟨rfl, hb1⟩; have HB1 := Lib.hid hb1; clear hb1; have HKN := Lib.hid (HK.out.below HB1.out); obtain ⟨c0, -, -, -⟩ := HKN.out.cells; have HT1 := Lib.hid (HKN.out.ts HTS.out))
      | (go_at_call 117; refine (kto_n _ (tsP p.types) t n z _ HT1.out HI).mono ?_; rintro e w' ⟨rfl, rfl⟩))
    go_ret
    exact ⟨rfl, HW.out.trans (HB1.out.mono (by rw [HZ.out]; omega))⟩

theorem alike_b (s t : Int) (b : Bool) (w : World) (h1 : -1 ≤ s) (hb : sameT s t = b) : Calls Tryz.prog 104 #[.int .i64 s, .int .i64 t] w fun e w' => e = .returned (.bool b) ∧ w = w' := by
  unfold sameT at hb
  have HB := Lib.hid hb
  clear hb
  by_cases h : s = t
  · have e1 : (s == t) = true := by simp [h]
    have HS := Lib.hid h
    clear h
    by_cases h2 : s = -1
    · have e2 : (s != -1) = false := by simp [h2]
      have HS2 := Lib.hid h2
      clear h2
      go_enter Tryz.func104, Tryz.ntmps104
      go_wp2
      go_ret
      exact ⟨ret_bool (by rw [← HB.out, HS2.out]; rfl), rfl⟩
    · have e2 : (s != -1) = true := by simp [h2]
      have HS2 := Lib.hid h2
      clear h2
      go_enter Tryz.func104, Tryz.ntmps104
      go_wp2
      go_ret
      exact ⟨ret_bool (by rw [← HB.out]; have := HS.out; have := HS2.out; simp; omega), rfl⟩
  · have e1 : (s == t) = false := by simp [h]
    have HS := Lib.hid h
    clear h
    go_enter Tryz.func104, Tryz.ntmps104
    go_wp2
    go_ret
    exact ⟨ret_bool (by rw [← HB.out]; have := HS.out; simp; omega), rfl⟩
theorem place_b (v : Value) (p : PProg) (n : Int) (b : Bool) (w : World) (h : ProgAt w v p) (hb : (decide (0 ≤ n) && decide (n ≤ p.code.length)) = b) : Calls Tryz.prog 84 #[v, .int .i64 n] w (AggPost w (.bool b)) := by
  obtain ⟨vt, vc, rfl, ht, hc⟩ := h
  have hwb : Below w.heap.size w (w.alloc (.cells (progC vt p vc) 25)) := (Below.refl _ _).alloc (Nat.le_refl _) _
  have HW := Lib.hid hwb
  obtain ⟨x, c, rfl, -, -, -⟩ := id ht.elems
  obtain ⟨x', c', rfl, g1, g2, -⟩ := id hc
  have HB := Lib.hid hb
  unfold maxLen at g2
  clear ht hc hwb hb
  by_cases h0 : 0 ≤ n
  · by_cases h1 : n ≤ p.code.length
    all_goals
      go_enter Tryz.func84, Tryz.ntmps84
      go_wp2
      go_ret
      exact ⟨ret_bool (by rw [← HB.out]; simp; omega), HW.out⟩
  · go_enter Tryz.func84, Tryz.ntmps84
    go_wp2
    go_ret
    exact ⟨ret_bool (by rw [← HB.out]; simp; omega), HW.out⟩
theorem jumps_b (i : PIns) (b : Bool) (w : World) (hb : jumpI i = b) : Calls Tryz.prog 83 #[insV i] w (AggPost w (.bool b)) := by
  unfold jumpI at hb
  have HB := Lib.hid hb
  obtain ⟨op, a, bb, c, n⟩ := i
  simp only at *
  clear hb
  by_cases h3 : op = 3
  · have e1 : (op == 3) = true := by simp [h3]
    have H3 := Lib.hid h3
    clear h3
    go_enter Tryz.func83, Tryz.ntmps83
    go_wp2
    go_ret
    exact ⟨ret_bool (by rw [← HB.out, H3.out]; rfl), (Below.refl _ _).alloc (Nat.le_refl _) _⟩
  · have e1 : (op == 3) = false := by simp [h3]
    have H3 := Lib.hid h3
    clear h3
    go_enter Tryz.func83, Tryz.ntmps83
    go_wp2
    go_ret
    exact ⟨ret_bool (by rw [← HB.out]; have := H3.out; by_cases h4 : op = 4 <;> simp [this, h4]), (Below.refl _ _).alloc (Nat.le_refl _) _⟩
theorem all8_next {xs : List Int} {k : Nat} {x : Int} (h : (xs.take k).all (fun x => decide (x < 8)) = true) (hx : xs[k]? = some x) (hp : x < 8) : (xs.take (k + 1)).all (fun x => decide (x < 8)) = true := all_take_next h hx (decide_eq_true hp)
theorem ints_b (b : Nat) (xs : List Int) (r : Bool) (w : World) (hc : Hid (∀ j x, xs[j]? = some x → w.cell? ⟨b, j, none⟩ = some (.int .u8 x))) (hx : Hid (∀ x ∈ xs, 0 ≤ x ∧ x ≤ 255)) (hl : xs.length ≤ 3) (hr : Hid (xs.all (fun x => decide (x < 8)) = r)) :
    Calls Tryz.prog 103 #[.slice (some ⟨b, 0, none⟩) xs.length xs.length] w fun e w' => e = .returned (.bool r) ∧ w = w' := by
  go_enter Tryz.func103, Tryz.ntmps103
  go_wp2
  go_loop [7] (fun i => ∃ k : Nat, k ≤ xs.length ∧ i = .int .i64 k ∧ Hid ((xs.take k).all (fun x => decide (x < 8)) = true)) (fun i => xs.length - (intOf i).toNat)
  case atStart => exact ⟨0, Nat.zero_le _, rfl, Lib.hid rfl⟩
  case round =>
    obtain ⟨k, hk, rfl, hok⟩ := hrel
    by_cases hlt : k < xs.length
    · obtain ⟨x, hxk⟩ : ∃ x, xs[k]? = some x := ⟨_, List.getElem?_eq_getElem hlt⟩
      have hcell := hc.out k x hxk
      obtain ⟨x0, x1⟩ := hx.out x (List.mem_of_getElem? hxk)
      have HX := Lib.hid hxk
      clear hxk
      by_cases h8 : x < 8
      · go_wp2
        go_round
        case rel => exact ⟨k + 1, by omega, by go_num, Lib.hid (all8_next hok.out HX.out h8)⟩
        case measure => simp [intOf]; omega
      · go_wp2
        go_ret
        refine ⟨ret_bool ?_, rfl⟩
        rw [← hr.out]
        exact (all_not HX.out (decide_eq_false (by omega))).symm
    · go_wp2
      go_ret
      obtain rfl : k = xs.length := by omega
      exact ⟨ret_bool (by have := hok.out; rw [List.take_length] at this; rw [← hr.out, this]), rfl⟩
end Go.Proofs.YtapjgobkpehgfaaGreatDoor
