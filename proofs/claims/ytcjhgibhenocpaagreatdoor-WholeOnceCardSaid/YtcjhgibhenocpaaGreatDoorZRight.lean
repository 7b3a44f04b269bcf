/-
  The contract of the document's Right.
-/
import Derived.Test.YtcjhgibhenocpaaGreatDoorZRead
import Derived.Test.YtcjhgibhenocpaaGreatDoorUAO
import Derived.Deep.QuietTactic
import Derived.BigQuiet
namespace Go.Proofs.YtcjhgibhenocpaaGreatDoor
set_option linter.unusedSimpArgs false
set_option linter.unusedVariables false
open Go.RowKit

theorem right_read (i : PIns) (hi : OkI i) : rightL i = true ↔ instrL (wordsI i) = some i :=
  ⟨fun h => instr_words hi h, fun h => (words_instr h).2.1⟩

set_option maxRecDepth 100000 in
set_option maxHeartbeats 1000000 in
theorem rightR_none (i : PIns) (w : World) (h : byOpL i.op = none) : Calls Tryz.prog 38 #[insV i] w (AggPost w (.bool false)) := by
  have HSH : Hid (∀ w', Calls Tryz.prog 80 #[.int .u8 i.op] w' fun e w'' => e = .returned (.tuple #[str [], str []]) ∧ w' = w'') := Lib.hid fun w' => by have := shape_any i.op w'; unfold shapeL at this; rw [h] at this; exact this
  clear h
  go_enter Tryz.func38, Tryz.ntmps38
  go_wp2_with (go_at_call 80; refine (HSH.out _).mono ?_; rintro e w1 ⟨rfl, rfl⟩; clear HSH)
  go_ret
  exact ⟨rfl, (Below.refl _ _).alloc (Nat.le_refl _) _⟩

set_option maxRecDepth 100000 in
set_option maxHeartbeats 2000000 in
theorem rightR_walk (i : PIns) (o : Int × Bs × Bs) (w : World) (ho : byOpL i.op = some o) (hi : OkI i) (ht : HasT w) : Calls Tryz.prog 38 #[insV i] w (AggPost w (.bool (rightL i))) := by
  have HSH : Hid (∀ w', Calls Tryz.prog 80 #[.int .u8 i.op] w' fun e w'' => e = .returned (.tuple #[str o.2.1, str (o.2.2.map low)]) ∧ w' = w'') := Lib.hid fun w' => by have := shape_any i.op w'; rw [shapeL_some ho] at this; exact this
  have hne : o.2.1 ≠ [] := (ops_cases (byOp_mem ho).1).2.2.1
  have hnm : (o.2.1 == []) = false := by simpa using hne
  have hwb : Below w.heap.size w (w.alloc (.cells (insC i) 60)) := (Below.refl _ _).alloc (Nat.le_refl _) _
  have HLN := Lib.hid (line_any i (w.alloc (.cells (insC i) 60)) (ht.below hwb) hi)
  have hsh : ∀ y ∈ wordsI i, y.length ≤ 3000 := by
    intro y hy
    unfold wordsI at hy
    rw [ho] at hy
    rcases List.mem_cons.1 hy with rfl | hy
    · have := mayL_len (ops_cases (byOp_mem ho).1).2.2.2.2.1; omega
    · obtain ⟨c, _, rfl⟩ := List.mem_map.1 hy
      obtain ⟨o0, o1, a0, a1, b0, b1, c0, c1, n0, n1⟩ := hi
      have : -9223372036854775808 ≤ partL i c ∧ partL i c ≤ 9223372036854775807 := by unfold partL; (repeat' split) <;> omega
      have := itoa_len this.1 this.2
      omega
  have hwne : wordsI i ≠ [] := by unfold wordsI; rw [ho]; simp
  have HRD : Hid (∀ v w', RowAt w' v ((wordsI i).map str) → Calls Tryz.prog 81 #[v] w' (InstrPost w' (instrL (wordsI i)))) := Lib.hid fun v w' hv => read_any v (wordsI i) w' hv hwne hsh
  have HRR := Lib.hid (right_read i hi)
  generalize wordsI i = ws at *
  obtain ⟨r, hr⟩ : ∃ r, instrL ws = r := ⟨_, rfl⟩
  rw [hr] at HRD HRR
  obtain ⟨b, hb⟩ : ∃ b, rightL i = b := ⟨_, rfl⟩
  rw [hb] at HRR ⊢
  generalize o.2.1 = nm at *
  generalize o.2.2.map low = ls at *
  obtain ⟨xo, xa, xb, xc, xn⟩ := i
  have HW := Lib.hid hwb
  clear ho hi ht hne hsh hwne hr hb hwb
  have hgu := Tryz.eqGuardType60
  rcases r with _ | ⟨yo, ya, yb, yc, yn⟩
  · obtain rfl : b = false := by
      rcases Bool.eq_false_or_eq_true b with h | h
      · have := HRR.out.1 h; cases this
      · exact h
    go_enter Tryz.func38, Tryz.ntmps38
    go_wp2_with (first
      | (go_at_call 80; refine (HSH.out _).mono ?_; rintro e w1 ⟨rfl, rfl⟩; clear HSH)
      | (go_at_call 82; refine HLN.out.mono ?_; rintro e w2 ⟨a, c, rfl, hown, hb2⟩; have HB2 := Lib.hid (HW.out.trans (hb2.mono HW.out.size)); have HO := Lib.hid (RowAt.of_own hown); clear hown hb2)
      | (go_at_call 81; refine (HRD.out _ _ HO.out).mono ?_; rintro e w3 ⟨rfl, hb3⟩; have HB3 := Lib.hid (HB2.out.trans (hb3.mono HB2.out.size)); clear hb3))
    go_ret
    exact ⟨rfl, HB3.out.alloc (HB3.out.size) _⟩
  · have HNE : Hid (¬ (PIns.mk yo ya yb yc yn = PIns.mk xo xa xb xc xn) → b = false) := Lib.hid fun h => by
      rcases Bool.eq_false_or_eq_true b with hb | hb
      · exact absurd (Option.some.inj (HRR.out.1 hb)) h
      · exact hb
    by_cases h1 : yo = xo
    · subst h1
      by_cases h1 : ya = xa
      · subst h1
        by_cases h1 : yb = xb
        · subst h1
          by_cases h1 : yc = xc
          · subst h1
            by_cases h1 : yn = xn
            · subst h1
              obtain rfl : b = true := HRR.out.2 rfl
              clear HNE HRR
              go_enter Tryz.func38, Tryz.ntmps38
              go_wp2_with (first
                | (go_at_call 80; refine (HSH.out _).mono ?_; rintro e w1 ⟨rfl, rfl⟩; clear HSH)
                | (go_at_call 82; refine HLN.out.mono ?_; rintro e w2 ⟨a, c, rfl, hown, hb2⟩; have k2 := Lib.hid (blk_below (blk_new w (insC ⟨yo, ya, yb, yc, yn⟩) 60) hb2); have HB2 := Lib.hid (HW.out.trans (hb2.mono HW.out.size)); have HO := Lib.hid (RowAt.of_own hown); clear hown hb2)
                | (go_at_call 81; refine (HRD.out _ _ HO.out).mono ?_; rintro e w3 ⟨rfl, hb3⟩; have HB3 := Lib.hid (HB2.out.trans (hb3.mono HB2.out.size)); have k3 := Lib.hid (blk_below k2.out hb3); have q0 := blk_cell (blk_alloc k3.out (.cells (insC ⟨yo, ya, yb, yc, yn⟩) 60)) 0 _ rfl; have q1 := blk_cell (blk_alloc k3.out (.cells (insC ⟨yo, ya, yb, yc, yn⟩) 60)) 1 _ rfl; have q2 := blk_cell (blk_alloc k3.out (.cells (insC ⟨yo, ya, yb, yc, yn⟩) 60)) 2 _ rfl; have q3 := blk_cell (blk_alloc k3.out (.cells (insC ⟨yo, ya, yb, yc, yn⟩) 60)) 3 _ rfl; have q4 := blk_cell (blk_alloc k3.out (.cells (insC ⟨yo, ya, yb, yc, yn⟩) 60)) 4 _ rfl; clear hb3))
              go_ret
              exact ⟨rfl, HB3.out.alloc (HB3.out.size) _⟩
            · obtain rfl := HNE.out (by simp [h1])
              have e1 : (yn == xn) = false := by simpa using h1
              clear HNE HRR
              go_enter Tryz.func38, Tryz.ntmps38
              go_wp2_with (first
                | (go_at_call 80; refine (HSH.out _).mono ?_; rintro e w1 ⟨rfl, rfl⟩; clear HSH)
                | (go_at_call 82; refine HLN.out.mono ?_; rintro e w2 ⟨a, c, rfl, hown, hb2⟩; have k2 := Lib.hid (blk_below (blk_new w (insC ⟨yo, ya, yb, yc, xn⟩) 60) hb2); have HB2 := Lib.hid (HW.out.trans (hb2.mono HW.out.size)); have HO := Lib.hid (RowAt.of_own hown); clear hown hb2)
                | (go_at_call 81; refine (HRD.out _ _ HO.out).mono ?_; rintro e w3 ⟨rfl, hb3⟩; have HB3 := Lib.hid (HB2.out.trans (hb3.mono HB2.out.size)); have k3 := Lib.hid (blk_below k2.out hb3); have q0 := blk_cell (blk_alloc k3.out (.cells (insC ⟨yo, ya, yb, yc, yn⟩) 60)) 0 _ rfl; have q1 := blk_cell (blk_alloc k3.out (.cells (insC ⟨yo, ya, yb, yc, yn⟩) 60)) 1 _ rfl; have q2 := blk_cell (blk_alloc k3.out (.cells (insC ⟨yo, ya, yb, yc, yn⟩) 60)) 2 _ rfl; have q3 := blk_cell (blk_alloc k3.out (.cells (insC ⟨yo, ya, yb, yc, yn⟩) 60)) 3 _ rfl; have q4 := blk_cell (blk_alloc k3.out (.cells (insC ⟨yo, ya, yb, yc, yn⟩) 60)) 4 _ rfl; clear hb3))
              go_ret
              exact ⟨rfl, HB3.out.alloc (HB3.out.size) _⟩
          · obtain rfl := HNE.out (by simp [h1])
            have e1 : (yc == xc) = false := by simpa using h1
            clear HNE HRR
            go_enter Tryz.func38, Tryz.ntmps38
            go_wp2_with (first
              | (go_at_call 80; refine (HSH.out _).mono ?_; rintro e w1 ⟨rfl, rfl⟩; clear HSH)
              | (go_at_call 82; refine HLN.out.mono ?_; rintro e w2 ⟨a, c, rfl, hown, hb2⟩; have k2 := Lib.hid (blk_below (blk_new w (insC ⟨yo, ya, yb, xc, xn⟩) 60) hb2); have HB2 := Lib.hid (HW.out.trans (hb2.mono HW.out.size)); have HO := Lib.hid (RowAt.of_own hown); clear hown hb2)
              | (go_at_call 81; refine (HRD.out _ _ HO.out).mono ?_; rintro e w3 ⟨rfl, hb3⟩; have HB3 := Lib.hid (HB2.out.trans (hb3.mono HB2.out.size)); have k3 := Lib.hid (blk_below k2.out hb3); have q0 := blk_cell (blk_alloc k3.out (.cells (insC ⟨yo, ya, yb, yc, yn⟩) 60)) 0 _ rfl; have q1 := blk_cell (blk_alloc k3.out (.cells (insC ⟨yo, ya, yb, yc, yn⟩) 60)) 1 _ rfl; have q2 := blk_cell (blk_alloc k3.out (.cells (insC ⟨yo, ya, yb, yc, yn⟩) 60)) 2 _ rfl; have q3 := blk_cell (blk_alloc k3.out (.cells (insC ⟨yo, ya, yb, yc, yn⟩) 60)) 3 _ rfl; have q4 := blk_cell (blk_alloc k3.out (.cells (insC ⟨yo, ya, yb, yc, yn⟩) 60)) 4 _ rfl; clear hb3))
            go_ret
            exact ⟨rfl, HB3.out.alloc (HB3.out.size) _⟩
        · obtain rfl := HNE.out (by simp [h1])
          have e1 : (yb == xb) = false := by simpa using h1
          clear HNE HRR
          go_enter Tryz.func38, Tryz.ntmps38
          go_wp2_with (first
            | (go_at_call 80; refine (HSH.out _).mono ?_; rintro e w1 ⟨rfl, rfl⟩; clear HSH)
            | (go_at_call 82; refine HLN.out.mono ?_; rintro e w2 ⟨a, c, rfl, hown, hb2⟩; have k2 := Lib.hid (blk_below (blk_new w (insC ⟨yo, ya, xb, xc, xn⟩) 60) hb2); have HB2 := Lib.hid (HW.out.trans (hb2.mono HW.out.size)); have HO := Lib.hid (RowAt.of_own hown); clear hown hb2)
            | (go_at_call 81; refine (HRD.out _ _ HO.out).mono ?_; rintro e w3 ⟨rfl, hb3⟩; have HB3 := Lib.hid (HB2.out.trans (hb3.mono HB2.out.size)); have k3 := Lib.hid (blk_below k2.out hb3); have q0 := blk_cell (blk_alloc k3.out (.cells (insC ⟨yo, ya, yb, yc, yn⟩) 60)) 0 _ rfl; have q1 := blk_cell (blk_alloc k3.out (.cells (insC ⟨yo, ya, yb, yc, yn⟩) 60)) 1 _ rfl; have q2 := blk_cell (blk_alloc k3.out (.cells (insC ⟨yo, ya, yb, yc, yn⟩) 60)) 2 _ rfl; have q3 := blk_cell (blk_alloc k3.out (.cells (insC ⟨yo, ya, yb, yc, yn⟩) 60)) 3 _ rfl; have q4 := blk_cell (blk_alloc k3.out (.cells (insC ⟨yo, ya, yb, yc, yn⟩) 60)) 4 _ rfl; clear hb3))
          go_ret
          exact ⟨rfl, HB3.out.alloc (HB3.out.size) _⟩
      · obtain rfl := HNE.out (by simp [h1])
        have e1 : (ya == xa) = false := by simpa using h1
        clear HNE HRR
        go_enter Tryz.func38, Tryz.ntmps38
        go_wp2_with (first
          | (go_at_call 80; refine (HSH.out _).mono ?_; rintro e w1 ⟨rfl, rfl⟩; clear HSH)
          | (go_at_call 82; refine HLN.out.mono ?_; rintro e w2 ⟨a, c, rfl, hown, hb2⟩; have k2 := Lib.hid (blk_below (blk_new w (insC ⟨yo, xa, xb, xc, xn⟩) 60) hb2); have HB2 := Lib.hid (HW.out.trans (hb2.mono HW.out.size)); have HO := Lib.hid (RowAt.of_own hown); clear hown hb2)
          | (go_at_call 81; refine (HRD.out _ _ HO.out).mono ?_; rintro e w3 ⟨rfl, hb3⟩; have HB3 := Lib.hid (HB2.out.trans (hb3.mono HB2.out.size)); have k3 := Lib.hid (blk_below k2.out hb3); have q0 := blk_cell (blk_alloc k3.out (.cells (insC ⟨yo, ya, yb, yc, yn⟩) 60)) 0 _ rfl; have q1 := blk_cell (blk_alloc k3.out (.cells (insC ⟨yo, ya, yb, yc, yn⟩) 60)) 1 _ rfl; have q2 := blk_cell (blk_alloc k3.out (.cells (insC ⟨yo, ya, yb, yc, yn⟩) 60)) 2 _ rfl; have q3 := blk_cell (blk_alloc k3.out (.cells (insC ⟨yo, ya, yb, yc, yn⟩) 60)) 3 _ rfl; have q4 := blk_cell (blk_alloc k3.out (.cells (insC ⟨yo, ya, yb, yc, yn⟩) 60)) 4 _ rfl; clear hb3))
        go_ret
        exact ⟨rfl, HB3.out.alloc (HB3.out.size) _⟩
    · obtain rfl := HNE.out (by simp [h1])
      have e1 : (yo == xo) = false := by simpa using h1
      clear HNE HRR
      go_enter Tryz.func38, Tryz.ntmps38
      go_wp2_with (first
        | (go_at_call 80; refine (HSH.out _).mono ?_; rintro e w1 ⟨rfl, rfl⟩; clear HSH)
        | (go_at_call 82; refine HLN.out.mono ?_; rintro e w2 ⟨a, c, rfl, hown, hb2⟩; have k2 := Lib.hid (blk_below (blk_new w (insC ⟨xo, xa, xb, xc, xn⟩) 60) hb2); have HB2 := Lib.hid (HW.out.trans (hb2.mono HW.out.size)); have HO := Lib.hid (RowAt.of_own hown); clear hown hb2)
        | (go_at_call 81; refine (HRD.out _ _ HO.out).mono ?_; rintro e w3 ⟨rfl, hb3⟩; have HB3 := Lib.hid (HB2.out.trans (hb3.mono HB2.out.size)); have k3 := Lib.hid (blk_below k2.out hb3); have q0 := blk_cell (blk_alloc k3.out (.cells (insC ⟨yo, ya, yb, yc, yn⟩) 60)) 0 _ rfl; have q1 := blk_cell (blk_alloc k3.out (.cells (insC ⟨yo, ya, yb, yc, yn⟩) 60)) 1 _ rfl; have q2 := blk_cell (blk_alloc k3.out (.cells (insC ⟨yo, ya, yb, yc, yn⟩) 60)) 2 _ rfl; have q3 := blk_cell (blk_alloc k3.out (.cells (insC ⟨yo, ya, yb, yc, yn⟩) 60)) 3 _ rfl; have q4 := blk_cell (blk_alloc k3.out (.cells (insC ⟨yo, ya, yb, yc, yn⟩) 60)) 4 _ rfl; clear hb3))
      go_ret
      exact ⟨rfl, HB3.out.alloc (HB3.out.size) _⟩
theorem rightR_any (i : PIns) (w : World) (hi : OkI i) (ht : HasT w) : Calls Tryz.prog 38 #[insV i] w (AggPost w (.bool (rightL i))) := by
  rcases h : byOpL i.op with _ | o
  · have e : rightL i = false := by unfold rightL; rw [h]
    rw [e]; exact rightR_none i w h
  · exact rightR_walk i o w h hi ht
theorem rightR_b (i : PIns) (b : Bool) (w : World) (hi : OkI i) (ht : HasT w) (h : rightL i = b) : Calls Tryz.prog 38 #[insV i] w (AggPost w (.bool b)) := by subst h; exact rightR_any i w hi ht
end Go.Proofs.YtcjhgibhenocpaaGreatDoor
