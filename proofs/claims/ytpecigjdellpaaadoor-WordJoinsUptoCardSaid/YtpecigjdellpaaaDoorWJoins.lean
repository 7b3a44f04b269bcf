/-
  WordJoins: lines of words that came in, opened; the walk.
-/
import Derived.Test.YtpecigjdellpaaaDoorRows
import Derived.Test.YtpecigjdellpaaaDoorWFew
import Derived.Test.YtpecigjdellpaaaDoorWErrors
import Derived.Test.YtpecigjdellpaaaDoorWLinesR
import Derived.Deep.Strs
import Derived.Deep.Slices
namespace Go.Proofs.YtpecigjdellpaaaDoor
open Go.RowKit

theorem bulk_strs {H : Type} (xs : List Bs) : Rows.uptoBulkAll (xs.map fun x => (DataW.lit (.string x) : DataW H)) = lens1 xs := by
  induction xs with
  | nil => simp [Rows.uptoBulkAll, lens1]
  | cons a r ih => rw [List.map_cons, Rows.uptoBulkAll, ih, lens1_cons]; simp [Rows.uptoBulk]
theorem bulk_each {H : Type} (f : Nat → DataW H) (X : Nat → List Bs) : ∀ l : List Nat, (∀ i ∈ l, lens1 (X i) + 1 ≤ Rows.uptoBulk (f i)) → fewS (l.map X) ≤ Rows.uptoBulkAll (l.map f)
  | [], _ => by simp [fewS]
  | i :: r, h => by
    have ih := bulk_each f X r (fun j hj => h j (by simp [hj]))
    have := h i (by simp)
    rw [List.map_cons, List.map_cons, Rows.uptoBulkAll]
    unfold fewS at ih ⊢
    rw [List.map_cons, List.sum_cons]; omega
theorem spot_none {w : World} {a : Addr} {v : Value} (h : w.cell? a = some v) : a.spot = none := by
  obtain ⟨_, _, _, _, h4⟩ := World.shape?_of_cell? h
  exact h4
theorem plain_add {b off i : Nat} : (⟨b, off, none⟩ : Addr).add i = ⟨b, off + i, none⟩ := by
  unfold Addr.add
  by_cases h : i = 0 <;> simp [h]
theorem row_of_cells {w : World} {a : Addr} {len cap : Nat} {cs : List Value} (hl : cs.length = len) (hc : len ≤ cap) (hm : cap ≤ maxLen) (h : ∀ i x, cs[i]? = some x → w.cell? (a.add i) = some x) : RowAt w (.slice (some a) len cap) cs := by
  refine ⟨some a, cap, by rw [hl], by omega, hm, ?_⟩
  rcases cs with _ | ⟨c0, cr⟩
  · exact .inl rfl
  · have h0 := h 0 c0 rfl
    have hs := spot_none h0
    obtain ⟨b, off, sp⟩ := a
    have e0 : (⟨b, off, sp⟩ : Addr).add 0 = ⟨b, off, sp⟩ := by simp [Addr.add]
    rw [e0] at hs h0
    dsimp only at hs
    subst hs
    refine .inr ⟨b, off, rfl, World.block_lt_of_cell? _ _ h0, fun j x hx => ?_⟩
    have := h j x hx
    rw [plain_add] at this
    exact this

section
variable {H : Type} {enc : TypeId × Value → H} {w : World} {base : Nat} {spare : Nat → Bool} {held : Bool}
theorem open_line {fuel : Nat} {v : Value} {x : DataW H × List MemPlace} (h : DataW.trod enc Tryd.prog w base spare held fuel 39 [v] = some x) : ∃ xs : List Bs, RowAt w v (xs.map str) ∧ lens1 xs + 1 ≤ Rows.uptoBulk x.1 := by
  rcases Go.Deep.open_strs Tryd.underlying39 Tryd.underlying9 (by kernel_rfl) h with ⟨hcs, rfl⟩ | ⟨a, len, cap, m, Sx, hcs, _, hl, hm, hmm, rfl, hx⟩
  · obtain rfl : v = .slice none 0 0 := by simpa using hcs
    exact ⟨[], ⟨none, 0, rfl, Nat.le_refl _, Nat.zero_le _, .inl rfl⟩, by simp [lens1, Rows.uptoBulk]⟩
  · obtain rfl : v = .slice (some a) len cap := by simpa using hcs
    have hlm : len ≤ m := by rw [hmm]; split <;> omega
    refine ⟨(List.range len).map fun i => (Sx i).data.toList, ?_, ?_⟩
    · refine row_of_cells (by simp) hl hm ?_
      intro i y hy
      rw [List.getElem?_map, List.getElem?_map] at hy
      have hi : i < len := by
        rcases Nat.lt_or_ge i len with h' | h'
        · exact h'
        · rw [List.getElem?_eq_none (by simpa using h')] at hy; simp at hy
      rw [List.getElem?_range hi] at hy
      simp at hy
      subst hy
      exact (hx i (by omega)).1
    · have e := bulk_strs (H := H) ((List.range len).map fun i => (Sx i).data.toList)
      rw [List.map_map] at e
      show _ ≤ Rows.uptoBulk (.slice _ _)
      rw [Rows.uptoBulk, ← e]
      simp [Function.comp_def]
theorem open_grid {v : Value} {d : DataW H} {ps : List MemPlace} (h : DataW.Trod enc Tryd.prog w base spare held 23 v d ps) (hv : v.cells.toList = [v]) : ∃ xss : List (List Bs), GridAt w v xss ∧ fewS xss ≤ Rows.uptoBulk d := by
  obtain ⟨fuel, h⟩ := h
  rw [hv] at h
  rcases Go.Deep.open_slice1 Tryd.underlying23 (by kernel_rfl) h with ⟨hcs, hx⟩ | ⟨a, len, cap, m, n, V, D, Pl, hcs, _, hl, hm, hmm, hx, hel⟩
  · obtain rfl : v = .slice none 0 0 := by simpa using hcs
    obtain ⟨rfl, _⟩ := Prod.mk.inj hx
    exact ⟨[], ⟨[], rfl, ⟨none, 0, rfl, Nat.le_refl _, Nat.zero_le _, .inl rfl⟩, fun i u x hu _ => by simp at hu⟩, by simp [fewS]⟩
  · obtain rfl : v = .slice (some a) len cap := by simpa using hcs
    obtain ⟨rfl, _⟩ := Prod.mk.inj hx
    have hlm : len ≤ m := by rw [hmm]; split <;> omega
    have each : ∀ i, i < len → ∃ xs : List Bs, RowAt w (V i) (xs.map str) ∧ lens1 xs + 1 ≤ Rows.uptoBulk (D i) := fun i hi => open_line (hel i (by omega)).2
    obtain ⟨X, hX⟩ := Go.Deep.choose_lt each
    refine ⟨(List.range len).map X, ⟨(List.range len).map V, by simp, ?_, ?_⟩, ?_⟩
    · refine row_of_cells (by simp) hl hm ?_
      intro i y hy
      rw [List.getElem?_map] at hy
      have hi : i < len := by
        rcases Nat.lt_or_ge i len with h' | h'
        · exact h'
        · rw [List.getElem?_eq_none (by simpa using h')] at hy; simp at hy
      rw [List.getElem?_range hi] at hy
      simp at hy
      subst hy
      exact (hel i (by omega)).1
    · intro i u x hu hx
      rw [List.getElem?_map] at hu hx
      have hi : i < len := by
        rcases Nat.lt_or_ge i len with h' | h'
        · exact h'
        · rw [List.getElem?_eq_none (by simpa using h')] at hu; simp at hu
      rw [List.getElem?_range hi] at hu hx
      simp at hu hx
      subst hu; subst hx
      exact (hX i hi).1
    · have := bulk_each D X (List.range len) (fun i hi => (hX i (List.mem_range.1 hi)).2)
      rw [Rows.uptoBulk]
      omega
end

theorem few_t (v : Value) (xss : List (List Bs)) (w : World) (h : GridAt w v xss) (hsum : fewS xss ≤ 3000) : Calls Tryd.prog 17 #[v] w fun e w' => e = .returned (.bool true) ∧ w = w' :=
  (few_any v xss w h (by omega)).mono fun e w' ⟨h1, h2⟩ => ⟨by rw [h1, decide_eq_true hsum], h2⟩
theorem few_f (v : Value) (xss : List (List Bs)) (w : World) (h : GridAt w v xss) (hsum : fewS xss ≤ 1000000000) (hn : ¬ fewS xss ≤ 3000) : Calls Tryd.prog 17 #[v] w fun e w' => e = .returned (.bool false) ∧ w = w' :=
  (few_any v xss w h hsum).mono fun e w' ⟨h1, h2⟩ => ⟨by rw [h1, decide_eq_false hn], h2⟩

set_option maxRecDepth 100000 in
theorem joins_many (v : Value) (xss : List (List Bs)) (w : World) (h : GridAt w v xss) (hsum : fewS xss ≤ 1000000000) (hn : ¬ fewS xss ≤ 3000) (hm : HasM w) :
    Calls Tryd.prog 5 #[v] w fun e w' => e = .returned (.bool true) ∧ Below w.heap.size w w' := by
  have HA := alive_any w hm
  have HF : Hid (∀ w', Below w.heap.size w w' → Calls Tryd.prog 17 #[v] w' fun e w'' => e = .returned (.bool false) ∧ w' = w'') := Lib.hid (fun w' hb => few_f v xss w' (h.below hb) hsum hn)
  clear h hsum hn
  go_enter Tryd.func5, Tryd.ntmps5
  go_wp2_with (first
    | (go_at_call 10; refine HA.mono ?_; rintro e w1 ⟨rfl, hb1⟩)
    | (go_at_call 17; refine (HF.out w1 hb1).mono ?_; rintro e w2 ⟨rfl, rfl⟩))
  go_ret
  exact ⟨rfl, hb1⟩

theorem goodW_of {x : List Bs} (h0 : x ≠ []) (h : x.all mayR = true) : GoodW x := by
  refine ⟨h0, fun y hy => ?_⟩
  have := List.all_eq_true.1 h y hy
  unfold mayR at this
  obtain ⟨h1, h2⟩ := Bool.and_eq_true_iff.1 this
  refine ⟨?_, h1⟩
  intro e; subst e; simp at h2

set_option maxRecDepth 100000 in
set_option maxHeartbeats 8000000 in
theorem joins_few (a : Option Addr) (c : Nat) (t : Bs) (xss : List (List Bs)) (w : World) (h : GridAt w (.slice a xss.length c) xss) (hsum : fewS xss ≤ 3000) (hm : HasM w) (ht : joinL xss = t)
    (HB : Hid ((∀ x ∈ xss, GoodW x) → linesL t = (xss, 0, 0))) :
    Calls Tryd.prog 5 #[.slice a xss.length c] w fun e w' => e = .returned (.bool true) ∧ Below w.heap.size w w' := by
  have HA := alive_any w hm
  have hlen : xss.length ≤ 3000 := Nat.le_trans (len_fewS xss) hsum
  have htl : t.length ≤ 3000 := by rw [← ht]; exact Nat.le_trans (joinL_fewS xss) hsum
  have HF : Hid (∀ w', Below w.heap.size w w' → Calls Tryd.prog 17 #[.slice a xss.length c] w' fun e w'' => e = .returned (.bool true) ∧ w' = w'') := Lib.hid (fun w' hb => few_t _ xss w' (h.below hb) hsum)
  have HJ : Hid (∀ w', Below w.heap.size w w' → Calls Tryd.prog 18 #[.slice a xss.length c] w' (StrPost w' t)) := Lib.hid (fun w' hb => by
    have := join_any _ xss w' (h.below hb) (by rw [ht]; omega) (fun x hx => by
      have := len_lens1 x
      have := fewS_mem hx
      omega)
    rw [ht] at this; exact this)
  have HR : Hid (∀ w', Below w.heap.size w w' → Calls Tryd.prog 19 #[.slice a xss.length c] w' fun e w'' => e = .returned (str t) ∧ w' = w'') := Lib.hid (fun w' hb => by
    have := joinR_any _ xss w' (h.below hb) (by omega)
    rw [ht] at this; exact this)
  have HL : Hid (∀ w', (∀ x ∈ xss, GoodW x) → HasM w' → Calls Tryd.prog 11 #[str t] w' (OkPost w' xss)) := Lib.hid (fun w' hg hm => lines_ok ⟨t.toArray⟩ xss w' (by rw [bs_size]; unfold maxLen; omega) hm (HB.out hg))
  have HG := Lib.hid h
  have HSX : Hid (∀ x ∈ xss, lens1 x ≤ 3000) := Lib.hid (fun x hx => Nat.le_trans (fewS_mem hx) hsum)
  clear h hsum ht HB
  go_enter Tryd.func5, Tryd.ntmps5
  go_wp2_with (first
    | (go_at_call 10; refine HA.mono ?_; rintro e w1 ⟨rfl, hb1⟩; have hm1 := hm.below hb1)
    | (go_at_call 17; refine (HF.out w1 hb1).mono ?_; rintro e w2 ⟨rfl, rfl⟩)
    | (go_at_call 18; refine (HJ.out w1 hb1).mono ?_; rintro e w2 ⟨rfl, hb2⟩; have hm2 := hm1.below hb2; have hbw := hb1.trans (hb2.mono hb1.size))
    | (go_at_call 19; refine (HR.out w2 hbw).mono ?_; rintro e w3 ⟨rfl, rfl⟩))
  have hg2 := HG.out.below hbw
  obtain ⟨a', c', e1, h1, h2, h3⟩ := hg2.cases
  simp only [Value.slice.injEq] at e1
  obtain ⟨rfl, _, rfl⟩ := e1
  have HG2 := Lib.hid hg2
  clear hg2
  rcases h3 with rfl | ⟨b, o, rfl, hb, hc⟩
  · go_loop [24] (fun i => i = .int .i64 0) (fun _ => 0)
    case atStart => rfl
    case round =>
      subst hrel
      go_wp2_with (first
        | (go_at_call 11; refine (HL.out w2 (by simp) hm2).mono ?_; rintro e w4 ⟨a4, c4, rfl, hg4, hb4⟩; have hga := HG2.out.below hb4)
        | (go_at_call 13; refine (same_any _ _ [] w4 hg4 hga).mono ?_; rintro e w5 ⟨rfl, hd5⟩; have hb5 := hd5.below))
      go_ret
      have s1 := hbw.size
      have s4 := hb4.size
      exact ⟨rfl, (hbw.trans (hb4.mono (by omega))).trans (hb5.mono (by omega))⟩
  · have HC := Lib.hid hc
    clear hc
    go_loop [24] (fun i => ∃ k : Nat, k ≤ xss.length ∧ i = .int .i64 k ∧ Hid (∀ x ∈ xss.take k, GoodW x)) (fun i => xss.length - (intOf i).toNat)
    case atStart => exact ⟨0, Nat.zero_le _, rfl, Lib.hid (by simp)⟩
    case round =>
      obtain ⟨k, hk, rfl, hok⟩ := hrel
      by_cases hlt : k < xss.length
      · have hx : xss[k]? = some xss[k] := List.getElem?_eq_getElem hlt
        obtain ⟨a', c', e1, g1, g2, g3⟩ := HC.out k _ hx
        have hxs := HSX.out _ (List.getElem_mem hlt)
        have HN : Hid (GoodW xss[k] → ∀ x ∈ xss.take (k + 1), GoodW x) := Lib.hid (fun hg x hm => by
          rw [List.take_succ_eq_append_getElem hlt] at hm
          rcases List.mem_append.1 hm with h' | h'
          · exact hok.out x h'
          · simp at h'; subst h'; exact hg)
        clear hx
        generalize xss[k] = x at *
        have hxl : x.length ≤ 3000 := Nat.le_trans (len_lens1 x) hxs
        rcases g3 with rfl | ⟨b', o', rfl, hb', hc'⟩
        · go_wp2
          go_loop [30] (fun i => i = .int .i64 0) (fun _ => 0)
          case atStart => rfl
          case round =>
            subst hrel
            go_wp2
            go_ret
            exact ⟨rfl, hbw⟩
        · have HC' := Lib.hid hc'
          clear hc'
          go_wp2
          go_loop [30] (fun i => ∃ j : Nat, j ≤ x.length ∧ i = .int .i64 j ∧ Hid ((x.take j).all mayR = true)) (fun i => x.length - (intOf i).toNat)
          case atStart => exact ⟨0, Nat.zero_le _, rfl, Lib.hid (by simp)⟩
          case round =>
            obtain ⟨j, hj, rfl, hokj⟩ := hrel
            by_cases hjl : j < x.length
            · have hy : x[j]? = some x[j] := List.getElem?_eq_getElem hjl
              have hcy := HC'.out j _ hy
              have hny := lens1_next hy
              have hly := lens1_le x (j + 1)
              have hyl : x[j].length ≤ 140737488351232 := by omega
              have HY := Lib.hid hy
              clear hny hly hy
              generalize x[j] = y at *
              rcases hmy : mayR y with _ | _
              · have HM := Lib.hid hmy
                clear hmy
                go_wp2_with (go_at_call 20; refine (mayR_f y _ hyl HM).mono ?_; rintro e w' ⟨rfl, rfl⟩)
                go_ret
                exact ⟨rfl, hbw⟩
              · have HM := Lib.hid hmy
                clear hmy
                go_wp2_with (go_at_call 20; refine (mayR_t y _ hyl HM).mono ?_; rintro e w' ⟨rfl, rfl⟩)
                go_round
                case rel => exact ⟨j + 1, by omega, by go_num, Lib.hid (all_take_next hokj.out HY.out HM.out)⟩
                case measure => simp [intOf]; omega
            · have HALL : Hid (x.all mayR = true) := Lib.hid (by
                have := hokj.out
                rw [List.take_of_length_le (by omega)] at this; exact this)
              by_cases hx0 : x.length = 0
              · have e0 : ((x.length : Int) == 0) = true := by rw [hx0]; rfl
                go_wp2
                go_ret
                exact ⟨rfl, hbw⟩
              · have e0 : ((x.length : Int) == 0) = false := by simp; intro e; subst e; exact hx0 rfl
                have HGW : Hid (∀ x ∈ xss.take (k + 1), GoodW x) := Lib.hid (HN.out (goodW_of (by intro e; subst e; exact hx0 rfl) HALL.out))
                go_wp2
                go_round
                case rel => exact ⟨k + 1, by omega, by go_num, HGW⟩
                case measure => simp [intOf]; omega
      · have HALL : Hid (∀ x ∈ xss, GoodW x) := Lib.hid (by
          have := hok.out
          rw [List.take_of_length_le (by omega)] at this; exact this)
        go_wp2_with (first
          | (go_at_call 11; refine (HL.out w2 HALL.out hm2).mono ?_; rintro e w4 ⟨a4, c4, rfl, hg4, hb4⟩; have hga := HG2.out.below hb4)
          | (go_at_call 13; refine (same_any _ _ xss w4 hg4 hga).mono ?_; rintro e w5 ⟨rfl, hd5⟩; have hb5 := hd5.below))
        go_ret
        have s1 := hbw.size
        have s4 := hb4.size
        exact ⟨rfl, (hbw.trans (hb4.mono (by omega))).trans (hb5.mono (by omega))⟩

theorem joins_walk (v : Value) (xss : List (List Bs)) (w : World) (h : GridAt w v xss) (hsum : fewS xss ≤ 1000000000) (hm : HasM w) :
    Calls Tryd.prog 5 #[v] w fun e w' => e = .returned (.bool true) ∧ Below w.heap.size w w' := by
  by_cases hn : fewS xss ≤ 3000
  · obtain ⟨a, c, rfl, _⟩ := h.cases
    exact joins_few a c _ xss w h hn hm rfl (Lib.hid fun hg => lines_join xss hg (by have := joinL_fewS xss; omega))
  · exact joins_many v xss w h hsum hn hm
end Go.Proofs.YtpecigjdellpaaaDoor
