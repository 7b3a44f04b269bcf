/-
  The contracts of program, and of Parse.
-/
import Derived.Test.YtcjhgibhenocpaaGreatDoorCProg
namespace Go.Proofs.YtcjhgibhenocpaaGreatDoor
set_option linter.unusedSimpArgs false
set_option linter.unusedVariables false
open Go.RowKit

theorem grid_elem : Tryz.prog.underlying 57 = some (.slice (Tryz.prog.elem 57)) := by kernel_rfl
def sliceV (a : Option Addr) (n c lo : Nat) : Value := .slice (if c = lo then a else a.map (·.add lo)) (n - lo) (c - lo)
theorem sliceAt_run (a : Option Addr) (n c lo : Nat) (w : World) (hl : lo ≤ n) (z : Int) (hz : z = lo) : (Instr.sliceAt 57 (.slice a n c) (some (.int .i64 z)) none none).run Tryz.prog w = .ok (sliceV a n c lo) w := by
  subst hz
  rw [run_sliceAt_slice w 57 _ _ _ _ grid_elem]
  exact slice_run a n c lo w hl

theorem program_any (v : Value) (xss : List (List Bs)) (w : World) (h : GridAt w v xss) (hne : ∀ x ∈ xss, x ≠ []) (hsh : ∀ x ∈ xss, ∀ y ∈ x, y.length ≤ 30) (hlen : xss.length ≤ 100000) (ho : HasO w) (hE : HasE w) :
    Calls Tryz.prog 24 #[v] w (ProgPost w (programL xss)) := by
  have hsm : ∀ x ∈ xss, ∀ y ∈ x, y.length ≤ maxLen := fun x hx y hy => by have := hsh x hx y hy; unfold maxLen; omega
  have hsd : ∀ n, ∀ x ∈ xss.drop n, ∀ y ∈ x, y.length ≤ maxLen := fun n x hx => hsm x (List.mem_of_mem_drop hx)
  obtain ⟨a, c, rfl, h1, h2, h3⟩ := h.elems
  have htl := typesL_len xss
  have hpl : (lettersL kLocals (xss.drop (typesL xss).length)).2 = true → (typesL xss).length + 1 ≤ xss.length := fun hh => by
    have := letters_pos hh; rw [List.length_drop] at this; omega
  have hpg : (lettersL kGlobals (xss.drop ((typesL xss).length + 1))).2 = true → (typesL xss).length + 2 ≤ xss.length := fun hh => by
    have := letters_pos hh; rw [List.length_drop] at this; omega
  have hty := types_any (.slice a xss.length c) xss (w.alloc (.cells zeroP 25)) (h.below ((Below.refl _ _).alloc (Nat.le_refl _) _)) hsm hlen
  rcases hl : lettersL kLocals (xss.drop (typesL xss).length) with ⟨l, lb⟩
  rcases hg : lettersL kGlobals (xss.drop ((typesL xss).length + 1)) with ⟨g, gb⟩
  rw [hl] at hpl
  rw [hg] at hpg
  simp only at hpl hpg
  have HRL : lb = false → programL xss = (noneP, (typesL xss).length, false) := fun hb => prog_l (by rw [hl]; exact hb)
  have HRG : lb = true → gb = false → programL xss = (noneP, (typesL xss).length + 1, false) := fun hb hb2 => prog_g (by rw [hl]; exact hb) (by rw [hg]; exact hb2)
  have HRC : lb = true → gb = true → ∀ k, codeL 0 (xss.drop ((typesL xss).length + 2)) = .error k → programL xss = (noneP, (typesL xss).length + 2 + k, false) := fun hb hb2 k hk => prog_c (by rw [hl]; exact hb) (by rw [hg]; exact hb2) hk
  have HRO : lb = true → gb = true → ∀ is, codeL 0 (xss.drop ((typesL xss).length + 2)) = .ok is → programL xss = (⟨typesL xss, l, g, is⟩, xss.length, true) := fun hb hb2 is hk => by
    have := prog_o (by rw [hl]; exact hb) (by rw [hg]; exact hb2) hk
    rw [hl, hg] at this; exact this
  have hins : ∀ x ∈ xss, ∀ u W, RowAt W u (x.map str) → Below w.heap.size w W → Calls Tryz.prog 57 #[u] W (InstrPost W (instrL x)) := fun x hx u W hu hb =>
    instr_any u x W hu (hne x hx) (fun y hy => by have := hsh x hx y hy; omega) (ho.below hb) (hE.below hb)
  obtain ⟨a3, c3, hc3, hm3, hv3, hg3⟩ : ∃ a3 c3, (xss.drop ((typesL xss).length + 2)).length ≤ c3 ∧ c3 ≤ 9223372036854775807 ∧ (lb = true → gb = true → sliceV a xss.length c ((typesL xss).length + 2) = .slice a3 (xss.drop ((typesL xss).length + 2)).length c3) ∧
      (∀ k x, (xss.drop ((typesL xss).length + 2))[k]? = some x → ∃ b o u, a3 = some ⟨b, o, none⟩ ∧ b < w.heap.size ∧ w.cell? ⟨b, o + k, none⟩ = some u ∧ ∀ W, Below w.heap.size w W → Calls Tryz.prog 57 #[u] W (InstrPost W (instrL x))) := by
    by_cases hle : (typesL xss).length + 2 ≤ xss.length
    · obtain ⟨a3, c3, e, g1, g2, g3⟩ := (h.drop _ hle).elems
      refine ⟨a3, c3, g1, by unfold maxLen at g2; omega, fun _ _ => e, fun k x hx => ?_⟩
      obtain ⟨b, o, u, e1, e2, e3, e4⟩ := g3 k x hx
      refine ⟨b, o, u, e1, e2, e3, fun W hb => hins x (List.mem_of_mem_drop (List.mem_of_getElem? hx)) u W (e4.below hb) hb⟩
    · have hnil : xss.drop ((typesL xss).length + 2) = [] := List.drop_eq_nil_of_le (by omega)
      refine ⟨none, 0, by rw [hnil]; simp, by omega, fun _ hb => absurd (hpg hb) hle, fun k x hx => by rw [hnil] at hx; simp at hx⟩
  refine prog_walk a c xss w (programL xss) (typesL xss) l g lb gb (sliceV a xss.length c (typesL xss).length) (sliceV a xss.length c ((typesL xss).length + 1)) a3 c3 (xss.drop ((typesL xss).length + 2)) hlen htl
    (by rw [List.length_drop]; omega) hc3 hm3 (Lib.hid hty) (Lib.hid fun W => sliceAt_run a _ c _ W htl _ rfl) (Lib.hid fun hb W => sliceAt_run a _ c _ W (hpl hb) _ (by omega)) (Lib.hid fun hb hb2 W => by rw [← hv3 hb hb2]; exact sliceAt_run a _ c _ W (hpg hb2) _ (by omega))
    (Lib.hid fun W hb => letOf_at kLocals _ rfl _ _ W l lb ((h.drop _ htl).below hb) (hsd _) hl) (Lib.hid fun hlb W hb => letOf_at kGlobals _ rfl _ _ W g gb ((h.drop _ (hpl hlb)).below hb) (hsd _) hg)
    (Lib.hid hg3) (Lib.hid HRL) (Lib.hid HRG) (Lib.hid HRC) (Lib.hid HRO)

/-! ### What Lines tells -/
theorem goodL_rows {s : Bs} {G : List (List Bs)} (h : linesL s = (G, 0, 0)) : (∀ x ∈ G, x ≠ [] ∧ ∀ y ∈ x, y ≠ [] ∧ mayL y = true) ∧ G.length ≤ 20001 := by
  by_cases hs : s.length ≤ 20000
  · rcases linesL_cases s hs with ⟨h1, h2⟩ | ⟨k, l, h1, h2, _⟩
    · rw [h1] at h
      have hG : goodL (splitL 10 s) = G := (Prod.mk.inj h).1
      refine ⟨?_, ?_⟩
      · rw [← hG]; exact goodL_good _ h2
      · rw [← hG]
        have := goodL_len (splitL 10 s)
        rw [splitL_length] at this
        have := List.count_le_length (a := 10) (l := s)
        omega
    · rw [h1] at h
      have := (Prod.mk.inj (Prod.mk.inj h).2).2
      omega
  · unfold linesL at h
    rw [if_pos (by omega)] at h
    have := (Prod.mk.inj (Prod.mk.inj h).2).2
    omega
theorem mayL_len {y : Bs} (h : mayL y = true) : y.length ≤ 30 := by
  unfold mayL at h
  exact of_decide_eq_true (Bool.and_eq_true_iff.1 h).1

def ParsePost (w : World) (r : PProg × Nat × Nat) (e : Ending) (w' : World) : Prop :=
  ∃ pv, e = .returned (.tuple #[pv, .int .i64 r.2.1, .int .i64 r.2.2]) ∧ ProgOwn w' w.heap.size pv r.1 ∧ Below w.heap.size w w'
theorem linesL_err {s : Bs} {G : List (List Bs)} {n e : Nat} (h : linesL s = (G, n, e)) : (e = 0 ∧ n = 0) ∨ (e ≠ 0 ∧ G = []) := by
  by_cases hs : s.length ≤ 20000
  · rcases linesL_cases s hs with ⟨h1, _⟩ | ⟨k, l, h1, _⟩
    · rw [h1] at h
      exact .inl ⟨(Prod.mk.inj (Prod.mk.inj h).2).2.symm, (Prod.mk.inj (Prod.mk.inj h).2).1.symm⟩
    · rw [h1] at h
      exact .inr ⟨by rw [← (Prod.mk.inj (Prod.mk.inj h).2).2]; decide, (Prod.mk.inj h).1.symm⟩
  · unfold linesL at h
    rw [if_pos (by omega)] at h
    exact .inr ⟨by rw [← (Prod.mk.inj (Prod.mk.inj h).2).2]; decide, (Prod.mk.inj h).1.symm⟩

theorem progC_one {W : World} {B B' n m : Nat} {cs ds : List Value} {vt vc : Value} {P : PProg} (h1 : W.ownsRow B 9 1 vt n cs) (h2 : W.ownsRow B' 60 5 vc m ds) : (progC vt P vc).all (·.oneCell') = true := by
  rcases ownsRow_forms h1 with ⟨rfl, _⟩ | ⟨g, cap, rfl⟩
  · exact prog_one _ _ _ (P.locals, P.globs) h2
  · exact prog_one _ _ _ (P.locals, P.globs) h2
theorem put_two {w2 : World} {b : Nat} {old : Array Value} (h : blk w2 b old 25) (cs : Array Value) :
    blk (putB (w2.alloc (.cells zeroP 25)) w2.heap.size cs 25) b old 25 ∧ blk (putB (w2.alloc (.cells zeroP 25)) w2.heap.size cs 25) w2.heap.size cs 25 ∧
      Below w2.heap.size w2 (putB (w2.alloc (.cells zeroP 25)) w2.heap.size cs 25) ∧ True := by
  have hlt := blk_lt h
  refine ⟨?_, putB_at (blk_new _ _ _) _ _, ((Below.refl _ _).alloc (Nat.le_refl _) _).trans (putB_below _ (Nat.le_refl _) _ _), trivial⟩
  unfold blk; rw [putB_ne _ (by omega)]; exact blk_alloc h _
theorem codeL_le : ∀ (ls : List (List Bs)) (k0 k : Nat), codeL k0 ls = .error k → k ≤ k0 + ls.length
  | [], _, _, h => by simp [codeL] at h
  | x :: r, k0, k, h => by
    unfold codeL at h
    rcases hi : instrL x with _ | i
    · rw [hi] at h; simp at h; simp; omega
    · rw [hi] at h
      simp only at h
      split at h
      · simp at h; simp; omega
      · rcases hc : codeL (k0 + 1) r with m | is
        · rw [hc] at h; simp at h; have := codeL_le r (k0 + 1) m hc; simp; omega
        · rw [hc] at h; simp at h
theorem programL_le {G : List (List Bs)} (h : G.length ≤ 20001) : (programL G).2.1 ≤ 100000 := by
  have ht := typesL_len G
  unfold programL
  simp only
  split
  · split
    · split
      · rename_i k hk
        have := codeL_le _ _ _ hk
        rw [List.length_drop] at this
        simp only; omega
      · simp only; omega
    · simp only; omega
  · simp only; omega

set_option maxRecDepth 100000 in
set_option maxHeartbeats 1000000 in
theorem cparse_err (s : ByteArray) (w : World) (G : List (List Bs)) (n e : Nat) (he : e ≠ 0)
    (HL : Hid (Calls Tryz.prog 23 #[.string s] (w.alloc (.cells zeroP 25)) (LinesPost (w.alloc (.cells zeroP 25)) (G, n, e)))) : Calls Tryz.prog 8 #[.string s] w (ParsePost w (noneP, n, e)) := by
  have hne : (((e : Nat) : Int) != 0) = true := by simp [he]
  have hne2 : (((e : Nat) : Int) == 0) = false := by simp [he]
  have ZONE := Lib.hid zeroP_one
  clear he
  go_enter Tryz.func8, Tryz.ntmps8
  go_wp2_with (first
    | (go_at_call 23; refine HL.out.mono ?_; rintro e w1 ⟨a1, c1, rfl, hg1, hb1⟩; have K1 := Lib.hid (blk_below (blk_new w zeroP 25) hb1); have HB1 := Lib.hid (((Below.refl _ _).alloc (Nat.le_refl _) _ : Below w.heap.size w (w.alloc (.cells zeroP 25))).trans (hb1.mono (by simp))); clear hb1 hg1)
    | (refine wpList_putB rfl 25 _ _ rfl w.heap.size zeroP rfl rfl 25 _ K1.out prog_info rfl ZONE.out ?_))
  refine bodyPost_ret (v := .tuple #[.agg zeroP, .int .i64 n, .int .i64 e]) ?_ rfl ?_
  · rw [res_cell2 (p := 2) (u := 3) (v := 4) rfl _ _ w.heap.size zeroP 25 _ rfl (putB_at K1.out _ _) Tryz.underlying25 rfl prog_info]; rfl
  · exact ⟨_, rfl, none_own _ _, HB1.out.trans (putB_below _ (Nat.le_refl _) _ _)⟩

set_option maxRecDepth 100000 in
set_option maxHeartbeats 1000000 in
theorem cparse_ok (s : ByteArray) (w : World) (G : List (List Bs)) (R : PProg × Nat × Bool) (hR : R.2.1 ≤ 100000)
    (HL : Hid (Calls Tryz.prog 23 #[.string s] (w.alloc (.cells zeroP 25)) (LinesPost (w.alloc (.cells zeroP 25)) (G, 0, 0))))
    (HP : Hid (∀ v W, Below w.heap.size w W → GridAt W v G → Calls Tryz.prog 24 #[v] W (ProgPost W R))) :
    Calls Tryz.prog 8 #[.string s] w (ParsePost w (if R.2.2 then (R.1, 0, 0) else (noneP, R.2.1 + 1, 4))) := by
  have ZONE := Lib.hid zeroP_one
  obtain ⟨P, n, ok⟩ := R
  simp only at hR ⊢
  rcases ok with _ | _
  · rw [if_neg (by simp)]
    go_enter Tryz.func8, Tryz.ntmps8
    go_wp2_with (first
      | (go_at_call 23; refine HL.out.mono ?_; rintro e w1 ⟨a1, c1, rfl, hg1, hb1⟩; have s1 := hb1.size; rw [World.size_alloc] at s1; have K1 := Lib.hid (blk_below (blk_new w zeroP 25) hb1); have HB1 := Lib.hid (((Below.refl _ _).alloc (Nat.le_refl _) _ : Below w.heap.size w (w.alloc (.cells zeroP 25))).trans (hb1.mono (by simp))); have HG1 := Lib.hid hg1.at; clear hb1 hg1)
      | (go_at_call 24; refine (HP.out _ _ HB1.out HG1.out).mono ?_; rintro e w2 ⟨pv, rfl, ⟨vt, vc, rfl, ho1, ho2⟩, hb2⟩; have s2 := hb2.size; have K2 := Lib.hid (blk_below K1.out hb2); have HB2 := Lib.hid hb2; have ONE := Lib.hid (progC_one (P := P) ho1 ho2); have K3 := Lib.hid (put_two K2.out (progC vt P vc)); clear hb2 ho1 ho2)
      | (refine wpList_putB rfl 25 _ _ rfl w2.heap.size (progC vt P vc) rfl rfl 25 _ (blk_new _ _ _) prog_info rfl ONE.out ?_)
      | (refine wpList_putB rfl 25 _ _ rfl w.heap.size zeroP rfl rfl 25 _ K3.out.1 prog_info rfl ZONE.out ?_))
    refine bodyPost_ret (v := .tuple #[.agg zeroP, .int .i64 ((n : Int) + 1), .int .i64 4]) ?_ rfl ?_
    · rw [res_cell2 (p := 2) (u := 3) (v := 4) rfl _ _ w.heap.size zeroP 25 _ rfl (putB_at K3.out.1 _ _) Tryz.underlying25 rfl prog_info]; rfl
    · exact ⟨.agg zeroP, by simp, none_own _ _, ((HB1.out.trans (HB2.out.mono (by omega))).trans (K3.out.2.2.1.mono (by omega))).trans (putB_below _ (Nat.le_refl _) _ _)⟩
  · rw [if_pos rfl]
    go_enter Tryz.func8, Tryz.ntmps8
    go_wp2_with (first
      | (go_at_call 23; refine HL.out.mono ?_; rintro e w1 ⟨a1, c1, rfl, hg1, hb1⟩; have s1 := hb1.size; rw [World.size_alloc] at s1; have K1 := Lib.hid (blk_below (blk_new w zeroP 25) hb1); have HB1 := Lib.hid (((Below.refl _ _).alloc (Nat.le_refl _) _ : Below w.heap.size w (w.alloc (.cells zeroP 25))).trans (hb1.mono (by simp))); have HG1 := Lib.hid hg1.at; clear hb1 hg1)
      | (go_at_call 24; refine (HP.out _ _ HB1.out HG1.out).mono ?_; rintro e w2 ⟨pv, rfl, ⟨vt, vc, rfl, ho1, ho2⟩, hb2⟩; have s2 := hb2.size; have K2 := Lib.hid (blk_below K1.out hb2); have HB2 := Lib.hid hb2; have HO1 := Lib.hid ho1; have HO2 := Lib.hid ho2; have ONE := Lib.hid (progC_one (P := P) ho1 ho2); have K3 := Lib.hid (put_two K2.out (progC vt P vc)); clear hb2 ho1 ho2)
      | (refine wpList_putB rfl 25 _ _ rfl w2.heap.size (progC vt P vc) rfl rfl 25 _ (blk_new _ _ _) prog_info rfl ONE.out ?_)
      | (refine wpList_loadB rfl 25 _ rfl w2.heap.size (progC vt P vc) rfl 25 K3.out.2.1 _ Tryz.underlying25 rfl prog_info ?_)
      | (refine wpList_putB rfl 25 _ _ rfl w.heap.size (progC vt P vc) rfl rfl 25 _ K3.out.1 prog_info rfl ONE.out ?_))
    refine bodyPost_ret (v := .tuple #[.agg (progC vt P vc), .int .i64 0, .int .i64 0]) ?_ rfl ?_
    · rw [res_cell2 (p := 2) (u := 3) (v := 4) rfl _ _ w.heap.size (progC vt P vc) 25 _ rfl (putB_at K3.out.1 _ _) Tryz.underlying25 rfl prog_info]; rfl
    · refine ⟨_, rfl, ?_, ((HB1.out.trans (HB2.out.mono (by omega))).trans (K3.out.2.2.1.mono (by omega))).trans (putB_below _ (Nat.le_refl _) _ _)⟩
      have h0 : ProgOwn w2 w1.heap.size (.agg (progC vt P vc)) P := ⟨vt, vc, rfl, HO1.out, HO2.out⟩
      exact ((h0.below K3.out.2.2.1).put K3.out.1).le (by omega)

theorem parse_any (s : ByteArray) (w : World) (hs : s.size ≤ maxLen) (hm : HasM w) (ho : HasO w) (hE : HasE w) : Calls Tryz.prog 8 #[.string s] w (ParsePost w (parseL s.data.toList)) := by
  have hwb : Below w.heap.size w (w.alloc (.cells zeroP 25)) := (Below.refl _ _).alloc (Nat.le_refl _) _
  have HL := lines_any s (w.alloc (.cells zeroP 25)) hs (hm.below hwb)
  rcases hr : linesL s.data.toList with ⟨G, n, e⟩
  rw [hr] at HL
  by_cases he : e = 0
  · rcases linesL_err hr with ⟨_, rfl⟩ | ⟨h, _⟩
    · subst he
      obtain ⟨h1, h2⟩ := goodL_rows hr
      have e1 : parseL s.data.toList = if (programL G).2.2 then ((programL G).1, 0, 0) else (noneP, (programL G).2.1 + 1, 4) := by
        unfold parseL; rw [hr]; simp
      rw [e1]
      refine cparse_ok s w G (programL G) (programL_le h2) (Lib.hid HL) (Lib.hid fun v W hb hg => ?_)
      exact program_any v G W hg (fun x hx => (h1 x hx).1) (fun x hx y hy => mayL_len ((h1 x hx).2 y hy).2) (by omega) (ho.below hb) (hE.below hb)
    · exact absurd he h
  · have e1 : parseL s.data.toList = (noneP, n, e) := by
      unfold parseL; rw [hr]; simp [he]
    rw [e1]
    exact cparse_err s w G n e he (Lib.hid HL)
end Go.Proofs.YtcjhgibhenocpaaGreatDoor
