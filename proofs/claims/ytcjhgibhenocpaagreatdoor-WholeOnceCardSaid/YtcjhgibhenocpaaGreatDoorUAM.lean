/-
  The contract of Print.
  The contract of alive: answers that the document fixes.
  The contract of Few; what it means of a program that may be printed.
-/
import Derived.Test.YtcjhgibhenocpaaGreatDoorUAH
import Derived.Test.YtcjhgibhenocpaaGreatDoorUAG
import Derived.Deep.AppendLies
import Derived.Deep.RegionLaw
import Derived.Deep.Cut
import Derived.Test.YtcjhgibhenocpaaGreatDoorCParse

/- The contract of Print. -/
namespace Go.Proofs.YtcjhgibhenocpaaGreatDoor
set_option linter.unusedSimpArgs false
set_option linter.unusedVariables false
open Go.RowKit

theorem Grid.pushes {w w' : World} {B : Nat} {v v' : Value} {xss ys : List (List Bs)} {vs us : List Value} {o : Obj}
    (h1 : vs.length = xss.length) (h2 : w.ownsRow B 22 1 v xss.length vs) (h3 : ∀ (i : Nat) (u : Value) (x : List Bs), vs[i]? = some u → xss[i]? = some x → w.ownsRow B 9 1 u x.length (x.map str))
    (hul : us.length = ys.length) (hu : ∀ (i : Nat) (u : Value) (x : List Bs), us[i]? = some u → ys[i]? = some x → w.ownsRow B 9 1 u x.length (x.map str))
    (ho : w'.ownsRow B 22 1 v' (xss.length + us.length) (vs ++ us)) (hg : (w.alloc o).grownBy w' v.ownBlock) : Grid w' B v' (xss ++ ys) := by
  refine ⟨vs ++ us, by simp [h1, hul], by rw [List.length_append, ← hul]; exact ho, ?_⟩
  intro i a y ha hy
  have key : ∀ a y, w.ownsRow B 9 1 a (List.length y) (List.map str y) → w'.ownsRow B 9 1 a y.length (y.map str) := fun a y hay =>
    (hay.alloc o).kept hg (own_apart (hay.alloc o) (h2.alloc o))
  by_cases hi : i < vs.length
  · rw [List.getElem?_append_left hi] at ha
    rw [List.getElem?_append_left (by omega)] at hy
    exact key a y (h3 i a y ha hy)
  · rw [List.getElem?_append_right (by omega)] at ha
    rw [List.getElem?_append_right (by omega)] at hy
    rw [← h1] at hy
    exact key a y (hu _ a y ha hy)

/-- Lines so far, in rows made since a world. -/
structure GRel (w1 : World) (v : Value) (xss : List (List Bs)) (wr : World) : Prop where
  g : Grid wr w1.heap.size v xss
  b : Below w1.heap.size w1 wr
theorem gRel_start (w1 : World) : GRel w1 (.slice none 0 0) [] w1 := ⟨grid_nil _ _, Below.refl _ _⟩
theorem GRel.step {w1 wr : World} {v : Value} {xss : List (List Bs)} (h : GRel w1 v xss wr) : ∃ vs, vs.length = xss.length ∧ wr.ownsRow w1.heap.size 22 1 v xss.length vs ∧
    ∀ (ys : List (List Bs)) (us : List Value) (w3 w' : World) (v' : Value) (o : Obj), us.length = ys.length → Below wr.heap.size wr w3 →
      (∀ (i : Nat) (u : Value) (x : List Bs), us[i]? = some u → ys[i]? = some x → w3.ownsRow wr.heap.size 9 1 u x.length (x.map str)) →
      w'.ownsRow w1.heap.size 22 1 v' (xss.length + us.length) (vs ++ us) → (w3.alloc o).grownBy w' v.ownBlock → GRel w1 v' (xss ++ ys) w' := by
  obtain ⟨vs, h1, h2, h3⟩ := h.g
  refine ⟨vs, h1, h2, fun ys us w3 w' v' o hl hb hu ho hg => ⟨?_, ?_⟩⟩
  · exact Grid.pushes h1 (own_below h2 hb) (fun i u x ha hx => own_below (h3 i u x ha hx) hb) hl (fun i u x ha hx => ownsRow_le (hu i u x ha hx) h.b.size) ho hg
  · have s := hb.size
    have s0 := h.b.size
    exact ((h.b.trans (hb.mono s0)).alloc (by omega) o).grown hg (by simp; omega) (fun g hg' => (((own_below h2 hb).alloc o).lt g hg').1)
/-- A row of two texts, just made. -/
theorem row_two (w : World) (x y : Bs) : (w.alloc (.cells #[str x, str y] 9)).ownsRow w.heap.size 9 1 (.slice (some ⟨w.heap.size, 0, none⟩) 2 2) 2 [str x, str y] :=
  ⟨rfl, .inr ⟨w.heap.size, 2, #[str x, str y], rfl, Nat.le_refl _, heap_alloc_new w _, Nat.le_refl _, by decide, rfl, rfl⟩⟩
theorem one_us {u : Value} {x : List Bs} {w3 : World} {B : Nat} (h : w3.ownsRow B 9 1 u x.length (x.map str)) :
    ∀ (i : Nat) (a : Value) (y : List Bs), [u][i]? = some a → [x][i]? = some y → w3.ownsRow B 9 1 a y.length (y.map str) := by
  intro i a y ha hy
  rcases i with _ | i
  · simp at ha hy; subst ha; subst hy; exact h
  · simp at ha
theorem two_us {u u' : Value} {x x' : List Bs} {w3 : World} {B : Nat} (h : w3.ownsRow B 9 1 u x.length (x.map str)) (h' : w3.ownsRow B 9 1 u' x'.length (x'.map str)) :
    ∀ (i : Nat) (a : Value) (y : List Bs), [u, u'][i]? = some a → [x, x'][i]? = some y → w3.ownsRow B 9 1 a y.length (y.map str) := by
  intro i a y ha hy
  rcases i with _ | _ | i
  · simp at ha hy; subst ha; subst hy; exact h
  · simp at ha hy; subst ha; subst hy; exact h'
  · simp at ha

theorem grownBy_drew {w w' : World} {r : Option Nat} (h : w.drew.grownBy w' r) : w.grownBy w' r := by
  constructor
  · exact h.os
  · exact h.tape
  · exact h.output
  · exact h.size
  · exact h.block
/-- Two literal lines, whichever was made first, and the slice of both. -/
theorem lits_a (wr : World) (a b c d : Bs) (L : Obj) : Below wr.heap.size wr ((wr.alloc (.cells #[str a, str b] 9)).alloc (.cells #[str c, str d] 9)) ∧
    ((wr.alloc (.cells #[str a, str b] 9)).alloc (.cells #[str c, str d] 9)).ownsRow wr.heap.size 9 1 (.slice (some ⟨wr.heap.size, 0, none⟩) 2 2) 2 [str a, str b] ∧
    ((wr.alloc (.cells #[str a, str b] 9)).alloc (.cells #[str c, str d] 9)).ownsRow wr.heap.size 9 1 (.slice (some ⟨wr.heap.size + 1, 0, none⟩) 2 2) 2 [str c, str d] ∧
    (((wr.alloc (.cells #[str a, str b] 9)).alloc (.cells #[str c, str d] 9)).alloc L).heap[wr.heap.size + 1 + 1]? = some L := by
  refine ⟨((Below.refl _ _).alloc (Nat.le_refl _) _).alloc (by simp) _, (row_two wr a b).alloc _, ?_, ?_⟩
  · have := row_two (wr.alloc (.cells #[str a, str b] 9)) c d
    rw [World.size_alloc] at this
    exact ownsRow_le this (by omega)
  · have := heap_alloc_new ((wr.alloc (.cells #[str a, str b] 9)).alloc (.cells #[str c, str d] 9)) L
    rw [World.size_alloc, World.size_alloc] at this
    exact this
theorem lits_news {W : World} {B : Nat} {u v : Value} {t : TypeId} (h : W.heap[B]? = some (.cells #[u, v] t (0, 0))) : ∀ j x, [u, v][j]? = some x → W.drew.cell? ((⟨B, 0, none⟩ : Addr).add j) = some x :=
  World.news_of_block (w := W.drew) h

def tyLines (ts : List Bs) : List (List Bs) := ts.map (fun t => [kType, t])
theorem tyLines_next {ts : List Bs} {k : Nat} {t : Bs} (h : ts[k]? = some t) : tyLines (ts.take (k + 1)) = tyLines (ts.take k) ++ [[kType, t]] := by
  obtain ⟨hlt, rfl⟩ := List.getElem?_eq_some_iff.1 h
  unfold tyLines; rw [List.take_succ_eq_append_getElem hlt, List.map_append]; rfl
theorem tyLines_len {ts : List Bs} {k : Nat} (h : k ≤ ts.length) : (tyLines (ts.take k)).length = k := by simp [tyLines, h]

def PrintPost (w : World) (r : Bs × Nat) (e : Ending) (w' : World) : Prop := e = .returned (.tuple #[str r.1, .int .i64 r.2]) ∧ Below w.heap.size w w'
theorem mayP_b (v : Value) (p : PProg) (b : Bool) (w : World) (h : ProgAt w v p) (hs : OkP p) (ho : HasO w) (hb : mayP p = b) : Calls Tryz.prog 19 #[v] w (AggPost w (.bool b)) := by
  subst hb; exact mayP_any v p w h hs ho

theorem mayP_parts {p : PProg} (h : mayP p = true) : p.types.all typeL = true ∧ p.code.length ≤ 200 ∧ p.code.all rightL = true := by
  unfold mayP at h
  simp only [Bool.and_eq_true, decide_eq_true_eq] at h
  exact ⟨h.1.1, h.1.2.2, h.2⟩
theorem code_next {p : PProg} {k : Nat} {i : PIns} (h : p.code[k]? = some i) : tyLines p.types ++ [[kLocals, orL p.locals], [kGlobals, orL p.globs]] ++ (p.code.take (k + 1)).map wordsI =
    tyLines p.types ++ [[kLocals, orL p.locals], [kGlobals, orL p.globs]] ++ (p.code.take k).map wordsI ++ [wordsI i] := by
  obtain ⟨hlt, rfl⟩ := List.getElem?_eq_some_iff.1 h
  rw [List.take_succ_eq_append_getElem hlt, List.map_append]; simp
theorem code_len (p : PProg) {k : Nat} (h : k ≤ p.code.length) : (tyLines p.types ++ [[kLocals, orL p.locals], [kGlobals, orL p.globs]] ++ (p.code.take k).map wordsI).length = p.types.length + 2 + k := by
  simp [tyLines, h]; omega
theorem lines_all (p : PProg) : tyLines p.types ++ [[kLocals, orL p.locals], [kGlobals, orL p.globs]] ++ (p.code.take p.code.length).map wordsI = linesP p := by
  rw [List.take_length]; unfold linesP tyLines; simp
theorem wordsI_len {i : PIns} (_h : rightL i = true) : (wordsI i).length ≤ 4 := by
  unfold wordsI
  rcases hb : byOpL i.op with _ | o
  · simp
  · obtain ⟨_, _, _, _, _, _, _, _, hh⟩ := ops_cases (byOp_mem hb).1
    simp only [List.mem_cons, List.not_mem_nil, or_false] at hh
    rcases hh with hh | hh | hh | hh | hh | hh | hh <;> simp [hh]
theorem lines_short {p : PProg} (h : mayP p = true) (_hs : OkP p) : ∀ x ∈ linesP p, x.length ≤ 140737488355328 := by
  intro x hx
  unfold linesP at hx
  simp only [List.mem_append, List.mem_map, List.mem_cons, List.not_mem_nil, or_false] at hx
  rcases hx with ⟨t, _, rfl⟩ | ⟨rfl | rfl⟩ | ⟨i, hi, rfl⟩
  · simp
  · simp
  · simp
  · have := wordsI_len (List.all_eq_true.1 (mayP_parts h).2.2 i hi); omega

set_option maxRecDepth 100000 in
set_option maxHeartbeats 1000000 in
theorem print_bad (v : Value) (p : PProg) (w : World) (h : ProgAt w v p) (hs : OkP p) (ho : HasO w) (hm : mayP p = false) : Calls Tryz.prog 7 #[v] w (PrintPost w ([], 2)) := by
  obtain ⟨vt, vc, rfl, ht, hc⟩ := h
  have hwb : Below w.heap.size w (w.alloc (.cells (progC vt p vc) 25)) := (Below.refl _ _).alloc (Nat.le_refl _) _
  have HM : Hid (Calls Tryz.prog 19 #[.agg (progC vt p vc)] (w.alloc (.cells (progC vt p vc) 25)) (AggPost (w.alloc (.cells (progC vt p vc) 25)) (.bool false))) :=
    Lib.hid (mayP_b _ p false _ ⟨vt, vc, rfl, ht.below hwb, hc.below hwb⟩ hs (ho.below hwb) hm)
  have HW := Lib.hid hwb
  clear ht hc hs ho hm hwb
  go_enter Tryz.func7, Tryz.ntmps7
  go_wp2_with (first
    | (refine wpList_loadB rfl 25 _ rfl w.heap.size (progC vt p vc) rfl 25 (blk_new _ _ _) _ Tryz.underlying25 rfl prog_info ?_)
    | (go_at_call 19; refine HM.out.mono ?_; rintro e w1 ⟨rfl, hb1⟩))
  go_ret2
  exact ⟨rfl, HW.out.trans (hb1.mono (by simp))⟩

set_option maxRecDepth 100000 in
set_option maxHeartbeats 2000000 in
theorem print_ok (v : Value) (p : PProg) (w : World) (h : ProgAt w v p) (hs : OkP p) (ho : HasO w) (htab : HasT w) (hm : mayP p = true) (hlen : p.types.length ≤ 1000) (hjl : (joinL (linesP p)).length ≤ 140737488355328) :
    Calls Tryz.prog 7 #[v] w (PrintPost w (joinL (linesP p), 0)) := by
  obtain ⟨vt, vc, rfl, ht, hc⟩ := h
  have hwb : Below w.heap.size w (w.alloc (.cells (progC vt p vc) 25)) := (Below.refl _ _).alloc (Nat.le_refl _) _
  have HM : Hid (Calls Tryz.prog 19 #[.agg (progC vt p vc)] (w.alloc (.cells (progC vt p vc) 25)) (AggPost (w.alloc (.cells (progC vt p vc) 25)) (.bool true))) :=
    Lib.hid (mayP_b _ p true _ ⟨vt, vc, rfl, ht.below hwb, hc.below hwb⟩ hs (ho.below hwb) hm)
  have HWB := Lib.hid hwb
  obtain ⟨a, c, rfl, h1, h2, h3⟩ := (ht.below hwb).elems
  obtain ⟨a', c', rfl, g1, g2, g3⟩ := hc.below hwb
  obtain ⟨i22, q0, q1, q2, q3⟩ := info_parts Tryz.info22
  have HT := Lib.hid h3
  have HI := Lib.hid g3
  have HP := Lib.hid hs
  have HO := Lib.hid (ho.below hwb)
  have HTab := Lib.hid (htab.below hwb)
  have HMP := Lib.hid hm
  have HJ := Lib.hid hjl
  clear ho htab ht hc h3 g3 hs hwb hm hjl
  unfold maxLen at h2 g2
  go_enter Tryz.func7, Tryz.ntmps7
  go_wp2_with (first
    | (refine wpList_loadB rfl 25 _ rfl w.heap.size (progC (.slice a p.types.length c) p (.slice a' p.code.length c')) rfl 25 (blk_new _ _ _) _ Tryz.underlying25 rfl prog_info ?_)
    | (go_at_call 19; refine HM.out.mono ?_; rintro e w1 ⟨rfl, hb1⟩; have KB := Lib.hid (blk_below (blk_new _ _ _) hb1); have kc0 := blk_cell KB.out 0 _ rfl; have s1 := hb1.size; rw [World.size_alloc] at s1; have HB1 := Lib.hid hb1; clear hb1))
  have HS := Lib.hid (gRel_start w1)
  go_loopw [4, 15] (fun v i wr => ∃ k : Nat, k ≤ p.types.length ∧ i = .int .i64 k ∧ GRel w1 v (tyLines (p.types.take k)) wr) (fun _ i _ => p.types.length - (intOf i).toNat)
  case atStart => exact ⟨0, Nat.zero_le _, rfl, HS.out⟩
  case round =>
    obtain ⟨k, hk, rfl, hr⟩ := hrel
    clear HS HM kc0
    have HR := Lib.hid hr
    have hrs := hr.b.size
    obtain ⟨vs, e1, e2, e3⟩ := hr.step
    have E2 := Lib.hid e2
    have E3 := Lib.hid e3
    clear hr e2 e3
    by_cases hlt : k < p.types.length
    · obtain ⟨t, hx⟩ : ∃ t, p.types[k]? = some t := ⟨_, List.getElem?_eq_getElem hlt⟩
      obtain ⟨b, o, rfl, hb, hcell⟩ := HT.out k t hx
      have hcx : wr.cell? ⟨b, o + k, none⟩ = some (str t) := by
        rw [(bcell HR.out.b).1 b _ (by rw [World.size_alloc] at hb; omega), (bcell HB1.out).1 b _ hb]; exact hcell
      have hn := tyLines_next hx
      have hl := tyLines_len (ts := p.types) (k := k) (by omega)
      clear hcell
      have HN := Lib.hid hn
      clear hn hx
      generalize tyLines (p.types.take k) = xss at *
      have HC1 := Lib.hid (one_cell (wr.alloc (.cells #[str kType, str t] 9)) (.slice (some ⟨wr.heap.size, 0, none⟩) 2 2) 22)
      rw [World.size_alloc] at HC1
      go_wp2_with (at_builtin; refine wpList_append_own _ rfl _ _ 57 rfl w1.heap.size 22 i22 (.slice none 0 0) 1 24 Tryz.underlying57 q0 q1 q2 q3 rfl (by decide) _ _ _ rfl ((E2.out.alloc _).alloc _) ⟨wr.heap.size + 1, 0, none⟩ 1 1 [.slice (some ⟨wr.heap.size, 0, none⟩) 2 2] rfl rfl ?c1 ?c2 ?c3 ?c4 ?c5 ?_)
      case c1 => exact HC1.out
      case c2 => intro u hu; simp at hu; subst hu; rfl
      case c3 => unfold maxLen; omega
      case c4 => omega
      case c5 => simp; omega
      intro v' w' ho' hg _
      have HNX := Lib.hid (E3.out [[kType, t]] _ _ w' v' _ rfl ((Below.refl _ _).alloc (Nat.le_refl _) _) (one_us (row_two wr kType t)) (by rw [hl]; exact ho') hg)
      clear ho' hg
      go_wp2
      go_roundw
      case rel => exact ⟨k + 1, by omega, by go_num, by rw [HN.out]; exact HNX.out⟩
      case measure => simp [intOf]; omega
    · obtain rfl : k = p.types.length := by omega
      have kw := Lib.hid (blk_below KB.out HR.out.b)
      have kc1 := blk_cell kw.out 1 _ rfl
      have kc2 := blk_cell kw.out 2 _ rfl
      have HE2 := Lib.hid e1
      have kc3 : ∀ o : Obj, (wr.alloc o).drew.cell? ⟨w.heap.size, 2, none⟩ = some (str p.globs) := fun o => blk_cell (blk_alloc kw.out o) 2 _ rfl
      clear e1
      go_wp2_with fail
      have hl := tyLines_len (ts := p.types) (k := p.types.length) (Nat.le_refl _)
      have HL := Lib.hid hl
      have EA := Lib.hid (lits_a wr kLocals (orL p.locals) kGlobals (orL p.globs))
      have EB := Lib.hid (lits_a wr kGlobals (orL p.globs) kLocals (orL p.locals))
      have H63 := Lib.hid (show p.types.length + 2 ≤ maxLen by unfold maxLen; omega)
      clear hl
      go_cut [4] from 25 (fun v4 wx => GRel w1 v4 (tyLines p.types ++ [[kLocals, orL p.locals], [kGlobals, orL p.globs]]) wx)
      case first =>
        go_region_law (first
          | (go_simp; go_at_call 20; ((with_reducible refine (written_l p.locals _).mono ?_); rintro e w' ⟨rfl, rfl⟩))
          | (go_simp; go_at_call 20; ((with_reducible refine (written_l p.globs _).mono ?_); rintro e w' ⟨rfl, rfl⟩))
          | (refine step_append_lies _ (by rfl) _ _ _ (by rfl) w1.heap.size 22 i22 (.slice none 0 0) 1 24 Tryz.underlying57 q0 q1 q2 q3 rfl (by omega) u4 p.types.length vs (by rfl) (by rw [← HL.out]; exact ((E2.out.alloc _).alloc _).alloc _) ⟨wr.heap.size + 1 + 1, 0, none⟩ 2 2 [.slice (some ⟨wr.heap.size, 0, none⟩) 2 2, .slice (some ⟨wr.heap.size + 1, 0, none⟩) 2 2] (by rfl) (by rfl) (lits_news (EA.out _).2.2.2) (by intro u hu; simp at hu; rcases hu with rfl | rfl <;> rfl) (by omega) H63.out (by omega) (by simp; omega) _ rfl ?_; intro gg cp w4 hown4 hgr4 _ _; have HN4 := Lib.hid (E3.out [[kLocals, orL p.locals], [kGlobals, orL p.globs]] _ _ w4 _ _ rfl (EA.out (.map #[] 0)).1 (two_us (EA.out (.map #[] 0)).2.1 (EA.out (.map #[] 0)).2.2.1) (by rw [HL.out]; exact hown4) (grownBy_drew hgr4)); clear hown4 hgr4)
          | (refine step_append_lies _ (by rfl) _ _ _ (by rfl) w1.heap.size 22 i22 (.slice none 0 0) 1 24 Tryz.underlying57 q0 q1 q2 q3 rfl (by omega) u4 p.types.length vs (by rfl) (by rw [← HL.out]; exact ((E2.out.alloc _).alloc _).alloc _) ⟨wr.heap.size + 1 + 1, 0, none⟩ 2 2 [.slice (some ⟨wr.heap.size + 1, 0, none⟩) 2 2, .slice (some ⟨wr.heap.size, 0, none⟩) 2 2] (by rfl) (by rfl) (lits_news (EB.out _).2.2.2) (by intro u hu; simp at hu; rcases hu with rfl | rfl <;> rfl) (by omega) H63.out (by omega) (by simp; omega) _ rfl ?_; intro gg cp w4 hown4 hgr4 _ _; have HN4 := Lib.hid (E3.out [[kLocals, orL p.locals], [kGlobals, orL p.globs]] _ _ w4 _ _ rfl (EB.out (.map #[] 0)).1 (two_us (EB.out (.map #[] 0)).2.2.1 (EB.out (.map #[] 0)).2.1) (by rw [HL.out]; exact hown4) (grownBy_drew hgr4)); clear hown4 hgr4))
        all_goals (go_wp2_with fail; go_meet; have HN5 := HN4.out; rw [List.take_length] at HN5; exact HN5)
      case rest =>
        clear E2 E3 EA EB H63 HE2 kc1 kc2 kc3 HR HL hrs kw
        have hr4 := Lib.hid hcut
        clear hcut
        have kw2 := Lib.hid (blk_below KB.out hr4.out.b)
        have kc4 := blk_cell kw2.out 3 _ rfl
        go_wp2
        clear kc4
        go_loopw [4, 39] (fun v i wr => ∃ k : Nat, k ≤ p.code.length ∧ i = .int .i64 k ∧ GRel w1 v (tyLines p.types ++ [[kLocals, orL p.locals], [kGlobals, orL p.globs]] ++ (p.code.take k).map wordsI) wr) (fun _ i _ => p.code.length - (intOf i).toNat)
        case atStart => exact ⟨0, Nat.zero_le _, rfl, by simpa using hr4.out⟩
        case round =>
          obtain ⟨k, hk, rfl, hr⟩ := hrel
          clear hr4 kw2
          have HR := Lib.hid hr
          have hrs := hr.b.size
          obtain ⟨vs, e1, e2, e3⟩ := hr.step
          have E2 := Lib.hid e2
          have E3 := Lib.hid e3
          clear hr e2 e3
          by_cases hlt : k < p.code.length
          · obtain ⟨i, hi⟩ : ∃ i, p.code[k]? = some i := ⟨_, List.getElem?_eq_getElem hlt⟩
            obtain ⟨b, o, rfl, hb, hcell⟩ := HI.out k i hi
            have hbw : b < w1.heap.size := by rw [World.size_alloc] at hb; omega
            have hrg := Lib.hid (rangeAt_below (rangeAt_below hcell hb HB1.out) hbw HR.out.b)
            have hri := List.all_eq_true.1 (mayP_parts HMP.out).2.2 i (List.mem_of_getElem? hi)
            have hW : Below w1.heap.size w1 (wr.alloc (.cells (insC i) 60)) := HR.out.b.alloc hrs _
            have HWD := Lib.hid (insWords_any i (wr.alloc (.cells (insC i) 60)) ((HO.out.below HB1.out).below hW) ((HTab.out.below HB1.out).below hW) (HP.out.ins i (List.mem_of_getElem? hi)) hri)
            have HNX0 := Lib.hid (code_next (p := p) hi)
            have HLN := Lib.hid (code_len p (k := k) (by omega))
            have hle := (mayP_parts HMP.out).2.1
            clear hcell hb hri hW hi
            generalize tyLines p.types ++ [[kLocals, orL p.locals], [kGlobals, orL p.globs]] ++ (p.code.take k).map wordsI = xss at *
            have hx1 := HLN.out
            go_wp2_with (first
              | (refine wpList_load_mid rfl 60 _ rfl b (o + k * 5) rfl (insC i).toList _ hrg.out Tryz.underlying60 rfl ins_info ?_)
              | (go_at_call 21; refine HWD.out.mono ?_; rintro e w3 ⟨a3, c3, rfl, ho3, hb3⟩; have hsz3 := hb3.size; rw [World.size_alloc] at hsz3; have HO3 := Lib.hid ho3; have HB3 := Lib.hid hb3; clear ho3 hb3)
              | (at_builtin; refine wpList_append_own _ rfl _ _ 57 rfl w1.heap.size 22 i22 (.slice none 0 0) 1 24 Tryz.underlying57 q0 q1 q2 q3 rfl (by decide) _ _ _ rfl ((own_below (E2.out.alloc (.cells (insC i) 60)) HB3.out).alloc _) ⟨w3.heap.size, 0, none⟩ 1 1 [.slice a3 (wordsI i).length c3] rfl rfl ?c1 ?c2 ?c3 ?c4 ?c5 ?_))
            case c1 => exact one_cell w3 _ _
            case c2 => intro u hu; simp at hu; subst hu; rfl
            case c3 => unfold maxLen; omega
            case c4 => omega
            case c5 => simp; omega
            intro v' w' ho' hg _
            have HB4 := HB3.out
            rw [World.size_alloc] at HB4
            have hown3 := HO3.out
            rw [World.size_alloc] at hown3
            have HNX := Lib.hid (E3.out [wordsI i] _ w3 w' v' _ rfl (((Below.refl _ _).alloc (Nat.le_refl _) _).trans (HB4.mono (by omega))) (one_us (ownsRow_le hown3 (by omega))) (by rw [HLN.out]; exact ho') hg)
            clear ho' hg HB4 hown3
            go_wp2
            go_roundw
            case rel => exact ⟨k + 1, by omega, by go_num, by rw [HNX0.out]; exact HNX.out⟩
            case measure => simp [intOf]; omega
          · obtain rfl : k = p.code.length := by omega
            have hg := HR.out.g.at
            rw [lines_all p] at hg
            have HJO := Lib.hid (join_any _ (linesP p) wr hg HJ.out (lines_short HMP.out HP.out))
            clear hg E2 E3
            go_wp2_with (go_at_call 22; refine HJO.out.mono ?_; rintro e w5 ⟨rfl, hb5⟩)
            go_ret2
            refine ⟨rfl, ?_⟩
            have b1 := HWB.out
            have b2 := HB1.out
            rw [World.size_alloc] at b2
            exact ((b1.trans (b2.mono (by omega))).trans (HR.out.b.mono (by omega))).trans (hb5.mono (by omega))
end Go.Proofs.YtcjhgibhenocpaaGreatDoor

/- The contract of alive: answers that the document fixes. -/
namespace Go.Proofs.YtcjhgibhenocpaaGreatDoor
set_option linter.unusedSimpArgs false
set_option linter.unusedVariables false
open Go.RowKit

/-- What a world has that all calls want. -/
structure HasAll (w : World) : Prop where
  m : HasM w
  e : HasE w
  t : HasT w
  o : HasO w
theorem HasAll.below {w w' : World} (h : HasAll w) (hb : Below w.heap.size w w') : HasAll w' := ⟨h.m.below hb, h.e.below hb, h.t.below hb, h.o.below hb⟩

theorem put_new (w : World) (cs : Array Value) : Below w.heap.size w (putB (w.alloc (.cells zeroP 25)) w.heap.size cs 25) := ((Below.refl _ _).alloc (Nat.le_refl _) _).trans (putB_below _ (Nat.le_refl _) _ _)
end Go.Proofs.YtcjhgibhenocpaaGreatDoor

/- The contract of Few; what it means of a program that may be printed. -/
namespace Go.Proofs.YtcjhgibhenocpaaGreatDoor
set_option linter.unusedSimpArgs false
set_option linter.unusedVariables false
open Go.RowKit

theorem w64 (n : Int) (h : -9223372036854775808 ≤ n ∧ n ≤ 9223372036854775807) : wrap64 n = n := by unfold wrap64; omega
/-- The sum as the machine has it. -/
def wsum (x : Int) : List Bs → Int
  | [] => x
  | t :: r => wsum (wrap64 (x + wrap64 ((t.length : Int) + 1))) r
def fewP (p : PProg) : Bool := decide (wsum (wrap64 ((p.locals.length : Int) + p.globs.length)) p.types ≤ 500) && decide (p.code.length ≤ 210)
theorem wsum_snoc (x : Int) (ts : List Bs) (t : Bs) : wsum x (ts ++ [t]) = wrap64 (wsum x ts + wrap64 ((t.length : Int) + 1)) := by
  induction ts generalizing x with
  | nil => rfl
  | cons a r ih => exact ih _

set_option maxRecDepth 100000 in
set_option maxHeartbeats 1000000 in
theorem few_any (v : Value) (p : PProg) (w : World) (h : ProgAt w v p) (hs : OkP p) : Calls Tryz.prog 17 #[v] w (AggPost w (.bool (fewP p))) := by
  obtain ⟨vt, vc, rfl, ht, hc⟩ := h
  have hwb : Below w.heap.size w (w.alloc (.cells (progC vt p vc) 25)) := (Below.refl _ _).alloc (Nat.le_refl _) _
  obtain ⟨a, c, rfl, h1, h2, h3⟩ := (ht.below hwb).elems
  obtain ⟨a', c', rfl, g1, g2, g3⟩ := hc.below hwb
  have HT := Lib.hid h3
  have HP := Lib.hid hs
  have hlo := hs.lo
  have hgl := hs.gl
  clear h3 g3 hs ht hc
  unfold maxLen at h2 g2 hlo hgl
  go_enter Tryz.func17, Tryz.ntmps17
  go_wp2
  go_loop [3, 16] (fun v i => ∃ k : Nat, k ≤ p.types.length ∧ i = .int .i64 k ∧ v = .int .i64 (wsum (wrap64 ((p.locals.length : Int) + p.globs.length)) (p.types.take k))) (fun _ i => p.types.length - (intOf i).toNat)
  case atStart => exact ⟨0, Nat.zero_le _, rfl, rfl⟩
  case round =>
    obtain ⟨k, hk, rfl, rfl⟩ := hrel
    by_cases hlt : k < p.types.length
    · obtain ⟨t, hx⟩ : ∃ t, p.types[k]? = some t := ⟨_, List.getElem?_eq_getElem hlt⟩
      obtain ⟨b, o, rfl, hb, hcell⟩ := HT.out k t hx
      have hl := HP.out.ty t (List.mem_of_getElem? hx)
      have hn : wsum (wrap64 ((p.locals.length : Int) + p.globs.length)) (p.types.take (k + 1)) = wrap64 (wsum (wrap64 ((p.locals.length : Int) + p.globs.length)) (p.types.take k) + wrap64 ((t.length : Int) + 1)) := by
        obtain ⟨h1, rfl⟩ := List.getElem?_eq_some_iff.1 hx
        rw [List.take_succ_eq_append_getElem h1, wsum_snoc]
      have HN := Lib.hid hn
      clear hn hx
      generalize wsum (wrap64 ((p.locals.length : Int) + p.globs.length)) (p.types.take k) = z at *
      unfold maxLen at hl
      go_wp2
      go_round
      case rel => exact ⟨k + 1, by omega, by go_num, by rw [HN.out]⟩
      case measure => simp [intOf]; omega
    · obtain rfl : k = p.types.length := by omega
      rw [List.take_length]
      have HF : Hid (fewP p = (decide (wsum (wrap64 ((p.locals.length : Int) + p.globs.length)) p.types ≤ 500) && decide (p.code.length ≤ 210))) := Lib.hid rfl
      generalize wsum (wrap64 ((p.locals.length : Int) + p.globs.length)) p.types = z at *
      by_cases hz : z ≤ 500
      · by_cases hc : p.code.length ≤ 210
        · go_wp2
          go_ret
          exact ⟨ret_bool (by rw [HF.out]; simp [hz]; omega), hwb⟩
        · go_wp2
          go_ret
          exact ⟨ret_bool (by rw [HF.out]; simp [hz]; omega), hwb⟩
      · go_wp2
        go_ret
        exact ⟨ret_bool (by rw [HF.out, decide_eq_false (by omega)]; rfl), hwb⟩
theorem few_b (v : Value) (p : PProg) (b : Bool) (w : World) (h : ProgAt w v p) (hs : OkP p) (hb : fewP p = b) : Calls Tryz.prog 17 #[v] w (AggPost w (.bool b)) := by
  subst hb; exact few_any v p w h hs

/-! ### A program that may be printed, and is small -/
def sumT (ts : List Bs) : Nat := (ts.map fun t => t.length + 1).sum
theorem sumT_cons (t : Bs) (r : List Bs) : sumT (t :: r) = t.length + 1 + sumT r := by simp [sumT]
theorem wsum_sum : ∀ (ts : List Bs) (x : Nat), (∀ t ∈ ts, t.length ≤ 30) → x + 31 * ts.length ≤ 9223372036854775807 → wsum (x : Int) ts = (x + sumT ts : Nat)
  | [], x, _, _ => by simp [wsum, sumT]
  | t :: r, x, h, hx => by
    have ht := h t (by simp)
    simp only [List.length_cons] at hx
    unfold wsum
    rw [w64 ((t.length : Int) + 1) (by omega), w64 _ (by omega)]
    have := wsum_sum r (x + (t.length + 1)) (fun y hy => h y (by simp [hy])) (by omega)
    rw [show (x : Int) + ((t.length : Int) + 1) = ((x + (t.length + 1) : Nat) : Int) by omega, this, sumT_cons]
    omega
theorem areL_len {s : Bs} (h : areL s = true) : s.length ≤ 30 := by
  unfold areL at h
  exact of_decide_eq_true (Bool.and_eq_true_iff.1 h).1
theorem typeL_parts {t : Bs} (h : typeL t = true) : t ≠ [] ∧ areL t = true := by
  unfold typeL at h
  simp only [Bool.and_eq_true, Bool.not_eq_true'] at h
  exact ⟨by intro e; subst e; simp at h, h.2⟩
theorem mayP_all {p : PProg} (h : mayP p = true) : (∀ t ∈ p.types, t ≠ [] ∧ areL t = true) ∧ areL p.locals = true ∧ areL p.globs = true ∧ p.code.length ≤ 200 ∧ ∀ i ∈ p.code, rightL i = true := by
  unfold mayP at h
  simp only [Bool.and_eq_true, decide_eq_true_eq] at h
  exact ⟨fun t ht => typeL_parts (List.all_eq_true.1 h.1.1 t ht), h.1.2.1.1, h.1.2.1.2, h.1.2.2, List.all_eq_true.1 h.2⟩
/-- What 'few' says of a program that may be printed. -/
theorem few_sum {p : PProg} (h : mayP p = true) (hf : fewP p = true) (hlen : p.types.length ≤ 8796093022208) : p.locals.length + p.globs.length + sumT p.types ≤ 500 := by
  obtain ⟨h1, h2, h3, _, _⟩ := mayP_all h
  have hl := areL_len h2
  have hg := areL_len h3
  unfold fewP at hf
  simp only [Bool.and_eq_true, decide_eq_true_eq] at hf
  have := hf.1
  rw [w64 _ (by omega), show (p.locals.length : Int) + p.globs.length = ((p.locals.length + p.globs.length : Nat) : Int) by omega, wsum_sum p.types _ (fun t ht => areL_len (h1 t ht).2) (by omega)] at this
  omega
theorem sumT_two {ts : List Bs} (h : ∀ t ∈ ts, t ≠ []) : 2 * ts.length ≤ sumT ts := by
  induction ts with
  | nil => simp
  | cons t r ih =>
    have h1 := ih (fun y hy => h y (by simp [hy]))
    have h2 : 1 ≤ t.length := by
      have := h t (by simp)
      rcases t with _ | _
      · exact absurd rfl this
      · simp
    rw [sumT_cons, List.length_cons]; omega

/-! ### How long the text is -/
theorem itoa_len {v : Int} (h0 : -9223372036854775808 ≤ v) (h1 : v ≤ 9223372036854775807) : (Lib.itoa v).length ≤ 20 := by
  have h := num_itoa v h0 h1
  have hd := h.2
  rcases Nat.lt_or_ge 19 (trimL (Lib.itoa v)).length with hl | hl
  · have := num_long hd hl
    rw [h.1] at this
    exact absurd (Prod.mk.inj this).2 (by decide)
  · have : (Lib.itoa v).length ≤ (trimL (Lib.itoa v)).length + 1 := by
      unfold trimL
      cases Lib.itoa v with
      | nil => simp
      | cons c r => simp only; split <;> simp
    omega
theorem joinL_app (a b : List (List Bs)) : joinL (a ++ b) = joinL a ++ joinL b := by unfold joinL; simp
theorem join_le (x : List Bs) (hx : x ≠ []) : (Lib.join x [32] ++ [10]).length ≤ lens1 x := by
  have := join_len x
  have h1 : 1 ≤ lens1 x := by
    rcases x with _ | ⟨a, r⟩
    · exact absurd rfl hx
    · rw [lens1_cons]; omega
  rw [List.length_append]
  simp; omega
theorem joinL_one (x : List Bs) : joinL [x] = Lib.join x [32] ++ [10] := by simp [joinL]
theorem joinL_cons' (x : List Bs) (G : List (List Bs)) : joinL (x :: G) = (Lib.join x [32] ++ [10]) ++ joinL G := by simp [joinL]
theorem ty_len : ∀ ts : List Bs, (joinL (ts.map fun t => [kType, t])).length ≤ sumT ts + 5 * ts.length
  | [] => by simp [joinL]
  | t :: r => by
    have ih := ty_len r
    have h1 := join_le [kType, t] (by simp)
    rw [lens1_cons, lens1_cons] at h1
    rw [List.map_cons, joinL_cons', List.length_append, sumT_cons, List.length_cons]
    have e : kType.length = 4 := rfl
    have e2 : lens1 [] = 0 := rfl
    omega
theorem words_le {i : PIns} (ho : OkI i) (h : rightL i = true) : lens1 (wordsI i) ≤ 70 := by
  unfold rightL at h
  rcases hb : byOpL i.op with _ | o
  · rw [hb] at h; cases h
  · obtain ⟨_, _, _, _, hm, _, _, _, hh⟩ := ops_cases (byOp_mem hb).1
    have hnm : o.2.1.length ≤ 6 := by
      have := (byOp_mem hb).1
      simp only [OPS, List.mem_cons, List.not_mem_nil, or_false] at this
      rcases this with rfl | rfl | rfl | rfl | rfl | rfl | rfl | rfl | rfl | rfl | rfl | rfl | rfl | rfl | rfl <;> decide
    unfold wordsI
    rw [hb]
    simp only
    obtain ⟨x, a, b, c, n⟩ := i
    obtain ⟨o0, o1, a0, a1, b0, b1, c0, c1, n0, n1⟩ := ho
    simp only at *
    have fa : (Lib.itoa a).length ≤ 20 := itoa_len (by omega) (by omega)
    have fb : (Lib.itoa b).length ≤ 20 := itoa_len (by omega) (by omega)
    have fc : (Lib.itoa c).length ≤ 20 := itoa_len (by omega) (by omega)
    have fn : (Lib.itoa n).length ≤ 20 := itoa_len n0 n1
    simp only [List.mem_cons, List.not_mem_nil, or_false] at hh
    have e2 : lens1 [] = 0 := rfl
    rcases hh with hh | hh | hh | hh | hh | hh | hh <;> (rw [hh]; simp [lens1_cons, partL, e2]; omega)
theorem code_len2 : ∀ c : List PIns, (∀ i ∈ c, OkI i) → (∀ i ∈ c, rightL i = true) → (joinL (c.map wordsI)).length ≤ 70 * c.length
  | [], _, _ => by simp [joinL]
  | i :: r, h1, h2 => by
    have ih := code_len2 r (fun j hj => h1 j (by simp [hj])) (fun j hj => h2 j (by simp [hj]))
    have hw := words_le (h1 i (by simp)) (h2 i (by simp))
    have h3 := join_le (wordsI i) (by unfold wordsI; split <;> simp)
    rw [List.map_cons, joinL_cons', List.length_append, List.length_cons]
    omega
theorem orL_len (s : Bs) : (orL s).length ≤ s.length + 1 := by unfold orL; split <;> simp
theorem text_len {p : PProg} (hs : OkP p) (h : mayP p = true) : (joinL (linesP p)).length ≤ sumT p.types + 5 * p.types.length + (p.locals.length + p.globs.length + 19) + 70 * p.code.length := by
  obtain ⟨_, _, _, _, h5⟩ := mayP_all h
  unfold linesP
  rw [joinL_app, joinL_app, List.length_append, List.length_append, joinL_cons', joinL_one, List.length_append]
  have h1 := ty_len p.types
  have h2 := code_len2 p.code hs.ins h5
  have h3 := join_le [kLocals, orL p.locals] (by simp)
  have h4 := join_le [kGlobals, orL p.globs] (by simp)
  rw [lens1_cons, lens1_cons] at h3 h4
  have e : kLocals.length = 6 := rfl
  have e3 : kGlobals.length = 7 := rfl
  have e2 : lens1 [] = 0 := rfl
  have := orL_len p.locals
  have := orL_len p.globs
  omega
/-- A small program's text is short. -/
theorem text_short {p : PProg} (hs : OkP p) (h : mayP p = true) (hf : fewP p = true) (hlen : p.types.length ≤ 8796093022208) : (joinL (linesP p)).length ≤ 20000 ∧ p.types.length ≤ 250 := by
  have h1 := few_sum h hf hlen
  obtain ⟨h2, _, _, h4, _⟩ := mayP_all h
  have h3 := sumT_two (fun t ht => (h2 t ht).1)
  have := text_len hs h
  omega
end Go.Proofs.YtcjhgibhenocpaaGreatDoor
