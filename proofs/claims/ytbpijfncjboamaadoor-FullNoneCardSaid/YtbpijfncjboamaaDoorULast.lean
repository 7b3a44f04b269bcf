/-
  The document's passes and Last.
-/
import Derived.Test.YtbpijfncjboamaaDoorUPu
import Derived.Test.YtbpijfncjboamaaDoorMNam
import Derived.Test.YtbpijfncjboamaaDoorQMem
import Derived.Test.YtbpijfncjboamaaDoorFLU
import Derived.Deep.LoopGhost
import Derived.Deep.RegionHeld3
import Derived.Deep.CutRange
import Derived.Deep.CutBlock
import Derived.Deep.QuietTactic
namespace Go.Proofs.YtbpijfncjboamaaDoor
set_option linter.unusedSimpArgs false
set_option linter.unusedVariables false
open Go.RowKit

set_option maxRecDepth 100000 in
set_option maxHeartbeats 4000000 in
theorem rpass_at (op ia b c n a : Int) (w W0 : World) (r : Bool) (hW0 : W0 = w.alloc (.cells (insC ⟨op, ia, b, c, n⟩) 39)) (HB : Hid (Below w.heap.size w W0)) (HI : Hid (blk W0 w.heap.size (insC ⟨op, ia, b, c, n⟩) 39))
    (hc : ((op == 1) = true ∧ r = true) ∨ ((op == 1) = false ∧ (op == 2) = true ∧ r = true) ∨ ((op == 1) = false ∧ (op == 2) = false ∧ (op == 14) = true ∧ r = true) ∨ ((op == 1) = false ∧ (op == 2) = false ∧ (op == 14) = false ∧ (op == 15) = true ∧ r = true) ∨
      ((op == 1) = false ∧ (op == 2) = false ∧ (op == 14) = false ∧ (op == 15) = false ∧ (op == 6) = true ∧ (ia != a) = r) ∨ ((op == 1) = false ∧ (op == 2) = false ∧ (op == 14) = false ∧ (op == 15) = false ∧ (op == 6) = false ∧ (op == 7) = true ∧ (ia != a) = r) ∨
      ((op == 1) = false ∧ (op == 2) = false ∧ (op == 14) = false ∧ (op == 15) = false ∧ (op == 6) = false ∧ (op == 7) = false ∧ r = false)) :
    Calls Tryd.prog 19 #[.agg (insC ⟨op, ia, b, c, n⟩), .int .u8 a] w (AggPost w (.bool r)) := by
  have c0 : W0.cell? ⟨w.heap.size, 0, none⟩ = some (.int .u8 op) := blk_cell HI.out 0 _ rfl
  have c1 : W0.cell? ⟨w.heap.size, 1, none⟩ = some (.int .u8 ia) := blk_cell HI.out 1 _ rfl
  go_enter Tryd.func19, Tryd.ntmps19
  go_upto_region 1 with (fail)
  rw [← hW0]
  clear hW0
  rcases hc with ⟨h1, rfl⟩ | ⟨h1, h2, rfl⟩ | ⟨h1, h2, h3, rfl⟩ | ⟨h1, h2, h3, h4, rfl⟩ | ⟨h1, h2, h3, h4, h5, h6⟩ | ⟨h1, h2, h3, h4, h5, h6, h7⟩ | ⟨h1, h2, h3, h4, h5, h6, rfl⟩
  all_goals
    go_wp2
    go_ret
    exact ⟨rfl, HB.out⟩
theorem rpass_n (i : PIns) (a : Int) (w : World) : Calls Tryd.prog 19 #[.agg (insC i), .int .u8 a] w (AggPost w (.bool (passI i a))) := by
  obtain ⟨op, ia, b, c, n⟩ := i
  refine rpass_at op ia b c n a w _ _ rfl (Lib.hid ((Below.refl _ _).alloc (Nat.le_refl _) _)) (Lib.hid (blk_new _ _ _)) ?_
  unfold passI
  by_cases h1 : op = 1
  · exact .inl ⟨by simpa using h1, by simp [h1]⟩
  have q1 : (op == 1) = false := by simpa using h1
  by_cases h2 : op = 2
  · exact .inr (.inl ⟨q1, by simpa using h2, by simp [h2]⟩)
  have q2 : (op == 2) = false := by simpa using h2
  by_cases h3 : op = 14
  · exact .inr (.inr (.inl ⟨q1, q2, by simpa using h3, by simp [h3]⟩))
  have q3 : (op == 14) = false := by simpa using h3
  by_cases h4 : op = 15
  · exact .inr (.inr (.inr (.inl ⟨q1, q2, q3, by simpa using h4, by simp [h4]⟩)))
  have q4 : (op == 15) = false := by simpa using h4
  by_cases h5 : op = 6
  · exact .inr (.inr (.inr (.inr (.inl ⟨q1, q2, q3, q4, by simpa using h5, by simp [h5]; rfl⟩))))
  have q5 : (op == 6) = false := by simpa using h5
  by_cases h6 : op = 7
  · exact .inr (.inr (.inr (.inr (.inr (.inl ⟨q1, q2, q3, q4, q5, by simpa using h6, by simp [h6]; rfl⟩)))))
  · exact .inr (.inr (.inr (.inr (.inr (.inr ⟨q1, q2, q3, q4, q5, by simpa using h6, by simp [h1, h2, h3, h4, h5, h6]⟩)))))
abbrev fArr (l : List Bool) : Array Value := (l.map Value.bool).toArray
theorem fArr_get {l : List Bool} {k : Nat} (h : k < l.length) : (fArr l)[k]? = some (.bool (l.getD k false)) := by
  have e : l[k]? = some (l.getD k false) := by rw [List.getD_eq_getElem?_getD, List.getElem?_eq_getElem h]; rfl
  show ((l.map Value.bool).toArray)[k]? = _
  rw [List.getElem?_toArray, List.getElem?_map, e]; rfl
theorem fArr_set (l : List Bool) (k : Nat) (v : Bool) : (fArr l).setIfInBounds k (.bool v) = fArr (l.set k v) := by simp
/-- The world in Last. -/
structure LfW (w wr : World) (D : Nat) (C : Array Value) (had : List Bool) : Prop where
  below : Below w.heap.size w wr
  prog : blk wr w.heap.size C 25
  hd : blk wr D (fArr had) 47
  hD : w.heap.size < D
theorem LfW.next {w wr w' : World} {D : Nat} {C : Array Value} {had : List Bool} (h : LfW w wr D C had) (hb : Below wr.heap.size wr w') : LfW w w' D C had :=
  ⟨h.below.trans (hb.mono h.below.size), blk_below h.prog hb, blk_below h.hd hb, h.hD⟩
theorem LfW.mark {w wr : World} {D : Nat} {C : Array Value} {had : List Bool} (h : LfW w wr D C had) (n : Nat) : LfW w (wr.setCell ⟨D, n, none⟩ (.bool true)) D C (had.set n true) := by
  have hD := h.hD
  rw [setCell_putB h.hd, fArr_set]
  exact ⟨h.below.trans (putB_below _ (by omega) _ _), by unfold blk; rw [putB_ne _ (by omega)]; exact h.prog, putB_at h.hd _ _, h.hD⟩
theorem goF_cons (a left : Int) (had : List Bool) (i : PIns) (r : List PIns) (k : Nat) : goF a left had (i :: r) k =
    if putsI i a = true then
      (if (if had.getD i.n.toNat false = true then left else left - 1) = 0 then (k : Int) else goF a (if had.getD i.n.toNat false = true then left else left - 1) (had.set i.n.toNat true) r (k + 1))
    else if passI i a = true then goF a left had r (k + 1) else -1 := rfl
theorem drop_at {l : List PIns} {m : Nat} {i : PIns} (h : l[m]? = some i) : l.drop m = i :: l.drop (m + 1) := by
  obtain ⟨hlt, rfl⟩ := List.getElem?_eq_some_iff.1 h
  exact List.drop_eq_getElem_cons hlt
set_option maxRecDepth 100000 in
set_option maxHeartbeats 8000000 in
theorem rlast_go (w W0 : World) (p : PProg) (vt' : Value) (bb o k' k : Nat) (a S lt R : Int)
    (hW0 : W0 = w.alloc (.cells (progC vt' p (.slice (some ⟨bb, o, none⟩) p.code.length k')) 25)) (HS : Hid (Below w.heap.size w W0)) (KP : Hid (blk W0 w.heap.size (progC vt' p (.slice (some ⟨bb, o, none⟩) p.code.length k')) 25))
    (hlen : p.code.length ≤ 200) (hk : k < p.code.length) (g1 : p.code.length ≤ k') (g2 : k' ≤ 9223372036854775807) (hS0 : 0 ≤ S) (hS6 : S ≤ 6) (hbb : bb < w.heap.size)
    (HCO : Hid (∀ m i, p.code[m]? = some i → w.rangeAt bb (o + m * 5) (insC i).toList))
    (H6 : Hid (∀ i ∈ p.code, putsI i a = true → 0 ≤ i.n ∧ i.n < 6))
    (HK5 : Hid (∃ b c n, p.code[k]? = some ⟨5, a, b, c, n⟩))
    (HLO : Hid (∀ w1, Below w.heap.size w w1 → Calls Tryd.prog 15 #[.agg #[vt', str p.locals, str p.globs, .slice (some ⟨bb, o, none⟩) p.code.length k'], .int .u8 a] w1 (AggPost w1 (.int .i64 lt))))
    (HSZ : Hid (∀ w1, Below w.heap.size w w1 → Calls Tryd.prog 14 #[vt', .int .i64 lt] w1 fun e w' => e = .returned (.int .i64 S) ∧ w1 = w'))
    (HPS : Hid (∀ i w1, Calls Tryd.prog 19 #[.agg (insC i), .int .u8 a] w1 (AggPost w1 (.bool (passI i a)))))
    (hvt : ∃ xt nt kt, vt' = .slice xt nt kt) (HR : Hid (goF a S nought6 (p.code.drop (k + 1)) (k + 1) = R)) :
    Calls Tryd.prog 10 #[.agg (progC vt' p (.slice (some ⟨bb, o, none⟩) p.code.length k')), .int .i64 k] w (AggPost w (.int .i64 R)) := by
  obtain ⟨b5, c5, n5, hi5⟩ := HK5.out
  have hr5 := rangeAt_below (HCO.out k _ hi5) hbb HS.out
  have d0 : W0.cell? ⟨bb, o + k * 5, none⟩ = some (.int .u8 5) := hr5 0 _ rfl
  have d1 : W0.cell? ⟨bb, o + k * 5 + 1, none⟩ = some (.int .u8 a) := hr5 1 _ rfl
  have hki : (k : Int) < (p.code.length : Int) := by omega
  have hkn : ¬ ((p.code.length : Int) ≤ (k : Int)) := by omega
  have hk0 : (0 : Int) ≤ (k : Int) := by omega
  have HFA : Hid (∀ w', blk w' w.heap.size (progC vt' p (.slice (some ⟨bb, o, none⟩) p.code.length k')) 25 → w'.cell? ⟨w.heap.size, 0, none⟩ = some vt' ∧ w'.cell? ⟨w.heap.size, 1, none⟩ = some (str p.locals) ∧ w'.cell? ⟨w.heap.size, 2, none⟩ = some (str p.globs) ∧ w'.cell? ⟨w.heap.size, 3, none⟩ = some (.slice (some ⟨bb, o, none⟩) p.code.length k')) := Lib.hid fun w' hq => ⟨blk_cell hq 0 _ rfl, blk_cell hq 1 _ rfl, blk_cell hq 2 _ rfl, blk_cell hq 3 _ rfl⟩
  obtain ⟨p0, p1, p2, p3⟩ := HFA.out _ KP.out
  clear hi5 hr5 HK5
  go_enter Tryd.func10, Tryd.ntmps10
  go_upto_region 1 with (fail)
  rw [← hW0]
  clear hW0
  go_upto_region 4 with (fail)
  clear d0 d1
  have HS := Lib.hid (HS.out.drew)
  have KP := Lib.hid (blk_below KP.out (Below.refl _ _).drew)
  go_region_held3 (fun w' => w'.cell? ⟨w.heap.size, 0, none⟩ = some vt' ∧ w'.cell? ⟨w.heap.size, 1, none⟩ = some (str p.locals) ∧ w'.cell? ⟨w.heap.size, 2, none⟩ = some (str p.globs) ∧ w'.cell? ⟨w.heap.size, 3, none⟩ = some (.slice (some ⟨bb, o, none⟩) p.code.length k')) (go_keep) (first
    | (go_at_call 15; ((with_reducible refine (HLO.out _ HS.out).mono ?_); rintro e w2 ⟨rfl, hb⟩; have HS := Lib.hid (HS.out.trans (hb.mono HS.out.size)); have KP := Lib.hid (blk_below KP.out hb); clear hb p0 p1 p2 p3; obtain ⟨p0, p1, p2, p3⟩ := HFA.out _ KP.out))
    | (go_at_call 14; ((with_reducible refine (HSZ.out _ HS.out).mono ?_); rintro e w3 ⟨rfl, rfl⟩)))
  all_goals
    clear p0 p1 p2 HLO HSZ
    go_upto_region 6 with (fail)
    have hab : Below w2.heap.size w2 (w2.alloc (.cells (fArr nought6) 47)) := (Below.refl _ _).alloc (Nat.le_refl _) _
    have HW0 : Hid (LfW w (w2.alloc (.cells (fArr nought6) 47)) w2.heap.size (progC vt' p (.slice (some ⟨bb, o, none⟩) p.code.length k')) nought6) := Lib.hid ⟨HS.out.trans (hab.mono HS.out.size), blk_below KP.out hab, blk_new _ _ _, blk_lt KP.out⟩
    obtain ⟨D, hD⟩ : ∃ D, D = w2.heap.size := ⟨_, rfl⟩
    obtain ⟨wb, hwb⟩ : ∃ wb, wb = w2.alloc (.cells (fArr nought6) 47) := ⟨_, rfl⟩
    have hwb' : wb = w2.alloc (.cells #[.bool false, .bool false, .bool false, .bool false, .bool false, .bool false] 47) := hwb
    rw [← hwb] at HW0
    rw [← hwb']
    rw [← hD] at HW0 ⊢
    clear hab hwb hwb' hD KP HS p3
    go_wp2_with (fail)
    go_loopw [6, 8] (fun v6 v8 wr => ∃ (m : Nat) (left : Int) (had : List Bool), k + 1 ≤ m ∧ m ≤ p.code.length ∧ v6 = .int .i64 left ∧ v8 = .int .i64 m ∧ Hid (LfW w wr D (progC vt' p (.slice (some ⟨bb, o, none⟩) p.code.length k')) had) ∧ Hid (had.length = 6 ∧ left = S - (cnt had : Int)) ∧ Hid (goF a left had (p.code.drop m) m = R)) (fun _ v8 _ => p.code.length - (intOf v8).toNat)
    case atStart => exact ⟨k + 1, S, nought6, Nat.le_refl _, by omega, rfl, by go_num, HW0, Lib.hid ⟨rfl, by simp [nought6, cnt]⟩, HR⟩
    case round =>
      obtain ⟨m, left, had, hkm, hm, rfl, rfl, HW, HL, HG⟩ := hrel
      have p3 : wr.cell? ⟨w.heap.size, 3, none⟩ = some (.slice (some ⟨bb, o, none⟩) p.code.length k') := (HFA.out _ HW.out.prog).2.2.2
      by_cases hml : m < p.code.length
      · have hmi : (m : Int) < (p.code.length : Int) := by omega
        have hm0 : (0 : Int) ≤ (m : Int) := by omega
        obtain ⟨i, hi⟩ : ∃ i, p.code[m]? = some i := ⟨_, List.getElem?_eq_getElem hml⟩
        have hr := rangeAt_below (HCO.out m i hi) hbb HW.out.below
        have HG2 : Hid (goF a left had (i :: p.code.drop (m + 1)) m = R) := Lib.hid (by rw [← drop_at hi]; exact HG.out)
        have h6i := H6.out i (List.mem_of_getElem? hi)
        have HPI := Lib.hid (HPS.out i)
        have hc6 := cnt_max had
        have hlb : -6 ≤ left ∧ left ≤ 6 := by have := HL.out.1; have := HL.out.2; omega
        obtain ⟨op, ia, b, c, n⟩ := i
        obtain ⟨d0, d1, d2, d3, d4⟩ : (wr.cell? ⟨bb, o + m * 5, none⟩ = some (.int .u8 op)) ∧ wr.cell? ⟨bb, o + m * 5 + 1, none⟩ = some (.int .u8 ia) ∧ wr.cell? ⟨bb, o + m * 5 + 2, none⟩ = some (.int .u8 b) ∧ wr.cell? ⟨bb, o + m * 5 + 3, none⟩ = some (.int .u8 c) ∧ wr.cell? ⟨bb, o + m * 5 + 4, none⟩ = some (.int .i64 n) := ⟨hr 0 _ rfl, hr 1 _ rfl, hr 2 _ rfl, hr 3 _ rfl, hr 4 _ rfl⟩
        clear hr hi HG hc6
        go_upto_region 10 with (fail)
        have hab : Below wr.heap.size wr (wr.alloc (.cells (insC ⟨op, ia, b, c, n⟩) 39)) := (Below.refl _ _).alloc (Nat.le_refl _) _
        have HWA := Lib.hid (HW.out.next hab)
        have HI : Hid (blk (wr.alloc (.cells (insC ⟨op, ia, b, c, n⟩) 39)) wr.heap.size (insC ⟨op, ia, b, c, n⟩) 39) := Lib.hid (blk_new _ _ _)
        obtain ⟨I, hI⟩ : ∃ I, I = wr.heap.size := ⟨_, rfl⟩
        obtain ⟨wa, hwa⟩ : ∃ wa, wa = wr.alloc (.cells (insC ⟨op, ia, b, c, n⟩) 39) := ⟨_, rfl⟩
        rw [← hwa] at HWA HI ⊢
        rw [← hI] at HI ⊢
        clear hab hwa hI d0 d1 d2 d3 d4 p3 HW
        have HW := HWA
        clear HWA
        have c0 : wa.cell? ⟨I, 0, none⟩ = some (.int .u8 op) := blk_cell HI.out 0 _ rfl
        have c1 : wa.cell? ⟨I, 1, none⟩ = some (.int .u8 ia) := blk_cell HI.out 1 _ rfl
        have c4 : wa.cell? ⟨I, 4, none⟩ = some (.int .i64 n) := blk_cell HI.out 4 _ rfl
        by_cases hp : putsI ⟨op, ia, b, c, n⟩ a = true
        · obtain ⟨hn0, hn6⟩ := h6i hp
          simp only at hn0 hn6
          obtain ⟨nn, rfl⟩ : ∃ nn : Nat, n = nn := ⟨n.toNat, by omega⟩
          obtain ⟨ho, hia⟩ := puts_iff.1 hp
          simp only at ho hia
          subst hia
          have HGE : Hid ((if (if had.getD nn false = true then left else left - 1) = 0 then (m : Int) else goF ia (if had.getD nn false = true then left else left - 1) (had.set nn true) (p.code.drop (m + 1)) (m + 1)) = R) := Lib.hid (by
            have h9 := HG2.out
            rw [goF_cons, if_pos hp] at h9
            simpa using h9)
          have hnl : nn < had.length := by have := HL.out.1; omega
          have HL2 : Hid ((had.set nn true).length = 6 ∧ (if had.getD nn false = true then left else left - 1) = S - (cnt (had.set nn true) : Int)) := Lib.hid ⟨by rw [List.length_set]; exact HL.out.1, by
            rw [cnt_set hnl]
            have := HL.out.2
            split <;> (simp; omega)⟩
          have ch := blk_cell HW.out.hd nn _ (fArr_get hnl)
          have fh := blk_frozen HW.out.hd nn
          have HW2 := Lib.hid (HW.out.mark nn)
          clear HG2 hp h6i HPI HL HW H6 HPS HCO
          rcases hg : had.getD nn false with _ | _
          · rw [hg] at ch HGE HL2
            have HL3 : Hid ((had.set nn true).length = 6 ∧ left - 1 = S - (cnt (had.set nn true) : Int)) := Lib.hid (by simpa using HL2.out)
            clear HL2 hg
            by_cases h0 : left = 1
            · have HX : Hid ((m : Int) = R) := Lib.hid (by have h9 := HGE.out; rw [if_pos (by simp; omega)] at h9; exact h9)
              subst h0
              clear HGE HL3
              rcases ho with rfl | rfl
              all_goals
                go_wp2
                go_ret
                exact ⟨congrArg (fun z : Int => Ending.returned (.int .i64 z)) HX.out, HW2.out.below⟩
            · have HX : Hid (goF ia (left - 1) (had.set nn true) (p.code.drop (m + 1)) (m + 1) = R) := Lib.hid (by have h9 := HGE.out; rw [if_neg (by simp; omega)] at h9; simpa using h9)
              have e0 : (left - 1 == 0) = false := by simp; omega
              clear HGE
              rcases ho with rfl | rfl
              all_goals
                go_wp2
                go_roundw
                case rel => exact ⟨m + 1, left - 1, _, by omega, by omega, by go_num, by go_num, HW2, HL3, HX⟩
                case measure => simp [intOf]; omega
          · rw [hg] at ch HGE HL2
            have HL3 : Hid ((had.set nn true).length = 6 ∧ left = S - (cnt (had.set nn true) : Int)) := Lib.hid (by simpa using HL2.out)
            clear HL2 hg
            by_cases h0 : left = 0
            · have HX : Hid ((m : Int) = R) := Lib.hid (by have h9 := HGE.out; rw [if_pos (by simp; omega)] at h9; exact h9)
              subst h0
              clear HGE HL3
              rcases ho with rfl | rfl
              all_goals
                go_wp2
                go_ret
                exact ⟨congrArg (fun z : Int => Ending.returned (.int .i64 z)) HX.out, HW2.out.below⟩
            · have HX : Hid (goF ia left (had.set nn true) (p.code.drop (m + 1)) (m + 1) = R) := Lib.hid (by have h9 := HGE.out; rw [if_neg (by simp; omega)] at h9; simpa using h9)
              have e0 : (left == 0) = false := by simp; omega
              clear HGE
              rcases ho with rfl | rfl
              all_goals
                go_wp2
                go_roundw
                case rel => exact ⟨m + 1, left, _, by omega, by omega, rfl, by go_num, HW2, HL3, HX⟩
                case measure => simp [intOf]; omega
        · have HGE : Hid ((if passI ⟨op, ia, b, c, n⟩ a = true then goF a left had (p.code.drop (m + 1)) (m + 1) else -1) = R) := Lib.hid (by
            have h9 := HG2.out
            rw [goF_cons, if_neg hp] at h9
            exact h9)
          have hc : ((op == 9) = true ∧ (ia == a) = false) ∨ ((op == 9) = false ∧ (op == 11) = true ∧ (ia == a) = false) ∨ ((op == 9) = false ∧ (op == 11) = false) := by
            rw [puts_iff] at hp
            simp only at hp
            by_cases h9 : op = 9
            · exact .inl ⟨by simpa using h9, by simp; intro h; exact hp ⟨.inl h9, h⟩⟩
            · by_cases h11 : op = 11
              · exact .inr (.inl ⟨by simpa using h9, by simpa using h11, by simp; intro h; exact hp ⟨.inr h11, h⟩⟩)
              · exact .inr (.inr ⟨by simpa using h9, by simpa using h11⟩)
          clear HG2 hp h6i H6 HCO HPS
          rcases hps : passI ⟨op, ia, b, c, n⟩ a with _ | _
          · have HX : Hid ((-1 : Int) = R) := Lib.hid (by have h9 := HGE.out; rw [hps] at h9; simpa using h9)
            rw [hps] at HPI
            clear HGE hps
            rcases hc with ⟨q1, q2⟩ | ⟨q1, q2, q3⟩ | ⟨q1, q2⟩
            all_goals
              go_wp2_with (first
                | (refine wpList_loadBw (by rfl) 39 _ rfl I (insC ⟨op, ia, b, c, n⟩) rfl 39 HI.out _ Tryd.underlying39 rfl ins_info ?_)
                | (go_at_call 19; ((with_reducible refine (HPI.out _).mono ?_); rintro e w5 ⟨rfl, hb⟩; have HW := Lib.hid (HW.out.next hb); clear hb)))
              go_ret
              exact ⟨congrArg (fun z : Int => Ending.returned (.int .i64 z)) HX.out, HW.out.below⟩
          · have HX : Hid (goF a left had (p.code.drop (m + 1)) (m + 1) = R) := Lib.hid (by have h9 := HGE.out; rw [hps] at h9; simpa using h9)
            rw [hps] at HPI
            clear HGE hps
            rcases hc with ⟨q1, q2⟩ | ⟨q1, q2, q3⟩ | ⟨q1, q2⟩
            all_goals
              go_wp2_with (first
                | (refine wpList_loadBw (by rfl) 39 _ rfl I (insC ⟨op, ia, b, c, n⟩) rfl 39 HI.out _ Tryd.underlying39 rfl ins_info ?_)
                | (go_at_call 19; ((with_reducible refine (HPI.out _).mono ?_); rintro e w5 ⟨rfl, hb⟩; have HW := Lib.hid (HW.out.next hb); clear hb)))
              go_roundw
              case rel => exact ⟨m + 1, left, had, by omega, by omega, rfl, by go_num, HW, HL, HX⟩
              case measure => simp [intOf]; omega
      · have hme : m = p.code.length := by omega
        have HX : Hid ((-1 : Int) = R) := Lib.hid (by
          have h9 := HG.out
          rw [hme, List.drop_length] at h9
          exact h9)
        have hmn : ¬ ((m : Int) < (p.code.length : Int)) := by omega
        clear hme HG HL
        go_wp2
        go_ret
        exact ⟨congrArg (fun z : Int => Ending.returned (.int .i64 z)) HX.out, HW.out.below⟩
set_option maxRecDepth 100000 in
set_option maxHeartbeats 4000000 in
theorem rlast_bad (w W0 : World) (p : PProg) (vt' : Value) (x' : Option Addr) (k' : Nat) (k : Int)
    (hW0 : W0 = w.alloc (.cells (progC vt' p (.slice x' p.code.length k')) 25)) (HS : Hid (Below w.heap.size w W0)) (KP : Hid (blk W0 w.heap.size (progC vt' p (.slice x' p.code.length k')) 25))
    (hk : k < 0 ∨ (0 ≤ k ∧ (p.code.length : Int) ≤ k)) :
    Calls Tryd.prog 10 #[.agg (progC vt' p (.slice x' p.code.length k')), .int .i64 k] w (AggPost w (.int .i64 (-1))) := by
  have p3 := blk_cell KP.out 3 _ rfl
  rcases hk with hk | ⟨h0, hk⟩
  all_goals
    go_enter Tryd.func10, Tryd.ntmps10
    go_upto_region 1 with (fail)
    rw [← hW0]
    clear hW0
    go_wp2
    go_ret
    exact ⟨rfl, HS.out⟩
set_option maxRecDepth 100000 in
set_option maxHeartbeats 4000000 in
theorem rlast_no (w W0 : World) (p : PProg) (vt' : Value) (bb o k' k : Nat) (op : Int)
    (hW0 : W0 = w.alloc (.cells (progC vt' p (.slice (some ⟨bb, o, none⟩) p.code.length k')) 25)) (HS : Hid (Below w.heap.size w W0)) (KP : Hid (blk W0 w.heap.size (progC vt' p (.slice (some ⟨bb, o, none⟩) p.code.length k')) 25))
    (hk : k < p.code.length) (g1 : p.code.length ≤ k') (g2 : k' ≤ 9223372036854775807) (d0 : W0.cell? ⟨bb, o + k * 5, none⟩ = some (.int .u8 op)) (h5 : (op != 5) = true) :
    Calls Tryd.prog 10 #[.agg (progC vt' p (.slice (some ⟨bb, o, none⟩) p.code.length k')), .int .i64 k] w (AggPost w (.int .i64 (-1))) := by
  have p3 := blk_cell KP.out 3 _ rfl
  have hki : (k : Int) < (p.code.length : Int) := by omega
  have hkn : ¬ ((p.code.length : Int) ≤ (k : Int)) := by omega
  have hk0 : (0 : Int) ≤ (k : Int) := by omega
  go_enter Tryd.func10, Tryd.ntmps10
  go_upto_region 1 with (fail)
  rw [← hW0]
  clear hW0
  go_wp2
  go_ret
  exact ⟨rfl, HS.out⟩
theorem rlast_n (v : Value) (p : PProg) (w : World) (k : Int) (h : ProgAt w v p) (hs : OkP p) (hc : (checkL p).2 = 0) : Calls Tryd.prog 10 #[v, .int .i64 k] w (AggPost w (.int .i64 (lastV p k))) := by
  obtain ⟨vt', vc, rfl, htl, hcc⟩ := id h
  obtain ⟨x', kx', rfl, g1, g2, g3⟩ := id hcc
  unfold maxLen at g2
  have hwb : Below w.heap.size w (w.alloc (.cells (progC vt' p (.slice x' p.code.length kx')) 25)) := (Below.refl _ _).alloc (Nat.le_refl _) _
  have hlen := (check_ok hc).2.2.1
  by_cases hk : k < 0 ∨ (p.code.length : Int) ≤ k
  · rw [lastV_none hk]
    exact rlast_bad w _ p vt' x' kx' k rfl (Lib.hid hwb) (Lib.hid (blk_new _ _ _)) (by omega)
  · obtain ⟨kn, rfl⟩ : ∃ kn : Nat, k = kn := ⟨k.toNat, by omega⟩
    have hi : p.code[kn]? = some (p.code[kn]'(by omega)) := List.getElem?_eq_getElem (by omega)
    generalize p.code[kn]'(by omega) = i at hi
    obtain ⟨bb, o, rfl, hbb, hrng⟩ := g3 kn i hi
    rw [lastV_nat (by omega)]
    by_cases h5 : i.op = 5
    · have hm := List.mem_of_getElem? hi
      obtain ⟨o0, o1, a0, a1, -⟩ := hs.ins i hm
      have hh := (check_ok hc).1
      have hS := sizeI_le (ts := tsP p.types) (t := localI p i.a)
      refine rlast_go w _ p vt' bb o kx' kn i.a (sizeP p.types (localI p i.a)) (localI p i.a) _ rfl (Lib.hid hwb) (Lib.hid (blk_new _ _ _)) (by omega) (by omega) g1 (by omega) hS.1 hS.2 hbb (Lib.hid fun m j hj => ?_) (Lib.hid fun j hj hp => by have := puts_six hc hs.ins hj hp; omega) (Lib.hid ⟨i.b, i.c, i.n, by rw [hi, ← h5]⟩)
        (Lib.hid fun w1 hb => rlocal_n _ p i.a _ w1 (h.below hb) hs (by have := (head_parts hh).2.2.1; omega) a0 a1 rfl) (Lib.hid fun w1 hb => rsize_n _ (tsP p.types) (localI p i.a) _ w1 (ts_of (htl.below hb) hs.ty) (Lib.hid rfl)) (Lib.hid fun j w1 => rpass_n j i.a w1) ?_ (Lib.hid (lastL_at hi h5).symm)
      · obtain ⟨b2, o2, e2, -, h2⟩ := g3 m j hj
        cases e2
        exact h2
      · obtain ⟨x, c, rfl, -, -, -⟩ := id htl.elems
        exact ⟨_, _, _, rfl⟩
    · rw [lastL_no hi h5]
      exact rlast_no w _ p vt' bb o kx' kn i.op rfl (Lib.hid hwb) (Lib.hid (blk_new _ _ _)) (by omega) g1 (by omega) (rangeAt_below hrng hbb hwb 0 _ rfl) (by simpa using h5)
end Go.Proofs.YtbpijfncjboamaaDoor
