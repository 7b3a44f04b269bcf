/-
  CheckNeeds: the walk.
-/
import Derived.Test.YtclkccbihnccgaaDoorHLaw2
import Derived.Laws.AppendOwnNone
import Derived.Handy
namespace Go.Proofs.YtclkccbihnccgaaDoor
open Go.RowKit

theorem infoS : (Tryd.prog.info? 9).map (fun i => (i.zero, i.size, i.bytes)) = some (some (.string ByteArray.empty), 1, 16) := by kernel_rfl
theorem strs_one (xs : List Bs) : ∀ u ∈ xs.map str, u.oneCell' = true := by
  intro u h
  obtain ⟨x, _, rfl⟩ := List.mem_map.1 h
  rfl
theorem row_cells {w : World} {b o n c : Nat} {cs : List Value} (h : RowAt w (.slice (some ⟨b, o, none⟩) n c) cs) : ∀ j u, cs[j]? = some u → w.cell? ((⟨b, o, none⟩ : Addr).add j) = some u := by
  intro j u hu
  obtain ⟨a', c', e1, _, _, e2⟩ := h
  rcases e2 with e2 | ⟨b', o', rfl, _, hc⟩
  · rw [e2] at hu; simp at hu
  · simp only [Value.slice.injEq, Option.some.injEq, Addr.mk.injEq] at e1
    obtain ⟨⟨rfl, rfl, _⟩, _⟩ := e1
    have e0 : (⟨b, o, none⟩ : Addr).add j = ⟨b, o + j, none⟩ := by
      unfold Addr.add
      by_cases h : j = 0 <;> simp [h]
    rw [e0]; exact hc j u hu
theorem one_row (w : World) (u : Value) (e : TypeId) : ∀ j x, [u][j]? = some x → (w.alloc (.cells #[u] e)).cell? ((⟨w.heap.size, 0, none⟩ : Addr).add j) = some x := by
  intro j x h
  have hj : j < 1 := (List.getElem?_eq_some_iff.1 h).1
  obtain rfl : j = 0 := by omega
  obtain rfl : u = x := by simpa using h
  exact blk_cell (blk_new w #[u] e) 0 _ rfl
theorem set_ne {w : World} {Q g j i : Nat} {cs : Array Value} {t : TypeId} (h : blk w Q cs t) (hne : g ≠ Q) (u : Value) : (w.setCell ⟨Q, j, none⟩ u).cell? ⟨g, i, none⟩ = w.cell? ⟨g, i, none⟩ := by
  rw [setCell_putB h]
  simp only [World.cell?, putB_ne _ hne]
/-- The types of a program that lies in a block of its own are put anew. -/
theorem types_put {w : World} {Q B n : Nat} {vt vc v2 : Value} {p q : PProg} (h : blk w Q (progC vt p vc) 25) (hQ : Q < B) (h2 : w.ownsRow B 9 1 v2 n (q.types.map str)) (hc : InsRow (w.setCell ⟨Q, 0, none⟩ v2) vc q.code) (e1 : q.locals = p.locals) (e2 : q.globs = p.globs) : Keep (w.setCell ⟨Q, 0, none⟩ v2) Q v2 vc q := by
  refine ⟨?_, v2, vc, rfl, ?_, hc⟩
  · rw [setCell_putB h]
    have := putB_at h (progC v2 q vc) 25
    have e : (progC vt p vc).setIfInBounds 0 v2 = progC v2 q vc := by unfold progC; rw [e1, e2]; rfl
    rw [e]; exact this
  · have hr := RowAt.of_own h2
    rcases h2.2 with ⟨rfl, _⟩ | ⟨g, cap, cur, rfl, hB, _⟩
    · obtain ⟨a, c, e3, g1, g2, g3⟩ := hr
      simp only [Value.slice.injEq] at e3
      obtain ⟨rfl, e4, rfl⟩ := e3
      exact ⟨none, 0, by rw [← e4], by omega, by unfold maxLen; omega, .inl (List.length_eq_zero_iff.1 e4.symm)⟩
    · obtain ⟨a, c, e3, g1, g2, g3⟩ := hr
      simp only [Value.slice.injEq] at e3
      obtain ⟨rfl, e4, rfl⟩ := e3
      refine ⟨some ⟨g, 0, none⟩, cap, by rw [← e4], g1, g2, ?_⟩
      rcases g3 with g3 | ⟨b, o, e5, hlt, hcell⟩
      · exact .inl g3
      · simp only [Option.some.injEq, Addr.mk.injEq] at e5
        obtain ⟨rfl, rfl, _⟩ := e5
        refine .inr ⟨g, 0, rfl, by rw [setCell_putB h, putB_size]; exact hlt, fun j x hx => ?_⟩
        rw [set_ne h (by omega)]; exact hcell j x hx
def moreP (p : PProg) : PProg := { p with types := p.types ++ [ii] }
theorem more_ok {p : PProg} (h : OkP p) : OkP (moreP p) := ⟨fun t ht => by
  rcases List.mem_append.1 ht with ht | ht
  · exact h.ty t ht
  · simp at ht; subst ht; decide, h.lo, h.gl, h.ins⟩

theorem more_cells {W : World} {b : Nat} {vt vc : Value} {p : PProg} (h : Keep W b vt vc (moreP p)) : W.cell? ⟨b, 0, none⟩ = some vt ∧ W.cell? ⟨b, 1, none⟩ = some (str p.locals) ∧ W.cell? ⟨b, 2, none⟩ = some (str p.globs) ∧ W.cell? ⟨b, 3, none⟩ = some vc := h.cells
set_option maxRecDepth 100000 in
set_option maxHeartbeats 1000000 in
theorem needs_no (w W0 : World) (p : PProg) (z e : Int) (b : Bool) (x x' : Option Addr) (k k' : Nat)
    (hW0 : W0 = w.alloc (.cells #[.slice x p.types.length k, str p.locals, str p.globs, .slice x' p.code.length k'] 25))
    (KP : Hid (Keep W0 w.heap.size (.slice x p.types.length k) (.slice x' p.code.length k') p)) (HS : Hid (Below w.heap.size w W0)) (hk : p.types.length ≤ k) (hk2 : k ≤ 9223372036854775807)
    (HAL : Hid (∀ w1, Below W0.heap.size W0 w1 → Calls Tryd.prog 8 #[] w1 (AggPost w1 (.bool true))))
    (HF : Hid (∀ w1, Below W0.heap.size W0 w1 → Calls Tryd.prog 9 #[.agg #[.slice x p.types.length k, str p.locals, str p.globs, .slice x' p.code.length k']] w1 (AggPost w1 (.bool b))))
    (HC : Hid (∀ w1, Below W0.heap.size W0 w1 → Calls Tryd.prog 10 #[.agg #[.slice x p.types.length k, str p.locals, str p.globs, .slice x' p.code.length k']] w1 (ChkPost w1 z e)))
    (hno : Hid (b = false ∨ 8 ≤ p.types.length ∨ e ≠ 0)) :
    Calls Tryd.prog 7 #[.agg #[.slice x p.types.length k, str p.locals, str p.globs, .slice x' p.code.length k']] w (AggPost w (.bool true)) := by
  have HB := Lib.hid (Below.refl W0.heap.size W0)
  go_enter Tryd.func7, Tryd.ntmps7
  go_wp2_with (fail)
  rw [← hW0]
  clear hW0
  rcases b with _ | _
  · go_wp2_with (first
      | (refine wpList_loadB rfl 25 _ rfl w.heap.size (progC (.slice x p.types.length k) p (.slice x' p.code.length k')) rfl 25 KP.out.blk _ Tryd.underlying25 rfl prog_info ?_)
      | (go_at_call 8; refine (HAL.out _ HB.out).mono ?_; rintro e1 w1 ⟨rfl, hb⟩; have HB := Lib.hid (HB.out.trans (hb.mono HB.out.size)); have KP := Lib.hid (KP.out.below hb); clear hb)
      | (go_at_call 9; refine (HF.out _ HB.out).mono ?_; rintro e1 w1 ⟨rfl, hb⟩; have HB := Lib.hid (HB.out.trans (hb.mono HB.out.size)); clear hb))
    go_ret
    exact ⟨rfl, HS.out.trans (HB.out.mono HS.out.size)⟩
  by_cases h8 : 8 ≤ p.types.length
  · go_wp2_with (first
      | (refine wpList_loadB rfl 25 _ rfl w.heap.size (progC (.slice x p.types.length k) p (.slice x' p.code.length k')) rfl 25 KP.out.blk _ Tryd.underlying25 rfl prog_info ?_)
      | (go_at_call 8; refine (HAL.out _ HB.out).mono ?_; rintro e1 w1 ⟨rfl, hb⟩; have HB := Lib.hid (HB.out.trans (hb.mono HB.out.size)); have KP := Lib.hid (KP.out.below hb); clear hb)
      | (go_at_call 9; refine (HF.out _ HB.out).mono ?_; rintro e1 w1 ⟨rfl, hb⟩; have HB := Lib.hid (HB.out.trans (hb.mono HB.out.size)); have KP := Lib.hid (KP.out.below hb); clear hb; obtain ⟨p0, p1, p2, p3⟩ := KP.out.cells))
    go_ret
    exact ⟨rfl, HS.out.trans (HB.out.mono HS.out.size)⟩
  have he : e ≠ 0 := by
    rcases hno.out with h | h | h
    · cases h
    · omega
    · exact h
  have e1 : (e != 0) = true := by simp [he]
  clear he hno
  go_wp2_with (first
    | (refine wpList_loadB rfl 25 _ rfl w.heap.size (progC (.slice x p.types.length k) p (.slice x' p.code.length k')) rfl 25 KP.out.blk _ Tryd.underlying25 rfl prog_info ?_)
    | (go_at_call 8; refine (HAL.out _ HB.out).mono ?_; rintro e1 w1 ⟨rfl, hb⟩; have HB := Lib.hid (HB.out.trans (hb.mono HB.out.size)); have KP := Lib.hid (KP.out.below hb); clear hb)
    | (go_at_call 9; refine (HF.out _ HB.out).mono ?_; rintro e1 w1 ⟨rfl, hb⟩; have HB := Lib.hid (HB.out.trans (hb.mono HB.out.size)); have KP := Lib.hid (KP.out.below hb); clear hb; obtain ⟨p0, p1, p2, p3⟩ := KP.out.cells)
    | (go_at_call 10; refine (HC.out _ HB.out).mono ?_; rintro e1 w1 ⟨rfl, hb⟩; have HB := Lib.hid (HB.out.trans (hb.mono HB.out.size)); clear hb))
  go_ret
  exact ⟨rfl, HS.out.trans (HB.out.mono HS.out.size)⟩

set_option maxRecDepth 100000 in
set_option maxHeartbeats 2000000 in
theorem needs_ok (w W0 : World) (p : PProg) (nd nd2 : Int) (tb to : Nat) (x' : Option Addr) (k k' : Nat)
    (hW0 : W0 = w.alloc (.cells #[.slice (some ⟨tb, to, none⟩) p.types.length k, str p.locals, str p.globs, .slice x' p.code.length k'] 25))
    (KP : Hid (Keep W0 w.heap.size (.slice (some ⟨tb, to, none⟩) p.types.length k) (.slice x' p.code.length k') p)) (HS : Hid (Below w.heap.size w W0)) (hk : p.types.length ≤ k) (hk2 : k ≤ 9223372036854775807)
    (HAL : Hid (∀ w1, Below W0.heap.size W0 w1 → Calls Tryd.prog 8 #[] w1 (AggPost w1 (.bool true))))
    (HF : Hid (∀ w1, Below W0.heap.size W0 w1 → Calls Tryd.prog 9 #[.agg #[.slice (some ⟨tb, to, none⟩) p.types.length k, str p.locals, str p.globs, .slice x' p.code.length k']] w1 (AggPost w1 (.bool true))))
    (HC : Hid (∀ w1, Below W0.heap.size W0 w1 → Calls Tryd.prog 10 #[.agg #[.slice (some ⟨tb, to, none⟩) p.types.length k, str p.locals, str p.globs, .slice x' p.code.length k']] w1 (ChkPost w1 (-1) 0)))
    (HN : Hid (∀ w1, Below W0.heap.size W0 w1 → Calls Tryd.prog 13 #[.agg #[.slice (some ⟨tb, to, none⟩) p.types.length k, str p.locals, str p.globs, .slice x' p.code.length k']] w1 (AggPost w1 (.int .i64 nd))))
    (HC2 : Hid (∀ v w1, ProgAt w1 v (moreP p) → Below W0.heap.size W0 w1 → Calls Tryd.prog 10 #[v] w1 (ChkPost w1 (-1) 0)))
    (HN2 : Hid (∀ v w1, ProgAt w1 v (moreP p) → Below W0.heap.size W0 w1 → Calls Tryd.prog 13 #[v] w1 (AggPost w1 (.int .i64 nd2))))
    (HCO : Hid (InsRow W0 (.slice x' p.code.length k') p.code)) (HTY : Hid (RowAt W0 (.slice (some ⟨tb, to, none⟩) p.types.length k) (p.types.map str)))
    (h1 : 1 ≤ p.types.length) (h8 : p.types.length < 8) (hnd : nd2 = max nd 2) (n1 : 1 ≤ nd) (n2 : nd ≤ 6) :
    Calls Tryd.prog 7 #[.agg #[.slice (some ⟨tb, to, none⟩) p.types.length k, str p.locals, str p.globs, .slice x' p.code.length k']] w (AggPost w (.bool true)) := by
  have HB := Lib.hid (Below.refl W0.heap.size W0)
  have HND := Lib.hid hnd
  clear hnd
  have hwl := blk_lt KP.out.blk
  go_enter Tryd.func7, Tryd.ntmps7
  go_wp2_with (fail)
  rw [← hW0]
  clear hW0
  go_upto_region 9 with (first
    | (refine wpList_loadB rfl 25 _ rfl w.heap.size (progC (.slice (some ⟨tb, to, none⟩) p.types.length k) p (.slice x' p.code.length k')) rfl 25 KP.out.blk _ Tryd.underlying25 rfl prog_info ?_)
    | (go_at_call 8; refine (HAL.out _ HB.out).mono ?_; rintro e1 w1 ⟨rfl, hb⟩; have HB := Lib.hid (HB.out.trans (hb.mono HB.out.size)); have KP := Lib.hid (KP.out.below hb); clear hb)
    | (go_at_call 9; refine (HF.out _ HB.out).mono ?_; rintro e1 w2 ⟨rfl, hb⟩; have HB := Lib.hid (HB.out.trans (hb.mono HB.out.size)); have KP := Lib.hid (KP.out.below hb); clear hb; obtain ⟨p0, p1, p2, p3⟩ := KP.out.cells)
    | (go_at_call 10; refine (HC.out _ HB.out).mono ?_; rintro e1 w3 ⟨rfl, hb⟩; have HB := Lib.hid (HB.out.trans (hb.mono HB.out.size)); have KP := Lib.hid (KP.out.below hb); clear hb p0 p1 p2 p3))
  have hb4 : Below w3.heap.size w3 (w3.alloc (.cells #[.slice (some ⟨tb, to, none⟩) p.types.length k, .string ⟨p.locals.toArray⟩, .string ⟨p.globs.toArray⟩, .slice x' p.code.length k'] 25)) := (Below.refl _ _).alloc (Nat.le_refl _) _
  have KQ := Lib.hid ((⟨blk_new w3 #[.slice (some ⟨tb, to, none⟩) p.types.length k, .string ⟨p.locals.toArray⟩, .string ⟨p.globs.toArray⟩, .slice x' p.code.length k'] 25, KP.out.2.below hb4⟩ : Keep (w3.alloc (.cells #[.slice (some ⟨tb, to, none⟩) p.types.length k, .string ⟨p.locals.toArray⟩, .string ⟨p.globs.toArray⟩, .slice x' p.code.length k'] 25)) w3.heap.size (.slice (some ⟨tb, to, none⟩) p.types.length k) (.slice x' p.code.length k') p))
  have KP4 := Lib.hid (KP.out.below hb4)
  have HB4 := Lib.hid (HB.out.trans (hb4.mono HB.out.size))
  have hq4 := blk_lt KQ.out.blk
  have hq0 := HB.out.size
  clear hb4 KP HB HF HC
  generalize w3.alloc (.cells #[.slice (some ⟨tb, to, none⟩) p.types.length k, .string ⟨p.locals.toArray⟩, .string ⟨p.globs.toArray⟩, .slice x' p.code.length k'] 25) = W4 at *
  generalize w3.heap.size = Q at *
  have p0 := KP4.out.cells.1
  have HTC := Lib.hid (row_cells (HTY.out.below HB4.out))
  obtain ⟨i0, hi, hz0, hz1, hz2⟩ := info_parts infoS
  go_wp2_with (at_builtin; refine wpList_append_own _ rfl _ _ 22 rfl W4.heap.size 9 i0 (.string ByteArray.empty) 1 16 Tryd.underlying22 hi hz0 hz1 hz2 rfl (by decide) _ _ _ rfl (World.ownsRow_nil _ _ _ _) ⟨tb, to, none⟩ p.types.length k (p.types.map str) rfl (by simp) ?c1 ?c2 ?c3 ?c4 ?c5 ?_)
  case c1 => exact HTC.out
  case c2 => exact strs_one p.types
  case c3 => unfold maxLen; omega
  case c4 => omega
  case c5 => omega
  intro v1 w5 ho1 hg1 _
  have b1 : Below W4.heap.size W4 w5 := (Below.refl _ _).grown hg1 (Nat.le_refl _) (fun g hg => by simp [Value.ownBlock] at hg)
  have s5 := b1.size
  go_wp2_with (at_builtin; refine wpList_append_own _ rfl _ _ 22 rfl W4.heap.size 9 i0 (.string ByteArray.empty) 1 16 Tryd.underlying22 hi hz0 hz1 hz2 rfl (by decide) _ _ _ rfl (ho1.alloc _) ⟨w5.heap.size, 0, none⟩ 1 1 [.string ⟨#[105, 105]⟩] rfl rfl ?d1 ?d2 ?d3 ?d4 ?d5 ?_)
  case d1 => exact one_row w5 _ _
  case d2 => intro u hu; simp at hu; subst hu; rfl
  case d3 => unfold maxLen; omega
  case d4 => omega
  case d5 => simp; omega
  intro v2 w6 ho2 hg2 _
  obtain ⟨g2, cap2, rfl⟩ : ∃ g cap, v2 = .slice (some ⟨g, 0, none⟩) (p.types.length + 1) cap := by
    rcases ownsRow_forms ho2 with ⟨_, h⟩ | h
    · omega
    · exact h
  have b2 : Below W4.heap.size W4 w6 := (b1.alloc s5 _).grown hg2 (by simp; omega) (fun g hg' => ((ho1.alloc (.cells #[.string ⟨#[105, 105]⟩] 9)).lt g hg').1)
  have KQ6 := Lib.hid (KQ.out.below b2)
  have KP6 := Lib.hid (KP4.out.below b2)
  have HB6 := Lib.hid (HB4.out.trans (b2.mono HB4.out.size))
  have e2 : p.types.map str ++ [Value.string ⟨#[105, 105]⟩] = (moreP p).types.map str := by unfold moreP; rw [List.map_append]; rfl
  rw [e2] at ho2
  have hbs : Below W0.heap.size W0 (w6.setCell ⟨Q, 0, none⟩ (.slice (some ⟨g2, 0, none⟩) (p.types.length + 1) cap2)) := HB6.out.setCell (p := ⟨Q, 0, none⟩) (by simp; omega) (.slice (some ⟨g2, 0, none⟩) (p.types.length + 1) cap2)
  have HB7 := Lib.hid hbs
  have KM := Lib.hid (types_put (p := p) (q := moreP p) KQ6.out.blk hq4 ho2 (HCO.out.below hbs) rfl rfl)
  have KP7 := Lib.hid ((⟨by rw [setCell_putB KQ6.out.blk]; unfold blk; rw [putB_ne _ (by omega)]; exact KP6.out.blk, ⟨_, _, rfl, HTY.out.below hbs, HCO.out.below hbs⟩⟩ : Keep (w6.setCell ⟨Q, 0, none⟩ (.slice (some ⟨g2, 0, none⟩) (p.types.length + 1) cap2)) w.heap.size (.slice (some ⟨tb, to, none⟩) p.types.length k) (.slice x' p.code.length k') p))
  have q0 := KQ6.out.cells.1
  have f0 := blk_frozen KQ6.out.blk 0
  clear ho1 hg1 ho2 hg2 b1 b2 hbs e2 p0 KQ KQ6 KP6 KP4 HB4 HB6
  go_upto_region 11 with (first
    | (refine wpList_loadB rfl 25 _ rfl Q (progC (.slice (some ⟨g2, 0, none⟩) (p.types.length + 1) cap2) (moreP p) (.slice x' p.code.length k')) rfl 25 KM.out.blk _ Tryd.underlying25 rfl prog_info ?_)
    | (go_at_call 10; refine (HC2.out _ _ KM.out.at' HB7.out).mono ?_; rintro e1 w8 ⟨rfl, hb⟩; have HB8 := Lib.hid (HB7.out.trans (hb.mono HB7.out.size)); have KM8 := Lib.hid (KM.out.below hb); have KP8 := Lib.hid (KP7.out.below hb); clear hb q0 f0))
  obtain ⟨q0, q1, q2, q3⟩ := more_cells KM8.out
  obtain ⟨p0, p1, p2, p3⟩ := KP8.out.cells
  have HNA : Hid (∀ w1, Keep w1 Q (.slice (some ⟨g2, 0, none⟩) (p.types.length + 1) cap2) (.slice x' p.code.length k') (moreP p) → Below W0.heap.size W0 w1 → Calls Tryd.prog 13 #[.agg #[.slice (some ⟨g2, 0, none⟩) (p.types.length + 1) cap2, str p.locals, str p.globs, .slice x' p.code.length k']] w1 (AggPost w1 (.int .i64 nd2))) := Lib.hid fun w1 h hb => HN2.out _ w1 h.at' hb
  clear HN2 HC2
  have KM := Lib.hid KM8.out
  have KP := Lib.hid KP8.out
  have HB := Lib.hid HB8.out
  clear KM8 KP8 HB8 HTC hz0 hz1 hz2 hi
  have KMD := Lib.hid (KM.out.below (Below.refl w8.heap.size w8).drew)
  have KPD := Lib.hid (KP.out.below (Below.refl w8.heap.size w8).drew)
  go_region_held3 (fun w' => w'.cell? ⟨w.heap.size, 0, none⟩ = some (.slice (some ⟨tb, to, none⟩) p.types.length k) ∧ w'.cell? ⟨w.heap.size, 1, none⟩ = some (str p.locals) ∧ w'.cell? ⟨w.heap.size, 2, none⟩ = some (str p.globs) ∧ w'.cell? ⟨w.heap.size, 3, none⟩ = some (.slice x' p.code.length k') ∧ w'.cell? ⟨Q, 0, none⟩ = some (.slice (some ⟨g2, 0, none⟩) (p.types.length + 1) cap2) ∧ w'.cell? ⟨Q, 1, none⟩ = some (str p.locals) ∧ w'.cell? ⟨Q, 2, none⟩ = some (str p.globs) ∧ w'.cell? ⟨Q, 3, none⟩ = some (.slice x' p.code.length k')) (go_keep) (first
    | (go_at_call 13; ((with_reducible refine (HNA.out _ KMD.out ?_).mono ?_); (first | exact HB.out.drew | exact HB.out); rintro e w9 ⟨rfl, hb⟩; have HB5 := Lib.hid (HB.out.drew.trans (hb.mono HB.out.size)); have KP5 := Lib.hid (KPD.out.below hb); have KM5 := Lib.hid (KMD.out.below hb); clear hb p0 p1 p2 p3 q0 q1 q2 q3; obtain ⟨p0, p1, p2, p3⟩ := KP5.out.cells; obtain ⟨q0, q1, q2, q3⟩ := more_cells KM5.out))
    | (go_at_call 13; ((with_reducible refine (HN.out _ HB5.out).mono ?_); rintro e w10 ⟨rfl, hb⟩; have HB6 := Lib.hid (HB5.out.trans (hb.mono HB5.out.size)); have KP6 := Lib.hid (KP5.out.below hb); have KM6 := Lib.hid (KM5.out.below hb); clear hb p0 p1 p2 p3 q0 q1 q2 q3; obtain ⟨p0, p1, p2, p3⟩ := KP6.out.cells; obtain ⟨q0, q1, q2, q3⟩ := more_cells KM6.out)))
  all_goals
    go_wp2_with (fail)
    all_goals
      go_ret
      exact ⟨ret_bool (by rw [HND.out]; simp; omega), HS.out.trans (HB6.out.mono HS.out.size)⟩
theorem needs_walk (v : Value) (p : PProg) (w : World) (h : ProgAt w v p) (hs : OkP p) (hO : HasO w) : Calls Tryd.prog 7 #[v] w (AggPost w (.bool true)) := by
  obtain ⟨x, k, x', k', rfl, g1, g2, g3, g4, hwb, kp⟩ := prog_box h
  have hO0 := hO.below hwb
  generalize hW0 : w.alloc (.cells #[.slice x p.types.length k, str p.locals, str p.globs, .slice x' p.code.length k'] 25) = W0 at hwb kp hO0
  have hp := kp.at'
  have HAL := Lib.hid (fun w1 (hb : Below W0.heap.size W0 w1) => alive_any w1 (hO0.below hb))
  have HF := Lib.hid (fun w1 (hb : Below W0.heap.size W0 w1) => few_b _ p _ w1 (hp.below hb) hs rfl)
  have HC := Lib.hid (fun w1 (hb : Below W0.heap.size W0 w1) => check_n _ p _ _ w1 (hp.below hb) hs (hO0.below hb) rfl rfl)
  by_cases hno : fewP p = false ∨ 8 ≤ p.types.length ∨ ((checkL p).2 : Int) ≠ 0
  · exact needs_no w W0 p _ _ _ x x' k k' hW0.symm (Lib.hid kp) (Lib.hid hwb) g1 g2 HAL HF HC (Lib.hid hno)
  · have hb : fewP p = true := by
      rcases hf : fewP p with _ | _
      · exact absurd (.inl hf) hno
      · rfl
    have h8 : p.types.length < 8 := by
      rcases Nat.lt_or_ge p.types.length 8 with h | h
      · exact h
      · exact absurd (.inr (.inl h)) hno
    have h0 : (checkL p).2 = 0 := by
      by_cases h : ((checkL p).2 : Int) = 0
      · omega
      · exact absurd (.inr (.inr h)) hno
    obtain ⟨hh, _, _, _, e0⟩ := check_ok h0
    obtain ⟨m1, m2⟩ := law_needs h0 h8
    obtain ⟨_, _, _, _, n1, n2⟩ := law_names h0 0 (Int.le_refl _)
    have hr := (refs_list.1 (head_parts hh).1).1
    have hl := (right_iff.1 hr).1
    rw [tsP_len] at hl
    have m1' : checkL (moreP p) = (-1, 0) := m1
    obtain ⟨vt, vc, he, ht, hc⟩ := hp
    have he' : Value.slice x p.types.length k = vt ∧ Value.slice x' p.code.length k' = vc := by
      unfold progC at he
      simp only [Value.agg.injEq, Array.mk.injEq, List.cons.injEq] at he
      exact ⟨he.1, he.2.2.2.1⟩
    obtain ⟨rfl, rfl⟩ := he'
    obtain ⟨tb, to, rfl⟩ : ∃ b o, x = some ⟨b, o, none⟩ := by
      obtain ⟨a, c, e1, _, _, h3⟩ := id ht
      simp only [Value.slice.injEq] at e1
      rcases h3 with h3 | ⟨b, o, rfl, _⟩
      · have : p.types = [] := by simpa using h3
        rw [this] at hl; simp at hl
      · exact ⟨b, o, e1.1⟩
    have hp := kp.at'
    rw [hb] at HF
    have HC' := Lib.hid (fun w1 (hb : Below W0.heap.size W0 w1) => check_n _ p (-1) 0 w1 (hp.below hb) hs (hO0.below hb) (by rw [e0]) (by rw [e0]; rfl))
    exact needs_ok w W0 p _ _ tb to x' k k' hW0.symm (Lib.hid kp) (Lib.hid hwb) g1 g2 HAL HF HC' (Lib.hid fun w1 hb => need_n _ p _ w1 (hp.below hb) hs rfl)
      (Lib.hid fun v w1 h hb => check_n _ (moreP p) (-1) 0 w1 h (more_ok hs) (hO0.below hb) (by rw [m1']) (by rw [m1']; rfl))
      (Lib.hid fun v w1 h _ => need_n _ (moreP p) _ w1 h (more_ok hs) rfl) (Lib.hid hc) (Lib.hid ht) hl h8 m2 n1 n2
end Go.Proofs.YtclkccbihnccgaaDoor
