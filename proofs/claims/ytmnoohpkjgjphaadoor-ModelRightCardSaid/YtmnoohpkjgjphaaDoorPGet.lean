/-
  A state's cells; what reads them: isDone, object, hasField, nextPlace, oneIf.
-/
import Derived.Test.YtmnoohpkjgjphaaDoorPMem
namespace Go.Proofs.YtmnoohpkjgjphaaDoor
set_option linter.unusedSimpArgs false
set_option linter.unusedVariables false
open Go.RowKit

abbrev ptr (b : Nat) : Value := .pointer (some ⟨b, 0, none⟩)
section
variable {s : PSt} {vo vt : Value}
theorem stC_x (h : LenS s) (k : Nat) (hk : k < 8) : (stC s vo vt)[k]? = some (.int .i64 (s.x.getD k 0)) := by
  obtain ⟨x0, x1, x2, x3, x4, x5, x6, x7, p0, p1, p2, p3, p4, p5, p6, p7, g0, g1, g2, g3, e⟩ := h.lists
  rw [e, stC_list]
  match k, hk with
  | 0, _ => rfl
  | 1, _ => rfl
  | 2, _ => rfl
  | 3, _ => rfl
  | 4, _ => rfl
  | 5, _ => rfl
  | 6, _ => rfl
  | 7, _ => rfl
theorem stC_p (h : LenS s) (k : Nat) (hk : k < 8) : (stC s vo vt)[8 + k]? = some (.int .i64 (s.p.getD k 0)) := by
  obtain ⟨x0, x1, x2, x3, x4, x5, x6, x7, p0, p1, p2, p3, p4, p5, p6, p7, g0, g1, g2, g3, e⟩ := h.lists
  rw [e, stC_list]
  match k, hk with
  | 0, _ => rfl
  | 1, _ => rfl
  | 2, _ => rfl
  | 3, _ => rfl
  | 4, _ => rfl
  | 5, _ => rfl
  | 6, _ => rfl
  | 7, _ => rfl
theorem stC_g (h : LenS s) (k : Nat) (hk : k < 4) : (stC s vo vt)[16 + k]? = some (.int .i64 (s.g.getD k 0)) := by
  obtain ⟨x0, x1, x2, x3, x4, x5, x6, x7, p0, p1, p2, p3, p4, p5, p6, p7, g0, g1, g2, g3, e⟩ := h.lists
  rw [e, stC_list]
  match k, hk with
  | 0, _ => rfl
  | 1, _ => rfl
  | 2, _ => rfl
  | 3, _ => rfl
theorem stC_rest (h : LenS s) : (stC s vo vt)[20]? = some vo ∧ (stC s vo vt)[21]? = some vt ∧ (stC s vo vt)[22]? = some (.int .i64 s.pc) ∧ (stC s vo vt)[23]? = some (.int .i64 s.steps) := by
  obtain ⟨x0, x1, x2, x3, x4, x5, x6, x7, p0, p1, p2, p3, p4, p5, p6, p7, g0, g1, g2, g3, e⟩ := h.lists
  rw [e, stC_list]
  exact ⟨rfl, rfl, rfl, rfl⟩
theorem arr_ext {a b : Array Value} (h : a.toList = b.toList) : a = b := Array.ext' h
theorem stC_setX (h : LenS s) (k : Nat) (hk : k < 8) (v : Int) : (stC s vo vt).setIfInBounds k (.int .i64 v) = stC { s with x := s.x.set k v } vo vt := by
  obtain ⟨x0, x1, x2, x3, x4, x5, x6, x7, p0, p1, p2, p3, p4, p5, p6, p7, g0, g1, g2, g3, e⟩ := h.lists
  rw [e, stC_list]
  match k, hk with
  | 0, _ => rfl
  | 1, _ => rfl
  | 2, _ => rfl
  | 3, _ => rfl
  | 4, _ => rfl
  | 5, _ => rfl
  | 6, _ => rfl
  | 7, _ => rfl
theorem stC_setP (h : LenS s) (k : Nat) (hk : k < 8) (v : Int) : (stC s vo vt).setIfInBounds (8 + k) (.int .i64 v) = stC { s with p := s.p.set k v } vo vt := by
  obtain ⟨x0, x1, x2, x3, x4, x5, x6, x7, p0, p1, p2, p3, p4, p5, p6, p7, g0, g1, g2, g3, e⟩ := h.lists
  rw [e, stC_list]
  match k, hk with
  | 0, _ => rfl
  | 1, _ => rfl
  | 2, _ => rfl
  | 3, _ => rfl
  | 4, _ => rfl
  | 5, _ => rfl
  | 6, _ => rfl
  | 7, _ => rfl
theorem stC_setG (h : LenS s) (k : Nat) (hk : k < 4) (v : Int) : (stC s vo vt).setIfInBounds (16 + k) (.int .i64 v) = stC { s with g := s.g.set k v } vo vt := by
  obtain ⟨x0, x1, x2, x3, x4, x5, x6, x7, p0, p1, p2, p3, p4, p5, p6, p7, g0, g1, g2, g3, e⟩ := h.lists
  rw [e, stC_list]
  match k, hk with
  | 0, _ => rfl
  | 1, _ => rfl
  | 2, _ => rfl
  | 3, _ => rfl
theorem stC_setO (h : LenS s) (objs : List (List Int)) (vo' : Value) : (stC s vo vt).setIfInBounds 20 vo' = stC { s with objs := objs } vo' vt := by
  obtain ⟨x0, x1, x2, x3, x4, x5, x6, x7, p0, p1, p2, p3, p4, p5, p6, p7, g0, g1, g2, g3, e⟩ := h.lists
  rw [e, stC_list]; rfl
theorem stC_setT (h : LenS s) (out : List Int) (vt' : Value) : (stC s vo vt).setIfInBounds 21 vt' = stC { s with out := out } vo vt' := by
  obtain ⟨x0, x1, x2, x3, x4, x5, x6, x7, p0, p1, p2, p3, p4, p5, p6, p7, g0, g1, g2, g3, e⟩ := h.lists
  rw [e, stC_list]; rfl
theorem stC_setA (h : LenS s) (n : Nat) : (stC s vo vt).setIfInBounds 22 (.int .i64 n) = stC { s with pc := n } vo vt := by
  obtain ⟨x0, x1, x2, x3, x4, x5, x6, x7, p0, p1, p2, p3, p4, p5, p6, p7, g0, g1, g2, g3, e⟩ := h.lists
  rw [e, stC_list]; rfl
theorem stC_setS (h : LenS s) (n : Nat) : (stC s vo vt).setIfInBounds 23 (.int .i64 n) = stC { s with steps := n } vo vt := by
  obtain ⟨x0, x1, x2, x3, x4, x5, x6, x7, p0, p1, p2, p3, p4, p5, p6, p7, g0, g1, g2, g3, e⟩ := h.lists
  rw [e, stC_list]; rfl
end
theorem stC_one (s : PSt) {vo vt : Value} (ho : vo.oneCell' = true) (ht : vt.oneCell' = true) : (stC s vo vt).all (·.oneCell') = true := by
  refine all_oneCell_toArray (fun v hv => ?_)
  rcases List.mem_append.1 hv with h | h
  · obtain ⟨x, _, rfl⟩ := List.mem_map.1 h; rfl
  · simp at h
    rcases h with rfl | rfl | rfl | rfl
    · exact ho
    · exact ht
    · rfl
    · rfl
theorem own_oneCell {w : World} {B n sz : Nat} {e : TypeId} {v : Value} {cs : List Value} (h : w.ownsRow B e sz v n cs) : v.oneCell' = true := by
  rcases h.2 with ⟨rfl, _⟩ | ⟨g, cap, cur, rfl, _⟩ <;> rfl
theorem own_form {w : World} {B n sz : Nat} {e : TypeId} {v : Value} {cs : List Value} (h : w.ownsRow B e sz v n cs) : ∃ a c, v = .slice a n c ∧ n ≤ c ∧ c ≤ 9223372036854775807 := by
  rcases h.2 with ⟨rfl, rfl⟩ | ⟨g, cap, cur, rfl, _, _, h3, h4, _⟩
  · exact ⟨none, 0, rfl, Nat.le_refl _, by omega⟩
  · exact ⟨_, cap, rfl, h3, by unfold maxLen at h4; omega⟩
section
variable {w : World} {B b : Nat} {s : PSt} {vo vt : Value}
theorem Mem.x (h : Mem w B b s vo vt) (k : Nat) (hk : k < 8) : w.cell? ⟨b, k, none⟩ = some (.int .i64 (s.x.getD k 0)) := blk_cell h.blk _ _ (stC_x h.parts.len k hk)
theorem Mem.p (h : Mem w B b s vo vt) (k : Nat) (hk : k < 8) : w.cell? ⟨b, 8 + k, none⟩ = some (.int .i64 (s.p.getD k 0)) := blk_cell h.blk _ _ (stC_p h.parts.len k hk)
theorem Mem.g (h : Mem w B b s vo vt) (k : Nat) (hk : k < 4) : w.cell? ⟨b, 16 + k, none⟩ = some (.int .i64 (s.g.getD k 0)) := blk_cell h.blk _ _ (stC_g h.parts.len k hk)
theorem Mem.rest (h : Mem w B b s vo vt) : w.cell? ⟨b, 20, none⟩ = some vo ∧ w.cell? ⟨b, 21, none⟩ = some vt ∧ w.cell? ⟨b, 22, none⟩ = some (.int .i64 s.pc) ∧ w.cell? ⟨b, 23, none⟩ = some (.int .i64 s.steps) := by
  obtain ⟨a, b', c, d⟩ := stC_rest (vo := vo) (vt := vt) h.parts.len
  exact ⟨blk_cell h.blk _ _ a, blk_cell h.blk _ _ b', blk_cell h.blk _ _ c, blk_cell h.blk _ _ d⟩
/-- The object that a pointer has. -/
theorem Mem.obj (h : Mem w B b s vo vt) {o : Int} (h1 : 1 ≤ o) (h2 : o ≤ s.objs.length) :
    ∃ rows gs g cap cur go co, ObjsOwn w B vo vt s.objs rows gs ∧ gs[o.toNat - 1]? = some g ∧ vo = .slice (some ⟨go, 0, none⟩) s.objs.length co ∧ s.objs.length ≤ co ∧ co ≤ 9223372036854775807 ∧ w.cell? ⟨go, o.toNat - 1, none⟩ = some (.slice (some ⟨g, 0, none⟩) (objA s.objs o).length cap) ∧
      Proofs.YtmnoohpkjgjphaaDoor.blk w g cur 2 ∧ B ≤ g ∧ (objA s.objs o).length ≤ cap ∧ cap ≤ 9223372036854775807 ∧ ∀ k x, (objA s.objs o)[k]? = some x → w.cell? ⟨g, k, none⟩ = some (.int .i64 x) := by
  obtain ⟨rows, gs, hr⟩ := h.parts.objs
  have hlr := hr.lr
  have hlg := hr.lg
  have hj : o.toNat - 1 < s.objs.length := by omega
  obtain ⟨r, e1⟩ : ∃ r, rows[o.toNat - 1]? = some r := ⟨_, List.getElem?_eq_getElem (by omega)⟩
  have e2 : s.objs[o.toNat - 1]? = some (objA s.objs o) := by
    unfold objA; rw [List.getD_eq_getElem?_getD, List.getElem?_eq_getElem hj]; rfl
  obtain ⟨g, e3⟩ : ∃ g, gs[o.toNat - 1]? = some g := ⟨_, List.getElem?_eq_getElem (by omega)⟩
  obtain ⟨a, bb, c⟩ := hr.row _ _ _ _ e1 e2 e3
  obtain ⟨cap, cur, hv, k1, k2, k3, k4, k5, k6⟩ := own_cell a bb
  rcases hr.outer.2 with ⟨_, h0⟩ | ⟨go, co, curo, hvo, ho1, ho2, ho3, ho4, ho5, ho6⟩
  · omega
  · refine ⟨rows, gs, _, cap, cur, go, co, hr, e3, hvo, ho3, by unfold maxLen at ho4; omega, ?_, k3, k6, k1, by unfold maxLen at k2; omega, ?_⟩
    · rw [hv] at e1
      rw [← ho6, List.getElem?_take] at e1
      split at e1
      · refine blk_cell ho2 _ _ ?_
        rw [← Array.getElem?_toList]; exact e1
      · cases e1
    · intro k x hx
      have hk : (i64s (objA s.objs o))[k]? = some (.int .i64 x) := i64s_get hx
      rw [← k5, List.getElem?_take] at hk
      split at hk
      · refine blk_cell k3 _ _ ?_
        rw [← Array.getElem?_toList]; exact hk
      · cases hk
end
set_option maxRecDepth 100000 in
theorem done_n (vp : Value) (p : PProg) (w : World) (B b : Nat) (s : PSt) (vo vt : Value) (r : Bool) (h : ProgAt w vp p) (hm : Mem w B b s vo vt) (hpc : s.pc ≤ 1000000) (hr : decide (s.pc = p.code.length) = r) : Calls Tryd.prog 23 #[vp, ptr b] w (AggPost w (.bool r)) := by
  obtain ⟨vt', vc, rfl, ht, hc⟩ := h
  have hwb : Below w.heap.size w (w.alloc (.cells (progC vt' p vc) 25)) := (Below.refl _ _).alloc (Nat.le_refl _) _
  obtain ⟨x, c, rfl, hl, hcm, -⟩ := id hc
  unfold maxLen at hcm
  have HW := Lib.hid hwb
  obtain ⟨-, -, c22, -⟩ := (hm.below hwb).rest
  have HR := Lib.hid hr
  clear hr ht hc hwb hm
  by_cases he : s.pc = p.code.length
  · have e1 : ((s.pc : Int) == (p.code.length : Int)) = true := by simp [he]
    have HE := Lib.hid he
    clear he
    go_enter Tryd.func23, Tryd.ntmps23
    go_wp2_with (fail)
    go_quiet (fail)
    go_wp2
    go_ret
    exact ⟨ret_bool (by rw [← HR.out, decide_eq_true HE.out]), HW.out.trans ((belowDrewN _ _).mono HW.out.size)⟩
  · have e1 : ((s.pc : Int) == (p.code.length : Int)) = false := by simp; omega
    have HE := Lib.hid he
    clear he
    go_enter Tryd.func23, Tryd.ntmps23
    go_wp2_with (fail)
    go_quiet (fail)
    go_wp2
    go_ret
    exact ⟨ret_bool (by rw [← HR.out, decide_eq_false HE.out]), HW.out.trans ((belowDrewN _ _).mono HW.out.size)⟩
set_option maxRecDepth 100000 in
theorem object_nil (w : World) (B b : Nat) (s : PSt) (vo vt : Value) (a : Nat) (hm : Mem w B b s vo vt) (ha : a < 8) (h0 : s.p.getD a 0 = 0) : Calls Tryd.prog 40 #[ptr b, .int .u8 a] w fun e w' => e = .returned (.slice none 0 0) ∧ w' = w := by
  have ca := hm.p a ha
  rw [h0] at ca
  clear hm h0
  go_enter Tryd.func40, Tryd.ntmps40
  go_wp2
  go_ret
  exact ⟨rfl, rfl⟩
set_option maxRecDepth 100000 in
theorem object_row (w : World) (b : Nat) (s : PSt) (a : Nat) (o : Int) (go g n m co cap : Nat) (ca : w.cell? ⟨b, 8 + a, none⟩ = some (.int .i64 o)) (ha : a < 8) (h1 : 1 ≤ o) (h2 : o ≤ n) (c20 : w.cell? ⟨b, 20, none⟩ = some (.slice (some ⟨go, 0, none⟩) n co))
    (hnc : n ≤ co) (hco : co ≤ 9223372036854775807) (cr : w.cell? ⟨go, o.toNat - 1, none⟩ = some (.slice (some ⟨g, 0, none⟩) m cap)) : Calls Tryd.prog 40 #[ptr b, .int .u8 a] w fun e w' => e = .returned (.slice (some ⟨g, 0, none⟩) m cap) ∧ w' = w := by
  obtain ⟨k, rfl⟩ : ∃ k : Nat, o = (k : Int) + 1 := ⟨(o - 1).toNat, by omega⟩
  rw [show ((k : Int) + 1).toNat - 1 = k by omega] at cr
  clear h1
  go_enter Tryd.func40, Tryd.ntmps40
  go_wp2
  go_ret
  exact ⟨rfl, rfl⟩
end Go.Proofs.YtmnoohpkjgjphaaDoor
