/-
  A state in a block of its own: a cell is set; a slice is appended to.
-/
import Derived.Test.YtmnoohpkjgjphaaDoorPGet
namespace Go.Proofs.YtmnoohpkjgjphaaDoor
set_option linter.unusedSimpArgs false
set_option linter.unusedVariables false
open Go.RowKit

section
variable {w : World} {B b : Nat} {s : PSt} {vo vt : Value}
theorem Mem.lt (h : Mem w B b s vo vt) : B ≤ b ∧ b < w.heap.size := ⟨h.hb, blk_lt h.blk⟩
theorem Mem.setX (h : Mem w B b s vo vt) (k : Nat) (hk : k < 8) (v : Int) : Mem (w.setCell ⟨b, k, none⟩ (.int .i64 v)) B b { s with x := s.x.set k v } vo vt := by
  have hl := h.parts.len
  rw [setCell_putB h.blk]
  exact ⟨by rw [← stC_setX hl k hk v]; exact putB_at h.blk _ _, h.hb, h.parts.putS (t := { s with x := s.x.set k v }) h.blk _ _ ⟨by simp [hl.x], hl.p, hl.g⟩ rfl rfl⟩
theorem Mem.setP (h : Mem w B b s vo vt) (k : Nat) (hk : k < 8) (v : Int) : Mem (w.setCell ⟨b, 8 + k, none⟩ (.int .i64 v)) B b { s with p := s.p.set k v } vo vt := by
  have hl := h.parts.len
  rw [setCell_putB h.blk]
  exact ⟨by rw [← stC_setP hl k hk v]; exact putB_at h.blk _ _, h.hb, h.parts.putS (t := { s with p := s.p.set k v }) h.blk _ _ ⟨hl.x, by simp [hl.p], hl.g⟩ rfl rfl⟩
theorem Mem.setG (h : Mem w B b s vo vt) (k : Nat) (hk : k < 4) (v : Int) : Mem (w.setCell ⟨b, 16 + k, none⟩ (.int .i64 v)) B b { s with g := s.g.set k v } vo vt := by
  have hl := h.parts.len
  rw [setCell_putB h.blk]
  exact ⟨by rw [← stC_setG hl k hk v]; exact putB_at h.blk _ _, h.hb, h.parts.putS (t := { s with g := s.g.set k v }) h.blk _ _ ⟨hl.x, hl.p, by simp [hl.g]⟩ rfl rfl⟩
theorem Mem.setA (h : Mem w B b s vo vt) (n : Nat) : Mem (w.setCell ⟨b, 22, none⟩ (.int .i64 n)) B b { s with pc := n } vo vt := by
  have hl := h.parts.len
  rw [setCell_putB h.blk]
  exact ⟨by rw [← stC_setA hl n]; exact putB_at h.blk _ _, h.hb, h.parts.putS (t := { s with pc := n }) h.blk _ _ ⟨hl.x, hl.p, hl.g⟩ rfl rfl⟩
theorem Mem.setS (h : Mem w B b s vo vt) (n : Nat) : Mem (w.setCell ⟨b, 23, none⟩ (.int .i64 n)) B b { s with steps := n } vo vt := by
  have hl := h.parts.len
  rw [setCell_putB h.blk]
  exact ⟨by rw [← stC_setS hl n]; exact putB_at h.blk _ _, h.hb, h.parts.putS (t := { s with steps := n }) h.blk _ _ ⟨hl.x, hl.p, hl.g⟩ rfl rfl⟩
/-- A field of an object. -/
theorem Mem.setO (h : Mem w B b s vo vt) {o n v : Int} (h1 : 1 ≤ o) (h2 : o ≤ s.objs.length) {rows : List Value} {gs : List Nat} (hr : ObjsOwn w B vo vt s.objs rows gs) {g : Nat} (hg : gs[o.toNat - 1]? = some g) {cur : Array Value} (hb : Proofs.YtmnoohpkjgjphaaDoor.blk w g cur 2) :
    Mem (w.setCell ⟨g, n.toNat, none⟩ (.int .i64 v)) B b (setO s o n v) vo vt := by
  rw [setCell_putB hb]
  refine ⟨?_, h.hb, h.parts.put h1 h2 hr hg hb⟩
  have hne : b ≠ g := blk_ne h.blk hb (by decide)
  unfold Proofs.YtmnoohpkjgjphaaDoor.blk
  rw [putB_ne w hne]
  exact h.blk
/-- Blocks that are neither the state's nor of numbers, nor of slices of them, stay. -/
def FarB (w w' : World) (b : Nat) : Prop := ∀ (g : Nat) (cs : Array Value) (t : TypeId), Proofs.YtmnoohpkjgjphaaDoor.blk w g cs t → g ≠ b → t ≠ 32 → t ≠ 2 → Proofs.YtmnoohpkjgjphaaDoor.blk w' g cs t
theorem FarB.of_below {w w' : World} (hb : Below w.heap.size w w') (b : Nat) : FarB w w' b := fun _ _ _ hg _ _ _ => blk_below hg hb
theorem FarB.trans {w w1 w' : World} {b : Nat} (h : FarB w w1 b) (h' : FarB w1 w' b) : FarB w w' b := fun g cs t hg h1 h2 h3 => h' g cs t (h g cs t hg h1 h2 h3) h1 h2 h3
theorem FarB.drew {w w' : World} {b : Nat} (h : FarB w w' b) : FarB w w'.drew b := h.trans (FarB.of_below (Below.refl _ _).drew b)
theorem FarB.setB {w w' : World} {b j : Nat} {cs0 : Array Value} {t0 : TypeId} {v : Value} (h : FarB w w' b) (hb : Proofs.YtmnoohpkjgjphaaDoor.blk w' b cs0 t0) : FarB w (w'.setCell ⟨b, j, none⟩ v) b := fun g cs t hg h1 h2 h3 => by
  rw [setCell_putB hb]
  unfold Proofs.YtmnoohpkjgjphaaDoor.blk
  rw [putB_ne w' h1]
  exact h g cs t hg h1 h2 h3
theorem FarB.setI {w w' : World} {b g0 j : Nat} {cs0 : Array Value} {v : Value} (h : FarB w w' b) (hb : Proofs.YtmnoohpkjgjphaaDoor.blk w' g0 cs0 2) : FarB w (w'.setCell ⟨g0, j, none⟩ v) b := fun g cs t hg h1 h2 h3 => by
  have := h g cs t hg h1 h2 h3
  rw [setCell_putB hb]
  unfold Proofs.YtmnoohpkjgjphaaDoor.blk
  rw [putB_ne w' (blk_ne this hb h3)]
  exact this
theorem Mem.below' {w' : World} (h : Mem w B b s vo vt) (hb : Below w.heap.size w w') : Mem w' B b s vo vt := h.below hb
/-- A block that an append left as it was. -/
theorem blk_grown {w' : World} {g : Nat} {cs : Array Value} {t : TypeId} {row : Option Nat} (h : Proofs.YtmnoohpkjgjphaaDoor.blk w g cs t) (hg : w.grownBy w' row) (hne : row ≠ some g) : Proofs.YtmnoohpkjgjphaaDoor.blk w' g cs t := by
  unfold Proofs.YtmnoohpkjgjphaaDoor.blk
  rw [hg.block g (blk_lt h) (fun e => hne e.symm)]
  exact h
/-- A number is printed: what append left, before it is stored. -/
theorem parts_out {w' : World} {vt' : Value} {x : Int} (h : Parts w B s vo vt) (ho : w'.ownsRow B 2 1 vt' (s.out.length + 1) (i64s s.out ++ [.int .i64 x])) (hg : w.grownBy w' vt.ownBlock) (hn : vt'.ownBlock = vt.ownBlock ∨ vt'.ownBlock = some w.heap.size) :
    Parts w' B { s with out := s.out ++ [x] } vo vt' := by
  obtain ⟨rows, gs, hr⟩ := h.objs
  refine ⟨⟨h.len.x, h.len.p, h.len.g⟩, ⟨rows, gs, ⟨?_, hr.nil, hr.lg, hr.nd, hr.ne, ?_⟩⟩, ?_, ?_⟩
  · refine own_same hr.outer (fun g hg' hlt => hg.block g hlt (fun e => ?_))
    rcases hr.outer.2 with ⟨hv, _⟩ | ⟨go, co, curo, hvo, _, ho2, _⟩
    · rw [hv] at hg'; cases hg'
    · rw [hvo] at hg'
      obtain rfl := Option.some.inj hg'
      exact own_ne h.out ho2 (by decide) _ e.symm rfl
  · intro j r xs g h1 h2 h3
    obtain ⟨a, b', c⟩ := hr.row j r xs g h1 h2 h3
    refine ⟨own_same a (fun g' hg' hlt => ?_), b', ?_⟩
    · rw [b'] at hg'
      obtain rfl := Option.some.inj hg'
      exact hg.block g hlt (fun e => c e.symm)
    · have hlt := (own_lt a g b').2
      rcases hn with hn | hn
      · rw [hn]; exact c
      · rw [hn]; intro e; have := Option.some.inj e; omega
  · show w'.ownsRow B 2 1 vt' (s.out ++ [x]).length (i64s (s.out ++ [x]))
    rw [List.length_append, show i64s (s.out ++ [x]) = i64s s.out ++ [.int .i64 x] by simp]
    exact ho
  · intro h0
    have : s.out ++ [x] = [] := h0
    simp at this
/-- An object is made: what append left, before it is stored. -/
theorem parts_new {w1 w' : World} {vo' r : Value} {xs : List Int} {rows : List Value} {gs : List Nat} (hp : Parts w1 B s vo vt) (h : ObjsOwn w1 B vo vt s.objs rows gs) (hb : Below w1.heap.size w1 w) (hrow : w.ownsRow B 2 1 r xs.length (i64s xs)) (hrb : r.ownBlock = some w1.heap.size) (h0 : xs ≠ [])
    (ho : w'.ownsRow B 32 1 vo' (s.objs.length + 1) (rows ++ [r])) (hg : w.grownBy w' vo.ownBlock) : Parts w' B { s with objs := s.objs ++ [xs] } vo' vt := by
  have hlr := h.lr
  have hlg := h.lg
  have far : ∀ {n : Nat} {v : Value} {cs : List Value}, w.ownsRow B 2 1 v n cs → w'.ownsRow B 2 1 v n cs := fun {n v cs} ho' => by
    refine own_same ho' (fun g hg' hlt => hg.block g hlt (fun e => ?_))
    rcases h.outer.2 with ⟨hv, _⟩ | ⟨go, co, curo, hvo, _, ho2, _⟩
    · rw [hv] at e; cases e
    · rw [hvo] at e
      obtain rfl := Option.some.inj e
      exact own_ne ho' (show Proofs.YtmnoohpkjgjphaaDoor.blk w g curo 32 from blk_below ho2 hb) (by decide) g hg' rfl
  refine ⟨⟨hp.len.x, hp.len.p, hp.len.g⟩, ⟨rows ++ [r], gs ++ [w1.heap.size], ⟨?_, ?_, ?_, ?_, ?_, ?_⟩⟩, far (own_below hp.out hb), hp.onil⟩
  · show w'.ownsRow B 32 1 vo' (s.objs ++ [xs]).length (rows ++ [r])
    rw [List.length_append]; exact ho
  · intro e
    have : s.objs ++ [xs] = [] := e
    simp at this
  · show (gs ++ [w1.heap.size]).length = (s.objs ++ [xs]).length
    simp [hlg]
  · refine List.nodup_append.2 ⟨h.nd, by simp, fun a ha b' hb' => ?_⟩
    obtain rfl := List.mem_singleton.1 hb'
    obtain ⟨j, r', xs', _, _, _, q1, q2, _⟩ := h.gs_at ha
    have := (own_lt q1 a q2).2
    omega
  · intro ys hys
    rcases List.mem_append.1 (show ys ∈ s.objs ++ [xs] from hys) with hm | hm
    · exact h.ne ys hm
    · rw [List.mem_singleton.1 hm]; exact h0
  · intro j r' ys g e1 e2 e3
    have e2' : (s.objs ++ [xs])[j]? = some ys := e2
    by_cases hj : j < s.objs.length
    · rw [List.getElem?_append_left (by omega)] at e1 e2' e3
      obtain ⟨a, b', c⟩ := h.row j r' ys g e1 e2' e3
      exact ⟨far (own_below a hb), b', c⟩
    · rw [List.getElem?_append_right (by omega)] at e1 e2' e3
      have hj0 : j - rows.length = 0 := by
        have := (List.getElem?_eq_some_iff.1 e1).1
        simp at this; omega
      rw [hj0] at e1
      rw [show j - s.objs.length = 0 by omega] at e2'
      rw [show j - gs.length = 0 by omega] at e3
      simp at e1 e2' e3
      subst e1 e2' e3
      refine ⟨far hrow, hrb, fun e => ?_⟩
      have := (own_lt hp.out _ e).2
      omega
/-- What an append left, stored into the state. -/
theorem Mem.newObj {w' : World} {vo' : Value} {objs : List (List Int)} (h : Proofs.YtmnoohpkjgjphaaDoor.blk w' b (stC s vo vt) 34) (hB : B ≤ b) (hp : Parts w' B { s with objs := objs } vo' vt) : Mem (w'.setCell ⟨b, 20, none⟩ vo') B b { s with objs := objs } vo' vt := by
  have hl : LenS s := ⟨hp.len.x, hp.len.p, hp.len.g⟩
  rw [setCell_putB h]
  exact ⟨by rw [← stC_setO hl objs vo']; exact putB_at h _ _, hB, hp.putS (t := { s with objs := objs }) h _ _ ⟨hl.x, hl.p, hl.g⟩ rfl rfl⟩
theorem Mem.newOut {w' : World} {vt' : Value} {out : List Int} (h : Proofs.YtmnoohpkjgjphaaDoor.blk w' b (stC s vo vt) 34) (hB : B ≤ b) (hp : Parts w' B { s with out := out } vo vt') : Mem (w'.setCell ⟨b, 21, none⟩ vt') B b { s with out := out } vo vt' := by
  have hl : LenS s := ⟨hp.len.x, hp.len.p, hp.len.g⟩
  rw [setCell_putB h]
  exact ⟨by rw [← stC_setT hl out vt']; exact putB_at h _ _, hB, hp.putS (t := { s with out := out }) h _ _ ⟨hl.x, hl.p, hl.g⟩ rfl rfl⟩
end
end Go.Proofs.YtmnoohpkjgjphaaDoor
