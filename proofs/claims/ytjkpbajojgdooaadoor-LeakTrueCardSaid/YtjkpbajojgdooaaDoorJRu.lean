/-
  The world while a run goes, beside two rows of numbers: the places of all objects, and their types.
  A step more: two states side by side, and the rows of numbers as they grow.
-/
import Derived.Test.YtjkpbajojgdooaaDoorQSt
import Derived.Test.YtjkpbajojgdooaaDoorJGrid
import Derived.Test.YtjkpbajojgdooaaDoorJPu
import Derived.Test.YtjkpbajojgdooaaDoorMLa
import Derived.Test.YtjkpbajojgdooaaDoorMNS
import Derived.Deep.AppendLies

/- The world while a run goes, beside two rows of numbers: the places of all objects, and their types. -/
namespace Go.Proofs.YtjkpbajojgdooaaDoor
set_option linter.unusedSimpArgs false
set_option linter.unusedVariables false
open Go.RowKit

/-- A row grows; the rows of other types stay. -/
theorem RowN.grown {w w' : World} {row : Option Nat} {v : Value} {cs : List Value} (h : RowN w v cs) (hg : w.grownBy w' row) (hr : ∀ g, row = some g → ∃ xs t fr, w.heap[g]? = some (.cells xs t fr) ∧ t ≠ 2 ∧ t ≠ 34) : RowN w' v cs := by
  have hne : ∀ (a : Addr) (n c : Nat), v = .slice (some a) n c → a.block < w.heap.size ∧ some a.block ≠ row := fun a n c e => by
    obtain ⟨ys, e', fr, h1, h2⟩ := h.2.2 a n c e
    refine ⟨(Array.getElem?_eq_some_iff.1 h1).1, fun e9 => ?_⟩
    obtain ⟨xs, t, fr', k1, k2, k3⟩ := hr _ e9.symm
    rw [h1] at k1
    simp only [Option.some.injEq, Obj.cells.injEq] at k1
    rw [k1.2.1] at h2
    exact h2.elim k2 k3
  refine ⟨?_, h.2.1, fun a n c e => ?_⟩
  · obtain ⟨a, c, rfl, h1, h2, h3⟩ := h.1
    refine ⟨a, c, rfl, h1, h2, h3.imp id ?_⟩
    rintro ⟨b0, o, rfl, hlt, hc⟩
    obtain ⟨k1, k2⟩ := hne ⟨b0, o, none⟩ _ _ rfl
    refine ⟨b0, o, rfl, Nat.lt_of_lt_of_le hlt hg.size, fun j x hx => ?_⟩
    rw [World.cell?_of_block (a := ⟨b0, o + j, none⟩) (hg.block _ k1 k2)]
    exact hc j x hx
  · obtain ⟨ys, e', fr, h1, h2⟩ := h.2.2 a n c e
    obtain ⟨k1, k2⟩ := hne a n c e
    exact ⟨ys, e', fr, by rw [hg.block _ k1 k2]; exact h1, h2⟩
theorem GridN.grown {w w' : World} {row : Option Nat} {v : Value} {xss : List (List Int)} (h : GridN w v xss) (hg : w.grownBy w' row) (hr : ∀ g, row = some g → ∃ xs t fr, w.heap[g]? = some (.cells xs t fr) ∧ t ≠ 2 ∧ t ≠ 34) : GridN w' v xss := by
  obtain ⟨rows, h1, h2, h3, h4⟩ := h
  exact ⟨rows, h1, h2.grown hg hr, h3, fun j r xs hr' hx => (h4 j r xs hr' hx).grown hg hr⟩
theorem StN.grown {w w' : World} {row : Option Nat} {vo vt : Value} {s : PSt} (h : StN w vo vt s) (hg : w.grownBy w' row) (hr : ∀ g, row = some g → ∃ xs t fr, w.heap[g]? = some (.cells xs t fr) ∧ t ≠ 2 ∧ t ≠ 34) : StN w' vo vt s := ⟨h.len, h.objs.grown hg hr, h.out.grown hg hr⟩
/-! ### Rows of numbers that only grow -/
abbrev natI (l : List Nat) : List Int := l.map fun n : Nat => (n : Int)
theorem natI_app (l : List Nat) (k : Nat) : i64s (natI (l ++ [k])) = i64s (natI l) ++ [.int .i64 (k : Int)] := by simp
theorem natI_at {l : List Nat} {k : Nat} (h : k < l.length) : (i64s (natI l))[k]? = some (.int .i64 ((l.getD k 0 : Nat) : Int)) := by
  rw [List.getD_eq_getElem?_getD, List.getElem?_eq_getElem h]
  simp [h]
theorem own_nat {w : World} {B : Nat} {v : Value} {l : List Nat} (h : w.ownsRow B 3 1 v l.length (i64s (natI l))) {k : Nat} (hk : k < l.length) : ∃ g c, v = .slice (some ⟨g, 0, none⟩) l.length c ∧ l.length ≤ c ∧ c ≤ 9223372036854775807 ∧ w.cell? ⟨g, k, none⟩ = some (.int .i64 ((l.getD k 0 : Nat) : Int)) := by
  have h0 := RowAt.of_own h
  rcases h.2 with ⟨_, h1⟩ | ⟨g, c, cur, rfl, hb, hc, h2, h3, h4, h5⟩
  · omega
  · obtain ⟨x, c', e, g1, g2, g3⟩ := h0
    simp only [Value.slice.injEq] at e
    obtain ⟨rfl, -, rfl⟩ := e
    unfold maxLen at h3
    rcases g3 with g3 | ⟨b, o, e, -, g4⟩
    · have := congrArg List.length g3; simp at this; rw [this] at hk; simp at hk
    · simp only [Option.some.injEq, Addr.mk.injEq] at e
      obtain ⟨rfl, rfl, -⟩ := e
      refine ⟨g, c, rfl, h2, h3, ?_⟩
      have := g4 k _ (natI_at hk)
      rwa [Nat.zero_add] at this
theorem own_natF {w : World} {B : Nat} {v : Value} {l : List Nat} (h : w.ownsRow B 3 1 v l.length (i64s (natI l))) : ∃ a c, v = .slice a l.length c ∧ l.length ≤ c ∧ c ≤ 9223372036854775807 := by
  rcases h.2 with ⟨rfl, h1⟩ | ⟨g, c, cur, rfl, hb, hc, h2, h3, h4, h5⟩
  · exact ⟨none, 0, by rw [h1], by omega, by omega⟩
  · unfold maxLen at h3; exact ⟨_, c, rfl, h2, h3⟩
theorem own_tag {w : World} {B n : Nat} {e : TypeId} {v : Value} {xs : List Value} (h : w.ownsRow B e 1 v n xs) : ∀ g, v.ownBlock = some g → B ≤ g ∧ g < w.heap.size ∧ ∃ cs fr, w.heap[g]? = some (.cells cs e fr) := by
  intro g hg
  rcases h.2 with ⟨rfl, _⟩ | ⟨g', cap, cur, rfl, hb, hc, _⟩
  · cases hg
  · obtain rfl := Option.some.inj hg
    exact ⟨hb, (Array.getElem?_eq_some_iff.1 hc).1, cur, _, hc⟩
theorem own_fresh {w : World} {B : Nat} : w.ownsRow B 3 1 (.slice none 0 0) ([] : List Nat).length (i64s (natI [])) := ⟨rfl, .inl ⟨rfl, rfl⟩⟩

/-- A world in which a run goes on: above w all is the call's own. -/
structure TlW (w wr : World) (b bm : Nat) (s : PSt) (vo vt vm vy : Value) (made ts : List Nat) : Prop where
  below : Below w.heap.size w wr
  st : blk wr b (stC s vo vt) 36
  at' : StN wr vo vt s
  box : blk wr bm #[vm] 37
  mr : wr.ownsRow w.heap.size 3 1 vm made.length (i64s (natI made))
  tr : wr.ownsRow w.heap.size 3 1 vy ts.length (i64s (natI ts))
  ne : ∀ g, vm.ownBlock = some g → vy.ownBlock ≠ some g
  hb : w.heap.size ≤ b
  hm : w.heap.size ≤ bm
section
variable {w wr w' : World} {b bm : Nat} {s t : PSt} {vo vt vo2 vt2 vm vy : Value} {made ts : List Nat}
theorem TlW.next (h : TlW w wr b bm s vo vt vm vy made ts) (hb : Below wr.heap.size wr w') : TlW w w' b bm s vo vt vm vy made ts :=
  ⟨h.below.trans (hb.mono h.below.size), blk_below h.st hb, h.at'.below hb, blk_below h.box hb, own_below h.mr hb, own_below h.tr hb, h.ne, h.hb, h.hm⟩
theorem TlW.put (h : TlW w wr b bm s vo vt vm vy made ts) (ht : StN wr vo2 vt2 t) : TlW w (putB wr b (stC t vo2 vt2) 36) b bm t vo2 vt2 vm vy made ts :=
  ⟨h.below.trans (putB_below _ h.hb _ _), putB_at h.st _ _, ht.putT h.st (by decide), by unfold blk; rw [putB_ne _ (blk_ne h.box h.st (by decide))]; exact h.box, own_same h.mr (fun g hg _ => putB_ne wr (own_ne h.mr h.st (by decide) g hg) _ _), own_same h.tr (fun g hg _ => putB_ne wr (own_ne h.tr h.st (by decide) g hg) _ _), h.ne, h.hb, h.hm⟩
/-- The row of types grows. -/
theorem TlW.typ (h : TlW w wr b bm s vo vt vm vy made ts) {k g c : Nat} (ho : w'.ownsRow w.heap.size 3 1 (.slice (some ⟨g, 0, none⟩) (ts ++ [k]).length c) (ts ++ [k]).length (i64s (natI (ts ++ [k])))) (hg : wr.grownBy w' vy.ownBlock) (hx : vy.ownBlock = some g ∨ g = wr.heap.size) :
    TlW w w' b bm s vo vt vm (.slice (some ⟨g, 0, none⟩) (ts ++ [k]).length c) made (ts ++ [k]) := by
  have tag := own_tag h.tr
  have key : ∀ j, j < wr.heap.size → vy.ownBlock ≠ some j → w'.heap[j]? = wr.heap[j]? := fun j hj hn => hg.block j hj (fun e => hn e.symm)
  refine ⟨⟨hg.os.trans h.below.os, hg.tape.trans h.below.tape, hg.output.trans h.below.output, Nat.le_trans h.below.size hg.size, fun j hj => ?_⟩, ?_, h.at'.grown hg fun g' e => ?_, ?_, own_same h.mr fun g' e1 e2 => key _ e2 (h.ne _ e1), ho, fun g' e1 e2 => ?_, h.hb, h.hm⟩
  · rw [key j (Nat.lt_of_lt_of_le hj h.below.size) (fun e => by have := (tag j e).1; omega)]; exact h.below.block j hj
  · unfold blk; rw [key b (blk_lt h.st) (fun e => own_ne h.tr h.st (by decide) b e rfl)]; exact h.st
  · obtain ⟨_, _, cs, fr, h9⟩ := tag g' e
    exact ⟨cs, _, fr, h9, by decide, by decide⟩
  · unfold blk; rw [key bm (blk_lt h.box) (fun e => own_ne h.tr h.box (by decide) bm e rfl)]; exact h.box
  · obtain rfl := Option.some.inj e2
    rcases hx with hx | hx
    · exact h.ne _ e1 hx
    · have h9 : g < wr.heap.size := (own_tag h.mr _ e1).2.1; omega
/-- The row of places grows: behind append, and ahead of its being put. -/
theorem TlW.place (h : TlW w wr b bm s vo vt vm vy made ts) {k g c : Nat} (ho : w'.ownsRow w.heap.size 3 1 (.slice (some ⟨g, 0, none⟩) (made ++ [k]).length c) (made ++ [k]).length (i64s (natI (made ++ [k])))) (hg : wr.grownBy w' vm.ownBlock) (hx : vm.ownBlock = some g ∨ g = wr.heap.size) :
    blk w' bm #[vm] 37 ∧ TlW w (putB w' bm #[.slice (some ⟨g, 0, none⟩) (made ++ [k]).length c] 37) b bm s vo vt (.slice (some ⟨g, 0, none⟩) (made ++ [k]).length c) vy (made ++ [k]) ts := by
  have tag := own_tag h.mr
  have key : ∀ j, j < wr.heap.size → vm.ownBlock ≠ some j → w'.heap[j]? = wr.heap[j]? := fun j hj hn => hg.block j hj (fun e => hn e.symm)
  have hmk : blk w' bm #[vm] 37 := by unfold blk; rw [key bm (blk_lt h.box) (fun e => own_ne h.mr h.box (by decide) bm e rfl)]; exact h.box
  have hst : blk w' b (stC s vo vt) 36 := by unfold blk; rw [key b (blk_lt h.st) (fun e => own_ne h.mr h.st (by decide) b e rfl)]; exact h.st
  have htr : w'.ownsRow w.heap.size 3 1 vy ts.length (i64s (natI ts)) := own_same h.tr fun g' e1 e2 => key _ e2 (fun e => h.ne _ e e1)
  have hsn : StN w' vo vt s := h.at'.grown hg fun g' e => by
    obtain ⟨_, _, cs, fr, h9⟩ := tag g' e
    exact ⟨cs, _, fr, h9, by decide, by decide⟩
  refine ⟨hmk, ⟨?_, ?_, hsn.putT hmk (by decide), putB_at hmk _ _, own_same ho (fun g' e _ => putB_ne w' (own_ne ho hmk (by decide) g' e) _ _), own_same htr (fun g' e _ => putB_ne w' (own_ne htr hmk (by decide) g' e) _ _), fun g' e1 e2 => ?_, h.hb, h.hm⟩⟩
  · refine Below.trans ⟨hg.os.trans h.below.os, hg.tape.trans h.below.tape, hg.output.trans h.below.output, Nat.le_trans h.below.size hg.size, fun j hj => ?_⟩ (putB_below _ h.hm _ _)
    rw [key j (Nat.lt_of_lt_of_le hj h.below.size) (fun e => by have := (tag j e).1; omega)]; exact h.below.block j hj
  · unfold blk; rw [putB_ne _ (blk_ne hst hmk (by decide))]; exact hst
  · obtain rfl := Option.some.inj e1
    rcases hx with hx | hx
    · exact h.ne _ hx e2
    · have h9 : g < wr.heap.size := (own_tag h.tr _ e2).2.1; omega
theorem TlW.start (w : World) : TlW w ((w.alloc (.cells zeroS 36)).alloc (.cells #[.slice none 0 0] 37)) w.heap.size (w.heap.size + 1) st0 (.slice none 0 0) (.slice none 0 0) (.slice none 0 0) (.slice none 0 0) [] [] := by
  have b1 : Below w.heap.size w (w.alloc (.cells zeroS 36)) := (Below.refl _ _).alloc (Nat.le_refl _) _
  have s1 : (w.alloc (.cells zeroS 36)).heap.size = w.heap.size + 1 := by simp
  have b2 : Below (w.alloc (.cells zeroS 36)).heap.size (w.alloc (.cells zeroS 36)) ((w.alloc (.cells zeroS 36)).alloc (.cells #[.slice none 0 0] 37)) := (Below.refl _ _).alloc (Nat.le_refl _) _
  have f1 := blk_new (w.alloc (.cells zeroS 36)) #[.slice none 0 0] 37
  rw [s1] at f1
  exact ⟨b1.trans (b2.mono b1.size), blk_below (blk_new w zeroS 36) b2, st0_n _, f1, own_fresh, own_fresh, (fun g e => by cases e), Nat.le_refl _, by omega⟩
theorem gridN_at {w : World} {ao : Option Addr} {nn co : Nat} {xss : List (List Int)} (h : GridN w (.slice ao nn co) xss) {k : Nat} (hk : k < xss.length) : ∃ b o b2 o2 c2, ao = some ⟨b, o, none⟩ ∧ w.cell? ⟨b, o + k, none⟩ = some (.slice (some ⟨b2, o2, none⟩) (xss.getD k []).length c2) ∧ (xss.getD k []).length ≤ c2 ∧ c2 ≤ 9223372036854775807 ∧
    ∀ f, f < (xss.getD k []).length → w.cell? ⟨b2, o2 + f, none⟩ = some (.int .i64 ((xss.getD k []).getD f 0)) := by
  obtain ⟨rows, h1, h2, h3, h4⟩ := h
  have e1 : xss[k]? = some (xss.getD k []) := by rw [List.getD_eq_getElem?_getD, List.getElem?_eq_getElem hk]; rfl
  have hr : rows[k]? = some (rows[k]'(by omega)) := List.getElem?_eq_getElem (by omega)
  generalize xss.getD k [] = xs at e1 ⊢
  generalize rows[k]'(by omega) = r at hr
  have h5 := h4 k r xs hr e1
  have hne := h3 xs (List.mem_of_getElem? e1)
  rcases h2.cases with ⟨e, _⟩ | ⟨_, b, o, c, e, g1, g2, g3, g4⟩
  · rw [e] at hr; simp at hr
  rcases h5.cases with ⟨e5, _⟩ | ⟨_, b2, o2, c2, e5, k1, k2, k3, k4⟩
  · exact absurd (by simpa using e5) hne
  simp only [Value.slice.injEq] at e
  obtain ⟨rfl, -, -⟩ := e
  unfold maxLen at k2
  rw [i64s_len] at k1 e5
  refine ⟨b, o, b2, o2, c2, rfl, by rw [← e5]; exact g4 k r hr, k1, k2, fun f hf => k4 f _ (i64s_get ?_)⟩
  rw [List.getD_eq_getElem?_getD, List.getElem?_eq_getElem hf]; rfl
/-- What holds of the world while the statement only looks. -/
def TlG (w w0 : World) (b bm : Nat) (s : PSt) (vo vt vm vy : Value) (made ts : List Nat) (w' : World) : Prop := TlW w w' b bm s vo vt vm vy made ts ∧ Below w0.heap.size w0 w'
theorem TlG.next {w0 w2 : World} (h : TlG w w0 b bm s vo vt vm vy made ts w') (hb : Below w'.heap.size w' w2) : TlG w w0 b bm s vo vt vm vy made ts w2 := ⟨h.1.next hb, h.2.trans (hb.mono h.2.size)⟩
theorem TlG.start (h : TlW w wr b bm s vo vt vm vy made ts) : TlG w wr b bm s vo vt vm vy made ts wr.drew := ⟨h.next (Below.refl _ _).drew, (Below.refl _ _).drew⟩
end
end Go.Proofs.YtjkpbajojgdooaaDoor

/- A step more: two states side by side, and the rows of numbers as they grow. -/
namespace Go.Proofs.YtjkpbajojgdooaaDoor
set_option linter.unusedSimpArgs false
set_option linter.unusedVariables false
open Go.RowKit

/-- Beside the run's state lies the one behind the step. -/
structure T2W (w wr : World) (b bm c : Nat) (s t : PSt) (vo vt vo2 vt2 vm vy : Value) (made ts : List Nat) : Prop where
  l : TlW w wr b bm s vo vt vm vy made ts
  st : blk wr c (stC t vo2 vt2) 36
  at' : StN wr vo2 vt2 t
theorem infoIn : (Tryd.prog.info? 3).map (fun i => (i.zero, i.size, i.bytes)) = some (some (.int .i64 0), 1, 8) := by kernel_rfl
theorem infoIn_parts : ∃ i, Tryd.prog.info? 3 = some i ∧ i.zero = some (.int .i64 0) ∧ i.size = 1 ∧ i.bytes = 8 := by
  obtain ⟨i, hi⟩ := info_some infoIn
  have h := infoIn
  rw [hi] at h
  simp only [Option.map_some, Option.some.injEq, Prod.mk.injEq] at h
  exact ⟨i, hi, h.1, h.2.1, h.2.2⟩
section
variable {w wr w' : World} {b bm c : Nat} {s t : PSt} {vo vt vo2 vt2 vm vy : Value} {made ts : List Nat}
theorem T2W.next (h : T2W w wr b bm c s t vo vt vo2 vt2 vm vy made ts) (hb : Below wr.heap.size wr w') : T2W w w' b bm c s t vo vt vo2 vt2 vm vy made ts := ⟨h.l.next hb, blk_below h.st hb, h.at'.below hb⟩
/-- The row of types, one type more: behind the making of the one that is put. -/
theorem T2W.typ (h : T2W w wr b bm c s t vo vt vo2 vt2 vm vy made ts) (k : Nat) (hl : ts.length ≤ 1000000) : ∃ g cap w', (Builtin.append_ #[37, 37] 37 #[vy, .slice (some ⟨wr.heap.size, 0, none⟩) 1 1]).run Tryd.prog (wr.alloc (.cells #[.int .i64 (k : Int)] 3)) = .ok (.slice (some ⟨g, 0, none⟩) (ts.length + 1) cap) w' ∧
    T2W w w' b bm c s t vo vt vo2 vt2 vm (.slice (some ⟨g, 0, none⟩) (ts.length + 1) cap) made (ts ++ [k]) := by
  have h1 := h.next ((Below.refl wr.heap.size wr).alloc (Nat.le_refl _) (.cells #[.int .i64 (k : Int)] 3))
  obtain ⟨i, q1, q2, q3, q4⟩ := infoIn_parts
  have hsz : w.heap.size ≤ (wr.alloc (.cells #[.int .i64 (k : Int)] 3)).heap.size := h1.l.below.size
  obtain ⟨g, cap, w', hr, h2, h3, h4, h5⟩ := run_append_lies (P := Tryd.prog) (wr.alloc (.cells #[.int .i64 (k : Int)] 3)) 37 37 w.heap.size 3 i (.int .i64 0) 1 8 Tryd.underlying37 q1 q2 q3 q4 rfl (by omega) vy ts.length (i64s (natI ts)) h1.l.tr ⟨wr.heap.size, 0, none⟩ 1 1 [.int .i64 (k : Int)] rfl (one_cellV _ _) (by intro u hu; simp at hu; subst hu; rfl) (by omega) (by unfold maxLen; omega) (by omega) hsz _ rfl
  have e1 : (ts ++ [k]).length = ts.length + 1 := by simp
  have h6 := h1.l.typ (k := k) (g := g) (c := cap) (by rw [e1, natI_app]; exact h2) h3 h4
  rw [e1] at h6
  have tag := own_tag h1.l.tr
  refine ⟨g, cap, w', hr, h6, ?_, h1.at'.grown h3 fun g' e => ?_⟩
  · unfold blk; rw [h3.block c (blk_lt h1.st) (fun e => own_ne h1.l.tr h1.st (by decide) c e.symm rfl)]; exact h1.st
  · obtain ⟨_, _, cs, fr, h9⟩ := tag g' e
    exact ⟨cs, _, fr, h9, by decide, by decide⟩
/-- The row of places, one place more: behind append, and behind its being put. -/
theorem T2W.place (h : T2W w wr b bm c s t vo vt vo2 vt2 vm vy made ts) (k : Nat) (hl : made.length ≤ 1000000) : ∃ g cap w', (Builtin.append_ #[37, 37] 37 #[vm, .slice (some ⟨wr.heap.size, 0, none⟩) 1 1]).run Tryd.prog (wr.alloc (.cells #[.int .i64 (k : Int)] 3)) = .ok (.slice (some ⟨g, 0, none⟩) (made.length + 1) cap) w' ∧
    blk w' bm #[vm] 37 ∧ T2W w (putB w' bm #[.slice (some ⟨g, 0, none⟩) (made.length + 1) cap] 37) b bm c s t vo vt vo2 vt2 (.slice (some ⟨g, 0, none⟩) (made.length + 1) cap) vy (made ++ [k]) ts := by
  have h1 := h.next ((Below.refl wr.heap.size wr).alloc (Nat.le_refl _) (.cells #[.int .i64 (k : Int)] 3))
  obtain ⟨i, q1, q2, q3, q4⟩ := infoIn_parts
  have hsz : w.heap.size ≤ (wr.alloc (.cells #[.int .i64 (k : Int)] 3)).heap.size := h1.l.below.size
  obtain ⟨g, cap, w', hr, h2, h3, h4, h5⟩ := run_append_lies (P := Tryd.prog) (wr.alloc (.cells #[.int .i64 (k : Int)] 3)) 37 37 w.heap.size 3 i (.int .i64 0) 1 8 Tryd.underlying37 q1 q2 q3 q4 rfl (by omega) vm made.length (i64s (natI made)) h1.l.mr ⟨wr.heap.size, 0, none⟩ 1 1 [.int .i64 (k : Int)] rfl (one_cellV _ _) (by intro u hu; simp at hu; subst hu; rfl) (by omega) (by unfold maxLen; omega) (by omega) hsz _ rfl
  have e1 : (made ++ [k]).length = made.length + 1 := by simp
  have h6 := h1.l.place (k := k) (g := g) (c := cap) (by rw [e1, natI_app]; exact h2) h3 h4
  rw [e1] at h6
  have tag := own_tag h1.l.mr
  have hst : blk w' c (stC t vo2 vt2) 36 := by unfold blk; rw [h3.block c (blk_lt h1.st) (fun e => own_ne h1.l.mr h1.st (by decide) c e.symm rfl)]; exact h1.st
  have hsn : StN w' vo2 vt2 t := h1.at'.grown h3 fun g' e => by
    obtain ⟨_, _, cs, fr, h9⟩ := tag g' e
    exact ⟨cs, _, fr, h9, by decide, by decide⟩
  exact ⟨g, cap, w', hr, h6.1, h6.2, by unfold blk; rw [putB_ne _ (blk_ne hst h6.1 (by decide))]; exact hst, hsn.putT h6.1 (by decide)⟩
end
end Go.Proofs.YtjkpbajojgdooaaDoor
