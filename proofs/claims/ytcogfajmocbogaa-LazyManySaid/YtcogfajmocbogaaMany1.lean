/-
  LazyMany, its parts: the blocks of the call, what one more value does to them, what a Get does to them.
-/
import Derived.Test.YtcogfajmocbogaaAlive
import Derived.Test.YtcogfajmocbogaaRows2
import Derived.Laws.MakeOwn
import Derived.OwnWalk
import Derived.Deep.QuietTactic
import Derived.BigQuiet
namespace Go.Proofs.Ytcogfajmocbogaa
open Go.RowKit

theorem blk_ne {w : World} {a b : Nat} {o o' : Obj} (h : w.heap[a]? = some o) (h' : w.heap[b]? = some o') (hne : o ≠ o') : a ≠ b := fun e => by
  subst e
  rw [h] at h'
  exact hne (by injection h')
theorem tag_ne {c c' : Array Value} {t t' : TypeId} (ht : t ≠ t') : Obj.cells c t (0, 0) ≠ Obj.cells c' t' (0, 0) := fun e => ht (by injection e)

/-- Of a row that is owned no block of another type is a part. -/
theorem blk_row {w w' : World} {base : Nat} {e t : TypeId} {size n b : Nat} {v : Value} {xs : List Value} {c : Array Value} (hr : w.ownsRow base e size v n xs) (hg : w.grownBy w' v.ownBlock)
    (h : w.heap[b]? = some (.cells c t (0, 0))) (ht : t ≠ e) : w'.heap[b]? = some (.cells c t (0, 0)) := by
  rw [hg.block b (lt_of_block h) ?_]
  · exact h
  · rcases hr.2 with ⟨rfl, _⟩ | ⟨g, cap, cur, rfl, _, hgg, _⟩
    · simp [Value.ownBlock]
    · simp only [Value.ownBlock, ne_eq, Option.some.injEq]
      exact blk_ne h hgg (tag_ne ht)

theorem made_get (z : Value) (n j : Nat) (hj : j < n) : (madeCells #[z] n)[j]? = some z := by
  simp [madeCells, hj, Nat.mod_one]

theorem mkInts (m : Nat) (hm : m ≤ 7) (w : World) : (Instr.makeSlice 45 (.int .i64 ((m : Int) + 1)) (.int .i64 ((m : Int) + 1))).run Try.prog w = .ok (.slice (some ⟨w.heap.size, 0, none⟩) (m + 1) (m + 1)) (w.alloc (.cells (madeCells #[.int .i64 0] (m + 1)) 3)) := by
  have hinfo : (Try.prog.info? 3).map (fun i => (i.zero, i.size, i.bytes)) = some (some (.int .i64 0), 1, 8) := by kernel_rfl
  obtain ⟨i0, hi, hz0, hz1, hz2⟩ := info_parts hinfo
  have hr := run_make (P := Try.prog) w 45 3 i0 (.int .i64 0) Try.underlying45 hi hz0 .i64 .i64 ((m : Int) + 1) ((m : Int) + 1) (by omega) (by omega) (by rw [hz2]; omega) (by omega)
  rw [hz1, show ((m : Int) + 1).toNat = m + 1 by omega, Nat.mul_one] at hr
  exact hr
theorem mkBools (m : Nat) (hm : m ≤ 7) (w : World) : (Instr.makeSlice 50 (.int .i64 ((m : Int) + 1)) (.int .i64 ((m : Int) + 1))).run Try.prog w = .ok (.slice (some ⟨w.heap.size, 0, none⟩) (m + 1) (m + 1)) (w.alloc (.cells (madeCells #[.bool false] (m + 1)) 4)) := by
  have hinfo : (Try.prog.info? 4).map (fun i => (i.zero, i.size, i.bytes)) = some (some (.bool false), 1, 1) := by kernel_rfl
  obtain ⟨i0, hi, hz0, hz1, hz2⟩ := info_parts hinfo
  have hr := run_make (P := Try.prog) w 50 4 i0 (.bool false) Try.underlying50 hi hz0 .i64 .i64 ((m : Int) + 1) ((m : Int) + 1) (by omega) (by omega) (by rw [hz2]; omega) (by omega)
  rw [hz1, show ((m : Int) + 1).toNat = m + 1 by omega, Nat.mul_one] at hr
  exact hr

abbrev manyFv (CV I : Nat) : Value := .func (.func 24) #[] #[.pointer (some ⟨CV, 0, none⟩), .pointer (some ⟨I, 0, none⟩)]
/-- A value's block, and its calls, by whether it was asked for. -/
def manyVal (CV I j : Nat) (a : Bool) : Array Value := if a then made (.int .i64 (10 * j)) else fresh (manyFv CV I) (.int .i64 0)
def manyCnt (a : Bool) : Int := if a then 1 else 0

/-- The blocks of the call. B: the heap's size when it began; CV: the variable 'calls'; CB: its array, of K numbers; I j, V j: the variable 'i' and the value of round j; A j: was it asked for; v: 'vs', of m pointers. -/
structure ManyAt (B K CV CB : Nat) (I V : Nat → Nat) (A : Nat → Bool) (arr : Array Value) (m : Nat) (v : Value) (w wr : World) : Prop where
  hb : Below B w wr
  hB : B ≤ CB
  hBV : ∀ j, j < m → B ≤ V j
  hcv : wr.heap[CV]? = some (.cells #[.slice (some ⟨CB, 0, none⟩) K K] 45 (0, 0))
  hcb : wr.heap[CB]? = some (.cells arr 3 (0, 0))
  harr : ∀ j, j < K → arr[j]? = some (.int .i64 (manyCnt (A j)))
  hI : ∀ j, j < m → wr.heap[I j]? = some (.cells #[.int .i64 j] 3 (0, 0))
  hlt : ∀ j, j < m → CB ≠ I j
  hV : ∀ j, j < m → wr.heap[V j]? = some (.cells (manyVal CV (I j) j (A j)) 95 (0, 0))
  hrow : wr.ownsRow B 47 1 v m ((List.range m).map fun j => .pointer (some ⟨V j, 0, none⟩))

theorem ManyAt.drewN {B K CV CB : Nat} {I V : Nat → Nat} {A : Nat → Bool} {arr : Array Value} {m : Nat} {v : Value} {w wr : World} (h : ManyAt B K CV CB I V A arr m v w wr) (n : Nat) : ManyAt B K CV CB I V A arr m v w (wr.drewN n) :=
  ⟨⟨h.hb.os, h.hb.tape, h.hb.output, h.hb.size, h.hb.block⟩, h.hB, h.hBV, h.hcv, h.hcb, h.harr, h.hI, h.hlt, h.hV, h.hrow⟩

def at_ (f : Nat → Nat) (m x : Nat) : Nat → Nat := fun j => if j = m then x else f j
theorem at_self (f : Nat → Nat) (m x : Nat) : at_ f m x m = x := if_pos rfl
theorem at_other (f : Nat → Nat) {m j : Nat} (x : Nat) (h : ¬ j = m) : at_ f m x j = f j := if_neg h

/-- One more value: 'i' in a block of its own, the value's block, the block that append reads, and the append. -/
theorem many_step {B K CV CB : Nat} {I V : Nat → Nat} {arr : Array Value} {m : Nat} {v v' : Value} {w wr w4 : World} (h : ManyAt B K CV CB I V (fun _ => false) arr m v w wr)
    (hown : w4.ownsRow B 47 1 v' (m + 1) (((List.range m).map fun j => Value.pointer (some ⟨V j, 0, none⟩)) ++ [.pointer (some ⟨wr.heap.size + 1, 0, none⟩)]))
    (hg : (((wr.alloc (.cells #[.int .i64 m] 3)).alloc (.cells (fresh (manyFv CV wr.heap.size) (.int .i64 0)) 95)).alloc (.cells #[.pointer (some ⟨wr.heap.size + 1, 0, none⟩)] 47)).grownBy w4 v.ownBlock) :
    ManyAt B K CV CB (at_ I m wr.heap.size) (at_ V m (wr.heap.size + 1)) (fun _ => false) arr (m + 1) v' w w4 := by
  have hBs : B ≤ wr.heap.size := by have := lt_of_block h.hcb; have := h.hB; omega
  have hr3 := ((h.hrow.alloc (.cells #[.int .i64 m] 3 (0, 0))).alloc (.cells (fresh (manyFv CV wr.heap.size) (.int .i64 0)) 95 (0, 0))).alloc (.cells #[.pointer (some ⟨wr.heap.size + 1, 0, none⟩)] 47 (0, 0))
  have old : ∀ {b : Nat} {c : Array Value} {t : TypeId}, t ≠ 47 → wr.heap[b]? = some (.cells c t (0, 0)) → w4.heap[b]? = some (.cells c t (0, 0)) := fun ht hb => blk_row hr3 hg (blk_old (blk_old (blk_old hb _) _) _) ht
  have hnI : w4.heap[wr.heap.size]? = some (.cells #[.int .i64 m] 3 (0, 0)) := blk_row hr3 hg (blk_old (blk_old (blk_new _ _) _) _) (by decide)
  have hnV : w4.heap[wr.heap.size + 1]? = some (.cells (fresh (manyFv CV wr.heap.size) (.int .i64 0)) 95 (0, 0)) := by
    refine blk_row hr3 hg (blk_old ?_ _) (by decide)
    have := blk_new (wr.alloc (.cells #[.int .i64 m] 3)) (.cells (fresh (manyFv CV wr.heap.size) (.int .i64 0)) 95 (0, 0))
    simpa using this
  have cases : ∀ j, j < m + 1 → j = m ∨ (j < m ∧ ¬ j = m) := fun j hj => by omega
  refine ⟨?_, h.hB, ?_, old (by decide) h.hcv, old (by decide) h.hcb, h.harr, ?_, ?_, ?_, ?_⟩
  · exact (((h.hb.alloc hBs _).alloc (by simp; omega) _).alloc (by simp; omega) _).grown hg (by simp; omega) (fun k hk => (hr3.lt k hk).1)
  · intro j hj
    rcases cases j hj with rfl | ⟨hj, hne⟩
    · rw [at_self]; omega
    · rw [at_other _ _ hne]; exact h.hBV j hj
  · intro j hj
    rcases cases j hj with rfl | ⟨hj, hne⟩
    · rw [at_self]; exact hnI
    · rw [at_other _ _ hne]; exact old (by decide) (h.hI j hj)
  · intro j hj
    rcases cases j hj with rfl | ⟨hj, hne⟩
    · rw [at_self]; have := lt_of_block h.hcb; omega
    · rw [at_other _ _ hne]; exact h.hlt j hj
  · intro j hj
    rcases cases j hj with rfl | ⟨hj, hne⟩
    · rw [at_self, at_self]; exact hnV
    · rw [at_other _ _ hne, at_other _ _ hne]; exact old (by decide) (h.hV j hj)
  · have e : ((List.range (m + 1)).map fun j => Value.pointer (some ⟨at_ V m (wr.heap.size + 1) j, 0, none⟩)) = ((List.range m).map fun j => Value.pointer (some ⟨V j, 0, none⟩)) ++ [.pointer (some ⟨wr.heap.size + 1, 0, none⟩)] := by
      rw [List.range_succ, List.map_append]
      congr 1
      · apply List.map_congr_left
        intro j hj
        have : j < m := List.mem_range.1 hj
        rw [at_other _ _ (show ¬ j = m by omega)]
      · simp [at_]
    rw [e]
    exact hown

/-- The function that makes value i. -/
theorem manyF (CV CB I K i : Nat) (c : Int) (w : World) (hi : i < K) (hK : K ≤ 8)
    (hv : w.cell? ⟨CV, 0, none⟩ = some (.slice (some ⟨CB, 0, none⟩) K K)) (hI : w.cell? ⟨I, 0, none⟩ = some (.int .i64 i)) (hc : w.cell? ⟨CB, i, none⟩ = some (.int .i64 c)) (hz : w.frozen? ⟨CB, i, none⟩ = false) (hne : CB ≠ I) :
    Calls Try.prog 24 #[.pointer (some ⟨CV, 0, none⟩), .pointer (some ⟨I, 0, none⟩)] w fun e w' => e = .returned (.int .i64 (10 * i)) ∧ w' = w.setCell ⟨CB, i, none⟩ (.int .i64 (wrap64 (c + 1))) := by
  have hI2 : (w.setCell ⟨CB, i, none⟩ (.int .i64 (wrap64 (c + 1)))).cell? ⟨I, 0, none⟩ = some (.int .i64 i) := (World.cell?_setCell_other _ ⟨CB, i, none⟩ ⟨I, 0, none⟩ _ (fun e => hne (by injection e))).trans hI
  clear hne
  go_enter Try.func24, Try.ntmps24
  go_wp2
  go_ret
  exact ⟨rfl, rfl⟩

def ask (A : Nat → Bool) (i : Nat) : Nat → Bool := fun j => if j = i then true else A j
theorem ask_self (A : Nat → Bool) (i : Nat) : ask A i i = true := if_pos rfl
theorem ask_other (A : Nat → Bool) {i j : Nat} (h : ¬ j = i) : ask A i j = A j := if_neg h
theorem ask_again (A : Nat → Bool) (i : Nat) (h : A i = true) : ask A i = A := by
  funext j
  by_cases e : j = i
  · subst e; rw [ask_self, h]
  · rw [ask_other A e]
theorem manyVal_yes (CV I j : Nat) : manyVal CV I j true = made (.int .i64 (10 * j)) := rfl
theorem manyVal_no (CV I j : Nat) : manyVal CV I j false = fresh (manyFv CV I) (.int .i64 0) := rfl

theorem fresh_inj {f g z : Value} (h : fresh f z = fresh g z) : f = g := by
  unfold fresh at h
  simp at h
  exact h

/-- A Get of value i: it is made, if it was not; the blocks of bools are as they were. -/
theorem many_get {B K CV CB : Nat} {I V : Nat → Nat} {A : Nat → Bool} {arr : Array Value} {v : Value} {w wr : World} (hK : K ≤ 8) (h : ManyAt B K CV CB I V A arr K v w wr) (i : Nat) (hi : i < K) :
    Calls Try.prog 25 #[.pointer (some ⟨V i, 0, none⟩)] wr fun e w' => e = .returned (.tuple #[.int .i64 (10 * i), .bool true]) ∧
      (∃ arr', ManyAt B K CV CB I V (ask A i) arr' K v w w') ∧ ∀ (b : Nat) (c : Array Value), wr.heap[b]? = some (Obj.cells c 4 (0, 0)) → w'.heap[b]? = some (Obj.cells c 4 (0, 0)) := by
  have hVi := h.hV i hi
  cases hA : A i with
  | true =>
    rw [hA, manyVal_yes] at hVi
    refine (getMadeI (V i) (10 * i) wr hVi).mono ?_
    rintro e w' ⟨rfl, rfl⟩
    refine ⟨rfl, ⟨arr, ?_⟩, fun _ _ hb => hb⟩
    rw [ask_again A i hA]
    exact h
  | false =>
    rw [hA, manyVal_no] at hVi
    -- the world in which make is called
    have hne : ∀ {b : Nat} {c : Array Value} {t : TypeId}, t ≠ 95 → wr.heap[b]? = some (.cells c t (0, 0)) → b ≠ V i := fun ht hb => blk_ne hb hVi (tag_ne ht)
    have hcv1 : (wr.setCell ⟨V i, 2, none⟩ (.int .i32 1)).heap[CV]? = some (.cells #[.slice (some ⟨CB, 0, none⟩) K K] 45 (0, 0)) := blk_other h.hcv (hne (by decide) h.hcv) _
    have hcb1 : (wr.setCell ⟨V i, 2, none⟩ (.int .i32 1)).heap[CB]? = some (.cells arr 3 (0, 0)) := blk_other h.hcb (hne (by decide) h.hcb) _
    have hI1 : (wr.setCell ⟨V i, 2, none⟩ (.int .i32 1)).heap[I i]? = some (.cells #[.int .i64 i] 3 (0, 0)) := blk_other (h.hI i hi) (hne (by decide) (h.hI i hi)) _
    have hai : arr[i]? = some (.int .i64 0) := by have := h.harr i hi; rw [hA] at this; exact this
    have hCBV : CB ≠ V i := hne (by decide) h.hcb
    refine (getExactI (V i) 24 _ (fun x w2 => x = 10 * i ∧ w2 = (wr.setCell ⟨V i, 2, none⟩ (.int .i32 1)).setCell ⟨CB, i, none⟩ (.int .i64 1)) wr (.int .i64 0)
      (enters Try.func24 (by kernel_rfl) (by kernel_rfl) _) hVi
      ((manyF CV CB (I i) K i 0 _ hi hK (blk_cell hcv1 rfl) (blk_cell hI1 rfl) (blk_cell hcb1 hai) (blk_free hcb1) (h.hlt i hi)).mono fun _ _ ⟨he, hw⟩ => ⟨_, he, rfl, by rw [hw, wrap01]⟩) ?_).mono ?_
    · rintro x w2 ⟨rfl, rfl⟩
      exact blk_other (blk_set (i := 2) _ hVi) (fun e => hCBV e.symm) _
    · rintro e w' ⟨x, w2, rfl, ⟨rfl, rfl⟩, ho, hm⟩
      -- whatever is neither the value nor the array of calls is as it was
      have keep : ∀ {b : Nat} {o : Obj}, b ≠ V i → b ≠ CB → wr.heap[b]? = some o → w'.heap[b]? = some o := fun h1 h2 hb => blk_only (blk_other (blk_other hb h1 _) h2 _) ho h1
      have hcbV : CB ≠ CV := blk_ne h.hcb h.hcv (tag_ne (by decide))
      have hVV : ∀ j, j < K → ¬ j = i → V j ≠ V i := fun j hj hji => by
        have hVj := h.hV j hj
        refine blk_ne hVj hVi ?_
        intro e
        have e' : manyVal CV (I j) j (A j) = fresh (manyFv CV (I i)) (.int .i64 0) := by injection e
        cases hAj : A j with
        | true => rw [hAj, manyVal_yes] at e'; simp [made, fresh] at e'
        | false =>
          rw [hAj, manyVal_no] at e'
          have e2 := fresh_inj e'
          have e3 : I j = I i := by
            simp [manyFv] at e2
            exact e2
          have h1 := h.hI j hj
          rw [e3, h.hI i hi] at h1
          simp at h1
          omega
      refine ⟨rfl, ⟨arr.setIfInBounds i (.int .i64 1), ?_⟩, fun b c hb => keep (hne (by decide) hb) (blk_ne hb h.hcb (tag_ne (by decide))) hb⟩
      refine ⟨?_, h.hB, h.hBV, keep (hne (by decide) h.hcv) (fun e => hcbV e.symm) h.hcv, blk_only (blk_set (i := i) _ hcb1) ho hCBV, ?_, ?_, h.hlt, ?_, ?_⟩
      · exact ((h.hb.setCell (h.hBV i hi) _).setCell h.hB _).trans (ho.below (h.hBV i hi))
      · intro j hj
        by_cases e : j = i
        · subst e
          rw [ask_self, Array.getElem?_setIfInBounds_self_of_lt]
          · rfl
          · exact (Array.getElem?_eq_some_iff.1 hai).1
        · rw [ask_other A e, Array.getElem?_setIfInBounds_ne (fun h => e h.symm)]
          exact h.harr j hj
      · intro j hj
        exact keep (hne (by decide) (h.hI j hj)) (fun e => h.hlt j hj e.symm) (h.hI j hj)
      · intro j hj
        by_cases e : j = i
        · subst e
          rw [ask_self, manyVal_yes]
          exact hm
        · rw [ask_other A e]
          exact keep (hVV j hj e) (blk_ne (h.hV j hj) h.hcb (tag_ne (by decide))) (h.hV j hj)
      · refine ⟨h.hrow.1, ?_⟩
        rcases h.hrow.2 with hn | ⟨g, cap, cur, rfl, hg1, hg2, hg3⟩
        · exact .inl hn
        · exact .inr ⟨g, cap, cur, rfl, hg1, keep (hne (by decide) hg2) (blk_ne hg2 h.hcb (tag_ne (by decide))) hg2, hg3⟩
end Go.Proofs.Ytcogfajmocbogaa
