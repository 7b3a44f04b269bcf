/-
  'alive', which each statement of layer 1 calls first: it answers true, and turns nothing that was there.
-/
import Derived.Test.YtcogfajmocbogaaFill
import Derived.Outline
namespace Go.Proofs.Ytcogfajmocbogaa
open Go.RowKit

theorem aliveF (a : Addr) (n : Int) (w : World) (hc : w.cell? a = some (.int .i64 n)) (hz : w.frozen? a = false) :
    Calls Try.prog 35 #[.pointer (some a)] w fun e w' => e = .returned (.int .i64 7) ∧ w' = w.setCell a (.int .i64 (wrap64 (n + 1))) := by
  go_enter Try.func35, Try.ntmps35
  go_wp2
  go_ret
  exact ⟨rfl, rfl⟩

theorem wrap01 : wrap64 (0 + 1) = 1 := by simp [wrap64]
theorem wrap03 : wrap64 (0 + 3) = 3 := by simp [wrap64]
theorem set_new (w : World) (x y : Value) (t : TypeId) : (w.alloc (.cells #[x] t)).setCell ⟨w.heap.size, 0, none⟩ y = w.alloc (.cells #[y] t) := World.setCell_alloc_new #[x] t 0 y
theorem cell_new (w : World) (x : Value) (t : TypeId) : (w.alloc (.cells #[x] t)).cell? ⟨w.heap.size, 0, none⟩ = some x := blk_cell (blk_new _ _) rfl
theorem free_new (w : World) (x : Value) (t : TypeId) : (w.alloc (.cells #[x] t)).frozen? ⟨w.heap.size, 0, none⟩ = false := blk_free (blk_new _ _)

/-- A count in the block that was made last. -/
theorem cadd_new (n d m : Int) (h : wrap64 (n + d) = m) (w : World) :
    Calls Try.prog 14 #[.pointer (some ⟨w.heap.size, 0, none⟩), .int .i64 d] (w.alloc (.cells #[.int .i64 n] 30)) fun e w' => e = .returned (.int .i64 m) ∧ w' = w.alloc (.cells #[.int .i64 m] 30) :=
  (cadd _ n d _ (cell_new _ _ _) (free_new _ _ _)).mono fun _ _ ⟨he, hw⟩ => ⟨by rw [he, h], by rw [hw, h, set_new]⟩
theorem cswap_new (n d : Int) (w : World) :
    Calls Try.prog 15 #[.pointer (some ⟨w.heap.size, 0, none⟩), .int .i64 d] (w.alloc (.cells #[.int .i64 n] 30)) fun e w' => e = .returned (.int .i64 n) ∧ w' = w.alloc (.cells #[.int .i64 d] 30) :=
  (cswap _ n d _ (cell_new _ _ _) (free_new _ _ _)).mono fun _ _ ⟨he, hw⟩ => ⟨he, by rw [hw, set_new]⟩
theorem ctry_hit_new (n d : Int) (w : World) :
    Calls Try.prog 16 #[.pointer (some ⟨w.heap.size, 0, none⟩), .int .i64 n, .int .i64 d] (w.alloc (.cells #[.int .i64 n] 30)) fun e w' => e = .returned (.bool true) ∧ w' = w.alloc (.cells #[.int .i64 d] 30) :=
  (ctry_hit _ n d _ (cell_new _ _ _) (free_new _ _ _)).mono fun _ _ ⟨he, hw⟩ => ⟨he, by rw [hw, set_new]⟩
theorem ctry_miss_new (n o d : Int) (hne : ¬ n = o) (w : World) :
    Calls Try.prog 16 #[.pointer (some ⟨w.heap.size, 0, none⟩), .int .i64 o, .int .i64 d] (w.alloc (.cells #[.int .i64 n] 30)) fun e w' => e = .returned (.bool false) ∧ w' = w.alloc (.cells #[.int .i64 n] 30) :=
  (ctry_miss _ n o d _ (cell_new _ _ _) (free_new _ _ _) hne).mono fun _ _ ⟨he, hw⟩ => ⟨he, hw.symm⟩
theorem cmax_stay_new (n d : Int) (hle : d ≤ n) (w : World) :
    Calls Try.prog 17 #[.pointer (some ⟨w.heap.size, 0, none⟩), .int .i64 d] (w.alloc (.cells #[.int .i64 n] 30)) fun e w' => e = .returned (.int .i64 n) ∧ w' = w.alloc (.cells #[.int .i64 n] 30) :=
  (cmax_stay _ n d _ (cell_new _ _ _) hle).mono fun _ _ ⟨he, hw⟩ => ⟨he, hw.symm⟩
theorem cget_new (n : Int) (w : World) :
    Calls Try.prog 18 #[.pointer (some ⟨w.heap.size, 0, none⟩)] (w.alloc (.cells #[.int .i64 n] 30)) fun e w' => e = .returned (.int .i64 n) ∧ w' = w.alloc (.cells #[.int .i64 n] 30) :=
  (cget _ n _ (cell_new _ _ _)).mono fun _ _ ⟨he, hw⟩ => ⟨he, hw.symm⟩

/-- The first Get of 'alive': the world in which it is called, and what is then. -/
theorem alive_get (w : World) :
    Calls Try.prog 22 #[.pointer (some ⟨w.heap.size + 1, 0, none⟩)] ((w.alloc (.cells #[.int .i64 0] 3)).alloc (.cells (fresh (.func (.func 35) #[] #[.pointer (some ⟨w.heap.size, 0, none⟩)]) (.int .i64 0)) 92)) fun e w' =>
      e = .returned (.tuple #[.int .i64 7, .bool true]) ∧ w'.heap[w.heap.size + 1]? = some (.cells (made (.int .i64 7)) 92 (0, 0)) ∧ w'.heap[w.heap.size]? = some (.cells #[.int .i64 1] 3 (0, 0)) ∧ Below w.heap.size w w' := by
  have hb : ((w.alloc (.cells #[.int .i64 0] 3)).alloc (.cells (fresh (.func (.func 35) #[] #[.pointer (some ⟨w.heap.size, 0, none⟩)]) (.int .i64 0)) 92)).heap[w.heap.size + 1]? = some (.cells (fresh (.func (.func 35) #[] #[.pointer (some ⟨w.heap.size, 0, none⟩)]) (.int .i64 0)) 92 (0, 0)) := by
    have := blk_new (w.alloc (.cells #[.int .i64 0] 3)) (.cells (fresh (.func (.func 35) #[] #[.pointer (some ⟨w.heap.size, 0, none⟩)]) (.int .i64 0)) 92 (0, 0))
    simpa using this
  have h0 : ((w.alloc (.cells #[.int .i64 0] 3)).alloc (.cells (fresh (.func (.func 35) #[] #[.pointer (some ⟨w.heap.size, 0, none⟩)]) (.int .i64 0)) 92)).heap[w.heap.size]? = some (.cells #[.int .i64 0] 3 (0, 0)) := blk_old (blk_new _ _) _
  have hw : Below w.heap.size w ((w.alloc (.cells #[.int .i64 0] 3)).alloc (.cells (fresh (.func (.func 35) #[] #[.pointer (some ⟨w.heap.size, 0, none⟩)]) (.int .i64 0)) 92)) := ((Below.refl _ _).alloc (Nat.le_refl _) _).alloc (by simp) _
  generalize ((w.alloc (.cells #[.int .i64 0] 3)).alloc (.cells (fresh (.func (.func 35) #[] #[.pointer (some ⟨w.heap.size, 0, none⟩)]) (.int .i64 0)) 92)) = u at hb h0 hw
  have h01 : (u.setCell ⟨w.heap.size + 1, 2, none⟩ (.int .i32 1)).heap[w.heap.size]? = some (.cells #[.int .i64 0] 3 (0, 0)) := blk_other h0 (by simp) _
  refine (getExact64 (w.heap.size + 1) 35 #[.pointer (some ⟨w.heap.size, 0, none⟩)] (fun v w2 => v = 7 ∧ w2 = (u.setCell ⟨w.heap.size + 1, 2, none⟩ (.int .i32 1)).setCell ⟨w.heap.size, 0, none⟩ (.int .i64 1)) u (.int .i64 0)
    (enters Try.func35 (by kernel_rfl) (by kernel_rfl) _) hb
    ((aliveF ⟨w.heap.size, 0, none⟩ 0 _ (blk_cell h01 rfl) (blk_free h01)).mono fun _ _ ⟨he, hw⟩ => ⟨7, he, rfl, by rw [hw, wrap01]⟩) ?_).mono ?_
  · rintro v w2 ⟨rfl, rfl⟩
    exact blk_other (blk_set (i := 2) _ hb) (by simp) _
  · rintro e w' ⟨v, w2, rfl, ⟨rfl, rfl⟩, ho, hm⟩
    refine ⟨rfl, hm, blk_only (blk_set (i := 0) (.int .i64 1) h01) ho (by simp), ?_⟩
    exact hw.trans ((((Below.refl _ _).setCell (by simp) _).setCell (by simp) _).trans (ho.below (by omega)))

set_option maxRecDepth 100000 in
set_option maxHeartbeats 1600000 in
theorem alive_true (w : World) : Calls Try.prog 12 #[] w fun e w' => e = .returned (.bool true) ∧ Below w.heap.size w w' := by
  have hmf : ∀ (fn : Fn) (first cap : Array Value) (w : World), (Instr.makeFunc fn first cap).run Try.prog w = .ok (.func fn first cap) w := fun _ _ _ _ => rfl
  have hnot : ∀ (x : Bool) (w : World), (Op.unary .not (.bool x)).run Try.prog w = .ok (.bool (!x)) w := fun _ _ => rfl
  have hb : ((w.alloc (.cells #[.int .i64 0] 3)).alloc (.cells (fresh (.func (.func 35) #[] #[.pointer (some ⟨w.heap.size, 0, none⟩)]) (.int .i64 0)) 92)).heap[w.heap.size + 1]? = some (.cells (fresh (.func (.func 35) #[] #[.pointer (some ⟨w.heap.size, 0, none⟩)]) (.int .i64 0)) 92 (0, 0)) := by
    have := blk_new (w.alloc (.cells #[.int .i64 0] 3)) (.cells (fresh (.func (.func 35) #[] #[.pointer (some ⟨w.heap.size, 0, none⟩)]) (.int .i64 0)) 92 (0, 0))
    simpa using this
  have HB := Lib.hid hb
  clear hb
  go_enter Try.func12, Try.ntmps12
  go_wp2_with (first
    | (go_at_call 19; with_reducible refine (new64 _ _ _).mono ?_; rintro e w' ⟨rfl, rfl⟩)
    | (go_at_call 19; with_reducible refine (newNil64 _).mono ?_; rintro e w' ⟨rfl, rfl⟩)
    | (go_at_call 21; refine (isMade64 (w.heap.size + 1) 0 _ _ HB.out rfl).mono ?_; rintro e w' ⟨rfl, rfl⟩))
  refine (alive_get w).mono ?_
  rintro e w1 ⟨rfl, hm, hc, hbel⟩
  have hc1 : w1.cell? ⟨w.heap.size, 0, none⟩ = some (.int .i64 1) := blk_cell hc rfl
  have hlt : w.heap.size < w1.heap.size := lt_of_block hc
  have HM := Lib.hid hm
  have HM2 := Lib.hid (blk_old hm (.cells #[.int .i64 0] 30))
  have HBEL := Lib.hid hbel
  clear hm hc hbel HB
  go_wp2_with (first
    | (go_at_call 22; refine (getMade64 (w.heap.size + 1) 7 _ HM.out).mono ?_; rintro e w' ⟨rfl, rfl⟩)
    | (go_at_call 21; refine (isMade64 (w.heap.size + 1) 1 _ _ HM2.out rfl).mono ?_; rintro e w' ⟨rfl, rfl⟩)
    | (go_at_call 14; refine (cadd_new 0 3 3 wrap03 w1).mono ?_; rintro e w' ⟨rfl, rfl⟩)
    | (go_at_call 15; refine (cswap_new 3 5 w1).mono ?_; rintro e w' ⟨rfl, rfl⟩)
    | (go_at_call 16; with_reducible refine (ctry_hit_new 5 7 w1).mono ?_; rintro e w' ⟨rfl, rfl⟩)
    | (go_at_call 16; with_reducible refine (ctry_miss_new 7 5 7 (by decide) w1).mono ?_; rintro e w' ⟨rfl, rfl⟩)
    | (go_at_call 17; refine (cmax_stay_new 7 6 (by decide) w1).mono ?_; rintro e w' ⟨rfl, rfl⟩)
    | (go_at_call 18; refine (cget_new 7 w1).mono ?_; rintro e w' ⟨rfl, rfl⟩))
  go_ret
  exact ⟨rfl, HBEL.out.alloc (by omega) _⟩
end Go.Proofs.Ytcogfajmocbogaa
