/-
  LazyNobody: a value that no call made tells nothing, and a count that is nil tells nought, whatever the number.
-/
import Derived.Test.YtcogfajmocbogaaAlive
namespace Go.Proofs.Ytcogfajmocbogaa
open Go.RowKit

/-- The block of a value that no call made. -/
def blank : Array Value := #[.bool false, .int .u32 0, .int .i32 0, .int .u32 0, .nilFunc, .string { data := #[] }, .int .u32 0]

theorem getBlank (b : Nat) (w : World) (hb : w.heap[b]? = some (.cells blank 72 (0, 0))) :
    Calls Try.prog 27 #[.pointer (some ⟨b, 0, none⟩)] w fun e w' => e = .returned (.tuple #[.string { data := #[] }, .bool false]) ∧ w = w' := by
  have c0 : w.cell? ⟨b, 0, none⟩ = some (.bool false) := blk_cell hb rfl
  have hnot : ∀ (x : Bool) (w : World), (Op.unary .not (.bool x)).run Try.prog w = .ok (.bool (!x)) w := fun _ _ => rfl
  clear hb
  go_enter Try.func27, Try.ntmps27
  go_wp2
  go_ret2
  exact ⟨rfl, rfl⟩
theorem getNil (w : World) :
    Calls Try.prog 27 #[.pointer none] w fun e w' => e = .returned (.tuple #[.string { data := #[] }, .bool false]) ∧ w = w' := by
  go_enter Try.func27, Try.ntmps27
  go_wp2
  go_ret2
  exact ⟨rfl, rfl⟩
theorem madeNil (w : World) :
    Calls Try.prog 28 #[.pointer none] w fun e w' => e = .returned (.bool false) ∧ w = w' := by
  go_enter Try.func28, Try.ntmps28
  go_wp2
  go_ret
  exact ⟨rfl, rfl⟩
theorem bldBlank (w : World) : (Instr.build 72 #[]).run Try.prog w = .ok (.agg blank) w := run_build w 72 #[] _ (by kernel_rfl)

set_option maxRecDepth 100000 in
set_option maxHeartbeats 1600000 in
theorem nobody_walk (n : Int) (w : World) :
    Calls Try.prog 8 #[.int .i64 n] w fun e w' => e = .returned (.bool true) ∧ Below w.heap.size w w' := by
  have hnot : ∀ (x : Bool) (w : World), (Op.unary .not (.bool x)).run Try.prog w = .ok (.bool (!x)) w := fun _ _ => rfl
  have hbl := bldBlank
  go_enter Try.func8, Try.ntmps8
  go_wp2_with (go_at_call 12; refine (alive_true w).mono ?_; rintro e w1 ⟨rfl, hbel⟩; have HBEL := Lib.hid hbel; clear hbel)
  have hb : ((w1.alloc (.cells #[.bool false, .int .u32 0, .int .i32 0, .int .u32 0, .nilFunc, .string { data := #[] }, .int .u32 0] 72)).alloc (.cells #[.pointer none, .pointer (some ⟨w1.heap.size, 0, none⟩)] 59)).heap[w1.heap.size]? = some (.cells blank 72 (0, 0)) := blk_old (blk_new _ _) _
  have ha : ((w1.alloc (.cells #[.bool false, .int .u32 0, .int .i32 0, .int .u32 0, .nilFunc, .string { data := #[] }, .int .u32 0] 72)).alloc (.cells #[.pointer none, .pointer (some ⟨w1.heap.size, 0, none⟩)] 59)).heap[w1.heap.size + 1]? = some (.cells #[.pointer none, .pointer (some ⟨w1.heap.size, 0, none⟩)] 59 (0, 0)) := by
    have := blk_new (w1.alloc (.cells #[.bool false, .int .u32 0, .int .i32 0, .int .u32 0, .nilFunc, .string { data := #[] }, .int .u32 0] 72)) (.cells #[.pointer none, .pointer (some ⟨w1.heap.size, 0, none⟩)] 59 (0, 0))
    simpa using this
  have HW := Lib.hid ((HBEL.out.alloc HBEL.out.size (.cells #[.bool false, .int .u32 0, .int .i32 0, .int .u32 0, .nilFunc, .string { data := #[] }, .int .u32 0] 72 (0, 0))).alloc (by have := HBEL.out.size; simp; omega) (.cells #[.pointer none, .pointer (some ⟨w1.heap.size, 0, none⟩)] 59 (0, 0)))
  clear HBEL
  generalize ((w1.alloc (.cells #[.bool false, .int .u32 0, .int .i32 0, .int .u32 0, .nilFunc, .string { data := #[] }, .int .u32 0] 72)).alloc (.cells #[.pointer none, .pointer (some ⟨w1.heap.size, 0, none⟩)] 59)) = U at hb ha HW ⊢
  have a0 : U.cell? ⟨w1.heap.size + 1, 0, none⟩ = some (.pointer none) := blk_cell ha rfl
  have a1 : U.cell? ⟨w1.heap.size + 1, 1, none⟩ = some (.pointer (some ⟨w1.heap.size, 0, none⟩)) := blk_cell ha rfl
  have HB := Lib.hid hb
  clear hb ha hbl
  refine wp_loop_rounds 3 ?_
  rw [rounds_succ]
  go_wp2_with (first
    | (go_at_call 27; refine (getNil _).mono ?_; rintro e w' ⟨rfl, rfl⟩)
    | (go_at_call 28; refine (madeNil _).mono ?_; rintro e w' ⟨rfl, rfl⟩))
  rw [rounds_succ]
  go_wp2_with (first
    | (go_at_call 27; refine (getBlank w1.heap.size _ HB.out).mono ?_; rintro e w' ⟨rfl, rfl⟩)
    | (go_at_call 28; refine (isMadeS w1.heap.size 0 _ _ HB.out rfl).mono ?_; rintro e w' ⟨rfl, rfl⟩))
  rw [rounds_succ]
  go_wp2_with (first
    | (go_at_call 14; refine (nil_add n _).mono ?_; rintro e w' ⟨rfl, rfl⟩)
    | (go_at_call 15; refine (nil_swap n _).mono ?_; rintro e w' ⟨rfl, rfl⟩)
    | (go_at_call 16; refine (nil_try 0 n _).mono ?_; rintro e w' ⟨rfl, rfl⟩)
    | (go_at_call 17; refine (nil_max n _).mono ?_; rintro e w' ⟨rfl, rfl⟩)
    | (go_at_call 18; refine (nil_get _).mono ?_; rintro e w' ⟨rfl, rfl⟩))
  go_ret
  exact ⟨rfl, HW.out⟩
end Go.Proofs.Ytcogfajmocbogaa
