/-
  lazy.Value: New, Get, Made, and the fill that Get hands to sync.Once, at the four types of values that the statements use.
  Conditions: one goroutine; the value lies at the head of a block, as New lays it; what make answers, and leaves, is said by a contract of make's own, under which the value's block stays as it is.
-/
import Derived.Test.YtcogfajmocbogaaOnce
import Derived.Test.YtcogfajmocbogaaBlocks
import Derived.Laws.EntriesVeiled
import Derived.Laws.Tables
namespace Go.Proofs.Ytcogfajmocbogaa
open Go.RowKit

/-- A call of a function that has a body enters it. -/
theorem enters {P : Program} {f : FuncId} {fn : Func} (hf : P.funcs[f]? = some fn) (hname : (fn.name == "runtime.NumGoroutine") = false) (hb : fn.body.isSome = true) (args : Array Value) (w : World) :
    (callFunc f args).run P w = .ok (.enter f args) w := by
  have h1 : fn.name ≠ "runtime.NumGoroutine" := by simpa using hname
  obtain ⟨c, hc⟩ := Option.isSome_iff_exists.1 hb
  simp [callFunc, hf, h1, hc]

/-- The block of a value that New made and nobody has asked for; while it is being made; that is made. -/
def fresh (fv z : Value) : Array Value := #[.bool true, .int .u32 0, .int .i32 0, .int .u32 0, fv, z, .int .u32 0]
def midway (fv z : Value) : Array Value := #[.bool true, .int .u32 0, .int .i32 1, .int .u32 0, fv, z, .int .u32 0]
def made (v : Value) : Array Value := #[.bool true, .int .u32 1, .int .i32 0, .int .u32 0, .nilFunc, v, .int .u32 1]

/-! ### at the type 64 -/
set_option maxRecDepth 100000 in
set_option maxHeartbeats 800000 in
theorem fill64 (b : Nat) (F : FuncId) (caps : Array Value) (Q : Int → World → Prop) (w : World)
    (hcf : ∀ u : World, (callFunc F caps).run Try.prog u = .ok (.enter F caps) u)
    (h4 : w.cell? ⟨b, 4, none⟩ = some (.func (.func F) #[] caps))
    (hf : Calls Try.prog F caps w fun e w2 => ∃ v, e = .returned (.int .i64 v) ∧ Q v w2)
    (x4 x5 x6 : Value)
    (hQ : ∀ v w2, Q v w2 → w2.cell? ⟨b, 4, none⟩ = some x4 ∧ w2.cell? ⟨b, 5, none⟩ = some x5 ∧ w2.cell? ⟨b, 6, none⟩ = some x6 ∧ w2.frozen? ⟨b, 4, none⟩ = false ∧ w2.frozen? ⟨b, 5, none⟩ = false ∧ w2.frozen? ⟨b, 6, none⟩ = false) :
    Calls Try.prog 42 #[.pointer (some ⟨b, 0, none⟩)] w fun e w' => e = .returned (.tuple #[]) ∧
      ∃ v w2, Q v w2 ∧ w' = ((w2.setCell ⟨b, 5, none⟩ (.int .i64 v)).setCell ⟨b, 4, none⟩ .nilFunc).drew.setCell ⟨b, 6, none⟩ (.int .u32 1) := by
  have HF := Lib.hid hf
  have HQ := Lib.hid hQ
  clear hf hQ
  go_enter Try.func42, Try.ntmps42
  go_wp2_with fail
  refine HF.out.mono ?_
  rintro e w2 ⟨v, rfl, hq⟩
  obtain ⟨g4, g5, g6, z4, z5, z6⟩ := HQ.out v w2 hq
  have HQ2 := Lib.hid hq
  clear hq HF HQ hcf h4
  have k6 : ((w2.setCell ⟨b, 5, none⟩ (.int .i64 v)).setCell ⟨b, 4, none⟩ .nilFunc).cell? ⟨b, 6, none⟩ = some x6 :=
    (World.cell?_setCell_other _ ⟨b, 4, none⟩ ⟨b, 6, none⟩ _ (by simp)).trans ((World.cell?_setCell_other _ ⟨b, 5, none⟩ ⟨b, 6, none⟩ _ (by simp)).trans g6)
  have k4 : (w2.setCell ⟨b, 5, none⟩ (.int .i64 v)).cell? ⟨b, 4, none⟩ = some x4 := (World.cell?_setCell_other _ ⟨b, 5, none⟩ ⟨b, 4, none⟩ _ (by simp)).trans g4
  go_wp2_with (go_at_call 52; refine (bstore ⟨b, 6, none⟩ x6 _ k6 (by simp [z6])).mono ?_; rintro e w' ⟨rfl, rfl⟩)
  go_end0
  exact ⟨rfl, v, w2, HQ2.out, rfl⟩

set_option maxRecDepth 100000 in
set_option maxHeartbeats 800000 in
theorem getExact64 (b : Nat) (F : FuncId) (caps : Array Value) (Q : Int → World → Prop) (w : World) (z : Value)
    (hcf : ∀ u : World, (callFunc F caps).run Try.prog u = .ok (.enter F caps) u)
    (hb : w.heap[b]? = some (.cells (fresh (.func (.func F) #[] caps) z) 92 (0, 0)))
    (hf : Calls Try.prog F caps (w.setCell ⟨b, 2, none⟩ (.int .i32 1)) fun e w2 => ∃ v, e = .returned (.int .i64 v) ∧ Q v w2)
    (hQ : ∀ v w2, Q v w2 → w2.heap[b]? = some (.cells (midway (.func (.func F) #[] caps) z) 92 (0, 0))) :
    Calls Try.prog 22 #[.pointer (some ⟨b, 0, none⟩)] w fun e w' =>
      ∃ v w2, e = .returned (.tuple #[.int .i64 v, .bool true]) ∧ Q v w2 ∧ Only b w2 w' ∧ w'.heap[b]? = some (.cells (made (.int .i64 v)) 92 (0, 0)) := by
  have c0 : w.cell? ⟨b, 0, none⟩ = some (.bool true) := blk_cell hb rfl
  have c1 : w.cell? ⟨b, 1, none⟩ = some (.int .u32 0) := blk_cell hb rfl
  have c2 : w.cell? ⟨b, 2, none⟩ = some (.int .i32 0) := blk_cell hb rfl
  have z2 : w.frozen? ⟨b, 2, none⟩ = false := blk_free hb
  have hb1 := blk_set (i := 2) (.int .i32 1) hb
  have k4 : (w.setCell ⟨b, 2, none⟩ (.int .i32 1)).cell? ⟨b, 4, none⟩ = some (.func (.func F) #[] caps) := blk_cell hb1 rfl
  have HD := Lib.hid (do_first b 42 (.pointer (some ⟨b, 0, none⟩)) (fun w' => ∃ v w2, Q v w2 ∧ w' = ((w2.setCell ⟨b, 5, none⟩ (.int .i64 v)).setCell ⟨b, 4, none⟩ .nilFunc).drew.setCell ⟨b, 6, none⟩ (.int .u32 1)) w
    (enters Try.func42 (by kernel_rfl) (by kernel_rfl) _) c1 c2 z2
    (fill64 b F caps Q _ hcf k4 hf _ _ _ (fun v w2 hq => ⟨blk_cell (hQ v w2 hq) rfl, blk_cell (hQ v w2 hq) rfl, blk_cell (hQ v w2 hq) rfl, blk_free (hQ v w2 hq), blk_free (hQ v w2 hq), blk_free (hQ v w2 hq)⟩))
    (by
      rintro w' ⟨v, w2, hq, rfl⟩
      have h2 := blk_set (i := 6) (.int .u32 1) (blk_drew (blk_set (i := 4) .nilFunc (blk_set (i := 5) (.int .i64 v) (hQ v w2 hq))))
      exact ⟨blk_cell h2 rfl, blk_cell h2 rfl, blk_free h2, blk_free h2⟩))
  have HQ := Lib.hid hQ
  clear hf hQ hcf hb1 k4 hb
  have hmf : ∀ (fn : Fn) (first cap : Array Value) (w : World), (Instr.makeFunc fn first cap).run Try.prog w = .ok (.func fn first cap) w := fun _ _ _ _ => rfl
  have hnot : ∀ (x : Bool) (w : World), (Op.unary .not (.bool x)).run Try.prog w = .ok (.bool (!x)) w := fun _ _ => rfl
  go_enter Try.func22, Try.ntmps22
  go_wp2_with fail
  refine HD.out.mono ?_
  rintro e w' ⟨rfl, w3, ⟨v, w2, hq, rfl⟩, rfl⟩
  have h2 := blk_set (i := 2) (.int .i32 0) (blk_set (i := 1) (.int .u32 1) (blk_drew (blk_set (i := 6) (.int .u32 1) (blk_drew (blk_set (i := 4) .nilFunc (blk_set (i := 5) (.int .i64 v) (HQ.out v w2 hq)))))))
  have ho := (((((((Only.refl b w2).setCell 5 (.int .i64 v)).setCell 4 .nilFunc).drew).setCell 6 (.int .u32 1)).drew).setCell 1 (.int .u32 1)).setCell 2 (.int .i32 0)
  have H2 := Lib.hid (show _ = some (Obj.cells (made (.int .i64 v)) 92 (0, 0)) from h2)
  have HO := Lib.hid ho
  have HQ2 := Lib.hid hq
  clear h2 ho hq HQ HD
  generalize (((((w2.setCell ⟨b, 5, none⟩ (.int .i64 v)).setCell ⟨b, 4, none⟩ .nilFunc).drew.setCell ⟨b, 6, none⟩ (.int .u32 1)).drew.setCell ⟨b, 1, none⟩ (.int .u32 1)).setCell ⟨b, 2, none⟩ (.int .i32 0)) = w' at H2 HO ⊢
  have c5 : w'.cell? ⟨b, 5, none⟩ = some (.int .i64 v) := blk_cell H2.out rfl
  go_wp2
  go_ret2
  exact ⟨v, w2, rfl, HQ2.out, HO.out, H2.out⟩

theorem getMade64 (b : Nat) (v : Int) (w : World) (hb : w.heap[b]? = some (.cells (made (.int .i64 v)) 92 (0, 0))) :
    Calls Try.prog 22 #[.pointer (some ⟨b, 0, none⟩)] w fun e w' => e = .returned (.tuple #[.int .i64 v, .bool true]) ∧ w = w' := by
  have c0 : w.cell? ⟨b, 0, none⟩ = some (.bool true) := blk_cell hb rfl
  have c1 : w.cell? ⟨b, 1, none⟩ = some (.int .u32 1) := blk_cell hb rfl
  have c5 : w.cell? ⟨b, 5, none⟩ = some (.int .i64 v) := blk_cell hb rfl
  have hmf : ∀ (fn : Fn) (first cap : Array Value) (w : World), (Instr.makeFunc fn first cap).run Try.prog w = .ok (.func fn first cap) w := fun _ _ _ _ => rfl
  have hnot : ∀ (x : Bool) (w : World), (Op.unary .not (.bool x)).run Try.prog w = .ok (.bool (!x)) w := fun _ _ => rfl
  clear hb
  go_enter Try.func22, Try.ntmps22
  go_wp2_with (go_at_call 41; refine (do_done ⟨b, 1, none⟩ _ _ c1).mono ?_; rintro e w' ⟨rfl, rfl⟩)
  go_ret2
  exact ⟨rfl, rfl⟩

theorem eqf64 (F : FuncId) (caps : Array Value) (w : World) : (binOp .eql 37 (.func (.func F) #[] caps) .nilFunc).run Try.prog w = .ok (.bool false) w := by
  have h : ∀ d : Nat, (Op.equalIn (d + 1) 37 (.func (.func F) #[] caps) .nilFunc).run Try.prog w = .ok false w := fun d => by
    simp [Op.equalIn, run_underlying Try.underlying37]
  simp only [binOp]
  simp [Op.equal, Op.maxDepth, h 9999]
theorem bld64 (F : FuncId) (caps : Array Value) (w : World) : (Instr.build 92 #[(0, .bool true), (2, .func (.func F) #[] caps)]).run Try.prog w = .ok (.agg (fresh (.func (.func F) #[] caps) (.int .i64 0))) w :=
  run_build w 92 #[(0, .bool true), (2, .func (.func F) #[] caps)] _ (by kernel_rfl)

set_option maxRecDepth 100000 in
theorem new64 (F : FuncId) (caps : Array Value) (w : World) :
    Calls Try.prog 19 #[.func (.func F) #[] caps] w fun e w' => e = .returned (.pointer (some ⟨w.heap.size, 0, none⟩)) ∧ w' = w.alloc (.cells (fresh (.func (.func F) #[] caps) (.int .i64 0)) 92) := by
  have h1 := eqf64 F caps
  have h2 := bld64 F caps
  go_enter Try.func19, Try.ntmps19
  go_wp2
  go_ret
  exact ⟨rfl, rfl⟩

theorem isMade64 (b : Nat) (x : Int) (cs : Array Value) (w : World) (hb : w.heap[b]? = some (.cells cs 92 (0, 0))) (hx : cs[6]? = some (.int .u32 x)) :
    Calls Try.prog 21 #[.pointer (some ⟨b, 0, none⟩)] w fun e w' => e = .returned (.bool (x != 0)) ∧ w = w' := by
  have c6 : w.cell? ⟨b, 6, none⟩ = some (.int .u32 x) := blk_cell hb hx
  clear hb hx
  go_enter Try.func21, Try.ntmps21
  go_wp2_with (go_at_call 40; refine (bload ⟨b, 6, none⟩ x _ c6).mono ?_; rintro e w' ⟨rfl, rfl⟩)
  go_ret
  exact ⟨rfl, rfl⟩

/-! ### at the type I -/
set_option maxRecDepth 100000 in
set_option maxHeartbeats 800000 in
theorem fillI (b : Nat) (F : FuncId) (caps : Array Value) (Q : Int → World → Prop) (w : World)
    (hcf : ∀ u : World, (callFunc F caps).run Try.prog u = .ok (.enter F caps) u)
    (h4 : w.cell? ⟨b, 4, none⟩ = some (.func (.func F) #[] caps))
    (hf : Calls Try.prog F caps w fun e w2 => ∃ v, e = .returned (.int .i64 v) ∧ Q v w2)
    (x4 x5 x6 : Value)
    (hQ : ∀ v w2, Q v w2 → w2.cell? ⟨b, 4, none⟩ = some x4 ∧ w2.cell? ⟨b, 5, none⟩ = some x5 ∧ w2.cell? ⟨b, 6, none⟩ = some x6 ∧ w2.frozen? ⟨b, 4, none⟩ = false ∧ w2.frozen? ⟨b, 5, none⟩ = false ∧ w2.frozen? ⟨b, 6, none⟩ = false) :
    Calls Try.prog 43 #[.pointer (some ⟨b, 0, none⟩)] w fun e w' => e = .returned (.tuple #[]) ∧
      ∃ v w2, Q v w2 ∧ w' = ((w2.setCell ⟨b, 5, none⟩ (.int .i64 v)).setCell ⟨b, 4, none⟩ .nilFunc).drew.setCell ⟨b, 6, none⟩ (.int .u32 1) := by
  have HF := Lib.hid hf
  have HQ := Lib.hid hQ
  clear hf hQ
  go_enter Try.func43, Try.ntmps43
  go_wp2_with fail
  refine HF.out.mono ?_
  rintro e w2 ⟨v, rfl, hq⟩
  obtain ⟨g4, g5, g6, z4, z5, z6⟩ := HQ.out v w2 hq
  have HQ2 := Lib.hid hq
  clear hq HF HQ hcf h4
  have k6 : ((w2.setCell ⟨b, 5, none⟩ (.int .i64 v)).setCell ⟨b, 4, none⟩ .nilFunc).cell? ⟨b, 6, none⟩ = some x6 :=
    (World.cell?_setCell_other _ ⟨b, 4, none⟩ ⟨b, 6, none⟩ _ (by simp)).trans ((World.cell?_setCell_other _ ⟨b, 5, none⟩ ⟨b, 6, none⟩ _ (by simp)).trans g6)
  have k4 : (w2.setCell ⟨b, 5, none⟩ (.int .i64 v)).cell? ⟨b, 4, none⟩ = some x4 := (World.cell?_setCell_other _ ⟨b, 5, none⟩ ⟨b, 4, none⟩ _ (by simp)).trans g4
  go_wp2_with (go_at_call 52; refine (bstore ⟨b, 6, none⟩ x6 _ k6 (by simp [z6])).mono ?_; rintro e w' ⟨rfl, rfl⟩)
  go_end0
  exact ⟨rfl, v, w2, HQ2.out, rfl⟩

set_option maxRecDepth 100000 in
set_option maxHeartbeats 800000 in
theorem getExactI (b : Nat) (F : FuncId) (caps : Array Value) (Q : Int → World → Prop) (w : World) (z : Value)
    (hcf : ∀ u : World, (callFunc F caps).run Try.prog u = .ok (.enter F caps) u)
    (hb : w.heap[b]? = some (.cells (fresh (.func (.func F) #[] caps) z) 95 (0, 0)))
    (hf : Calls Try.prog F caps (w.setCell ⟨b, 2, none⟩ (.int .i32 1)) fun e w2 => ∃ v, e = .returned (.int .i64 v) ∧ Q v w2)
    (hQ : ∀ v w2, Q v w2 → w2.heap[b]? = some (.cells (midway (.func (.func F) #[] caps) z) 95 (0, 0))) :
    Calls Try.prog 25 #[.pointer (some ⟨b, 0, none⟩)] w fun e w' =>
      ∃ v w2, e = .returned (.tuple #[.int .i64 v, .bool true]) ∧ Q v w2 ∧ Only b w2 w' ∧ w'.heap[b]? = some (.cells (made (.int .i64 v)) 95 (0, 0)) := by
  have c0 : w.cell? ⟨b, 0, none⟩ = some (.bool true) := blk_cell hb rfl
  have c1 : w.cell? ⟨b, 1, none⟩ = some (.int .u32 0) := blk_cell hb rfl
  have c2 : w.cell? ⟨b, 2, none⟩ = some (.int .i32 0) := blk_cell hb rfl
  have z2 : w.frozen? ⟨b, 2, none⟩ = false := blk_free hb
  have hb1 := blk_set (i := 2) (.int .i32 1) hb
  have k4 : (w.setCell ⟨b, 2, none⟩ (.int .i32 1)).cell? ⟨b, 4, none⟩ = some (.func (.func F) #[] caps) := blk_cell hb1 rfl
  have HD := Lib.hid (do_first b 43 (.pointer (some ⟨b, 0, none⟩)) (fun w' => ∃ v w2, Q v w2 ∧ w' = ((w2.setCell ⟨b, 5, none⟩ (.int .i64 v)).setCell ⟨b, 4, none⟩ .nilFunc).drew.setCell ⟨b, 6, none⟩ (.int .u32 1)) w
    (enters Try.func43 (by kernel_rfl) (by kernel_rfl) _) c1 c2 z2
    (fillI b F caps Q _ hcf k4 hf _ _ _ (fun v w2 hq => ⟨blk_cell (hQ v w2 hq) rfl, blk_cell (hQ v w2 hq) rfl, blk_cell (hQ v w2 hq) rfl, blk_free (hQ v w2 hq), blk_free (hQ v w2 hq), blk_free (hQ v w2 hq)⟩))
    (by
      rintro w' ⟨v, w2, hq, rfl⟩
      have h2 := blk_set (i := 6) (.int .u32 1) (blk_drew (blk_set (i := 4) .nilFunc (blk_set (i := 5) (.int .i64 v) (hQ v w2 hq))))
      exact ⟨blk_cell h2 rfl, blk_cell h2 rfl, blk_free h2, blk_free h2⟩))
  have HQ := Lib.hid hQ
  clear hf hQ hcf hb1 k4 hb
  have hmf : ∀ (fn : Fn) (first cap : Array Value) (w : World), (Instr.makeFunc fn first cap).run Try.prog w = .ok (.func fn first cap) w := fun _ _ _ _ => rfl
  have hnot : ∀ (x : Bool) (w : World), (Op.unary .not (.bool x)).run Try.prog w = .ok (.bool (!x)) w := fun _ _ => rfl
  go_enter Try.func25, Try.ntmps25
  go_wp2_with fail
  refine HD.out.mono ?_
  rintro e w' ⟨rfl, w3, ⟨v, w2, hq, rfl⟩, rfl⟩
  have h2 := blk_set (i := 2) (.int .i32 0) (blk_set (i := 1) (.int .u32 1) (blk_drew (blk_set (i := 6) (.int .u32 1) (blk_drew (blk_set (i := 4) .nilFunc (blk_set (i := 5) (.int .i64 v) (HQ.out v w2 hq)))))))
  have ho := (((((((Only.refl b w2).setCell 5 (.int .i64 v)).setCell 4 .nilFunc).drew).setCell 6 (.int .u32 1)).drew).setCell 1 (.int .u32 1)).setCell 2 (.int .i32 0)
  have H2 := Lib.hid (show _ = some (Obj.cells (made (.int .i64 v)) 95 (0, 0)) from h2)
  have HO := Lib.hid ho
  have HQ2 := Lib.hid hq
  clear h2 ho hq HQ HD
  generalize (((((w2.setCell ⟨b, 5, none⟩ (.int .i64 v)).setCell ⟨b, 4, none⟩ .nilFunc).drew.setCell ⟨b, 6, none⟩ (.int .u32 1)).drew.setCell ⟨b, 1, none⟩ (.int .u32 1)).setCell ⟨b, 2, none⟩ (.int .i32 0)) = w' at H2 HO ⊢
  have c5 : w'.cell? ⟨b, 5, none⟩ = some (.int .i64 v) := blk_cell H2.out rfl
  go_wp2
  go_ret2
  exact ⟨v, w2, rfl, HQ2.out, HO.out, H2.out⟩

theorem getMadeI (b : Nat) (v : Int) (w : World) (hb : w.heap[b]? = some (.cells (made (.int .i64 v)) 95 (0, 0))) :
    Calls Try.prog 25 #[.pointer (some ⟨b, 0, none⟩)] w fun e w' => e = .returned (.tuple #[.int .i64 v, .bool true]) ∧ w = w' := by
  have c0 : w.cell? ⟨b, 0, none⟩ = some (.bool true) := blk_cell hb rfl
  have c1 : w.cell? ⟨b, 1, none⟩ = some (.int .u32 1) := blk_cell hb rfl
  have c5 : w.cell? ⟨b, 5, none⟩ = some (.int .i64 v) := blk_cell hb rfl
  have hmf : ∀ (fn : Fn) (first cap : Array Value) (w : World), (Instr.makeFunc fn first cap).run Try.prog w = .ok (.func fn first cap) w := fun _ _ _ _ => rfl
  have hnot : ∀ (x : Bool) (w : World), (Op.unary .not (.bool x)).run Try.prog w = .ok (.bool (!x)) w := fun _ _ => rfl
  clear hb
  go_enter Try.func25, Try.ntmps25
  go_wp2_with (go_at_call 41; refine (do_done ⟨b, 1, none⟩ _ _ c1).mono ?_; rintro e w' ⟨rfl, rfl⟩)
  go_ret2
  exact ⟨rfl, rfl⟩

theorem eqfI (F : FuncId) (caps : Array Value) (w : World) : (binOp .eql 49 (.func (.func F) #[] caps) .nilFunc).run Try.prog w = .ok (.bool false) w := by
  have h : ∀ d : Nat, (Op.equalIn (d + 1) 49 (.func (.func F) #[] caps) .nilFunc).run Try.prog w = .ok false w := fun d => by
    simp [Op.equalIn, run_underlying Try.underlying49]
  simp only [binOp]
  simp [Op.equal, Op.maxDepth, h 9999]
theorem bldI (F : FuncId) (caps : Array Value) (w : World) : (Instr.build 95 #[(0, .bool true), (2, .func (.func F) #[] caps)]).run Try.prog w = .ok (.agg (fresh (.func (.func F) #[] caps) (.int .i64 0))) w :=
  run_build w 95 #[(0, .bool true), (2, .func (.func F) #[] caps)] _ (by kernel_rfl)

set_option maxRecDepth 100000 in
theorem newI (F : FuncId) (caps : Array Value) (w : World) :
    Calls Try.prog 23 #[.func (.func F) #[] caps] w fun e w' => e = .returned (.pointer (some ⟨w.heap.size, 0, none⟩)) ∧ w' = w.alloc (.cells (fresh (.func (.func F) #[] caps) (.int .i64 0)) 95) := by
  have h1 := eqfI F caps
  have h2 := bldI F caps
  go_enter Try.func23, Try.ntmps23
  go_wp2
  go_ret
  exact ⟨rfl, rfl⟩

theorem isMadeI (b : Nat) (x : Int) (cs : Array Value) (w : World) (hb : w.heap[b]? = some (.cells cs 95 (0, 0))) (hx : cs[6]? = some (.int .u32 x)) :
    Calls Try.prog 26 #[.pointer (some ⟨b, 0, none⟩)] w fun e w' => e = .returned (.bool (x != 0)) ∧ w = w' := by
  have c6 : w.cell? ⟨b, 6, none⟩ = some (.int .u32 x) := blk_cell hb hx
  clear hb hx
  go_enter Try.func26, Try.ntmps26
  go_wp2_with (go_at_call 40; refine (bload ⟨b, 6, none⟩ x _ c6).mono ?_; rintro e w' ⟨rfl, rfl⟩)
  go_ret
  exact ⟨rfl, rfl⟩

/-! ### at the type S -/
set_option maxRecDepth 100000 in
set_option maxHeartbeats 800000 in
theorem fillS (b : Nat) (F : FuncId) (caps : Array Value) (Q : ByteArray → World → Prop) (w : World)
    (hcf : ∀ u : World, (callFunc F caps).run Try.prog u = .ok (.enter F caps) u)
    (h4 : w.cell? ⟨b, 4, none⟩ = some (.func (.func F) #[] caps))
    (hf : Calls Try.prog F caps w fun e w2 => ∃ v, e = .returned (.string v) ∧ Q v w2)
    (x4 x5 x6 : Value)
    (hQ : ∀ v w2, Q v w2 → w2.cell? ⟨b, 4, none⟩ = some x4 ∧ w2.cell? ⟨b, 5, none⟩ = some x5 ∧ w2.cell? ⟨b, 6, none⟩ = some x6 ∧ w2.frozen? ⟨b, 4, none⟩ = false ∧ w2.frozen? ⟨b, 5, none⟩ = false ∧ w2.frozen? ⟨b, 6, none⟩ = false) :
    Calls Try.prog 44 #[.pointer (some ⟨b, 0, none⟩)] w fun e w' => e = .returned (.tuple #[]) ∧
      ∃ v w2, Q v w2 ∧ w' = ((w2.setCell ⟨b, 5, none⟩ (.string v)).setCell ⟨b, 4, none⟩ .nilFunc).drew.setCell ⟨b, 6, none⟩ (.int .u32 1) := by
  have HF := Lib.hid hf
  have HQ := Lib.hid hQ
  clear hf hQ
  go_enter Try.func44, Try.ntmps44
  go_wp2_with fail
  refine HF.out.mono ?_
  rintro e w2 ⟨v, rfl, hq⟩
  obtain ⟨g4, g5, g6, z4, z5, z6⟩ := HQ.out v w2 hq
  have HQ2 := Lib.hid hq
  clear hq HF HQ hcf h4
  have k6 : ((w2.setCell ⟨b, 5, none⟩ (.string v)).setCell ⟨b, 4, none⟩ .nilFunc).cell? ⟨b, 6, none⟩ = some x6 :=
    (World.cell?_setCell_other _ ⟨b, 4, none⟩ ⟨b, 6, none⟩ _ (by simp)).trans ((World.cell?_setCell_other _ ⟨b, 5, none⟩ ⟨b, 6, none⟩ _ (by simp)).trans g6)
  have k4 : (w2.setCell ⟨b, 5, none⟩ (.string v)).cell? ⟨b, 4, none⟩ = some x4 := (World.cell?_setCell_other _ ⟨b, 5, none⟩ ⟨b, 4, none⟩ _ (by simp)).trans g4
  go_wp2_with (go_at_call 52; refine (bstore ⟨b, 6, none⟩ x6 _ k6 (by simp [z6])).mono ?_; rintro e w' ⟨rfl, rfl⟩)
  go_end0
  exact ⟨rfl, v, w2, HQ2.out, rfl⟩

set_option maxRecDepth 100000 in
set_option maxHeartbeats 800000 in
theorem getExactS (b : Nat) (F : FuncId) (caps : Array Value) (Q : ByteArray → World → Prop) (w : World) (z : Value)
    (hcf : ∀ u : World, (callFunc F caps).run Try.prog u = .ok (.enter F caps) u)
    (hb : w.heap[b]? = some (.cells (fresh (.func (.func F) #[] caps) z) 72 (0, 0)))
    (hf : Calls Try.prog F caps (w.setCell ⟨b, 2, none⟩ (.int .i32 1)) fun e w2 => ∃ v, e = .returned (.string v) ∧ Q v w2)
    (hQ : ∀ v w2, Q v w2 → w2.heap[b]? = some (.cells (midway (.func (.func F) #[] caps) z) 72 (0, 0))) :
    Calls Try.prog 27 #[.pointer (some ⟨b, 0, none⟩)] w fun e w' =>
      ∃ v w2, e = .returned (.tuple #[.string v, .bool true]) ∧ Q v w2 ∧ Only b w2 w' ∧ w'.heap[b]? = some (.cells (made (.string v)) 72 (0, 0)) := by
  have c0 : w.cell? ⟨b, 0, none⟩ = some (.bool true) := blk_cell hb rfl
  have c1 : w.cell? ⟨b, 1, none⟩ = some (.int .u32 0) := blk_cell hb rfl
  have c2 : w.cell? ⟨b, 2, none⟩ = some (.int .i32 0) := blk_cell hb rfl
  have z2 : w.frozen? ⟨b, 2, none⟩ = false := blk_free hb
  have hb1 := blk_set (i := 2) (.int .i32 1) hb
  have k4 : (w.setCell ⟨b, 2, none⟩ (.int .i32 1)).cell? ⟨b, 4, none⟩ = some (.func (.func F) #[] caps) := blk_cell hb1 rfl
  have HD := Lib.hid (do_first b 44 (.pointer (some ⟨b, 0, none⟩)) (fun w' => ∃ v w2, Q v w2 ∧ w' = ((w2.setCell ⟨b, 5, none⟩ (.string v)).setCell ⟨b, 4, none⟩ .nilFunc).drew.setCell ⟨b, 6, none⟩ (.int .u32 1)) w
    (enters Try.func44 (by kernel_rfl) (by kernel_rfl) _) c1 c2 z2
    (fillS b F caps Q _ hcf k4 hf _ _ _ (fun v w2 hq => ⟨blk_cell (hQ v w2 hq) rfl, blk_cell (hQ v w2 hq) rfl, blk_cell (hQ v w2 hq) rfl, blk_free (hQ v w2 hq), blk_free (hQ v w2 hq), blk_free (hQ v w2 hq)⟩))
    (by
      rintro w' ⟨v, w2, hq, rfl⟩
      have h2 := blk_set (i := 6) (.int .u32 1) (blk_drew (blk_set (i := 4) .nilFunc (blk_set (i := 5) (.string v) (hQ v w2 hq))))
      exact ⟨blk_cell h2 rfl, blk_cell h2 rfl, blk_free h2, blk_free h2⟩))
  have HQ := Lib.hid hQ
  clear hf hQ hcf hb1 k4 hb
  have hmf : ∀ (fn : Fn) (first cap : Array Value) (w : World), (Instr.makeFunc fn first cap).run Try.prog w = .ok (.func fn first cap) w := fun _ _ _ _ => rfl
  have hnot : ∀ (x : Bool) (w : World), (Op.unary .not (.bool x)).run Try.prog w = .ok (.bool (!x)) w := fun _ _ => rfl
  go_enter Try.func27, Try.ntmps27
  go_wp2_with fail
  refine HD.out.mono ?_
  rintro e w' ⟨rfl, w3, ⟨v, w2, hq, rfl⟩, rfl⟩
  have h2 := blk_set (i := 2) (.int .i32 0) (blk_set (i := 1) (.int .u32 1) (blk_drew (blk_set (i := 6) (.int .u32 1) (blk_drew (blk_set (i := 4) .nilFunc (blk_set (i := 5) (.string v) (HQ.out v w2 hq)))))))
  have ho := (((((((Only.refl b w2).setCell 5 (.string v)).setCell 4 .nilFunc).drew).setCell 6 (.int .u32 1)).drew).setCell 1 (.int .u32 1)).setCell 2 (.int .i32 0)
  have H2 := Lib.hid (show _ = some (Obj.cells (made (.string v)) 72 (0, 0)) from h2)
  have HO := Lib.hid ho
  have HQ2 := Lib.hid hq
  clear h2 ho hq HQ HD
  generalize (((((w2.setCell ⟨b, 5, none⟩ (.string v)).setCell ⟨b, 4, none⟩ .nilFunc).drew.setCell ⟨b, 6, none⟩ (.int .u32 1)).drew.setCell ⟨b, 1, none⟩ (.int .u32 1)).setCell ⟨b, 2, none⟩ (.int .i32 0)) = w' at H2 HO ⊢
  have c5 : w'.cell? ⟨b, 5, none⟩ = some (.string v) := blk_cell H2.out rfl
  go_wp2
  go_ret2
  exact ⟨v, w2, rfl, HQ2.out, HO.out, H2.out⟩

theorem getMadeS (b : Nat) (v : ByteArray) (w : World) (hb : w.heap[b]? = some (.cells (made (.string v)) 72 (0, 0))) :
    Calls Try.prog 27 #[.pointer (some ⟨b, 0, none⟩)] w fun e w' => e = .returned (.tuple #[.string v, .bool true]) ∧ w = w' := by
  have c0 : w.cell? ⟨b, 0, none⟩ = some (.bool true) := blk_cell hb rfl
  have c1 : w.cell? ⟨b, 1, none⟩ = some (.int .u32 1) := blk_cell hb rfl
  have c5 : w.cell? ⟨b, 5, none⟩ = some (.string v) := blk_cell hb rfl
  have hmf : ∀ (fn : Fn) (first cap : Array Value) (w : World), (Instr.makeFunc fn first cap).run Try.prog w = .ok (.func fn first cap) w := fun _ _ _ _ => rfl
  have hnot : ∀ (x : Bool) (w : World), (Op.unary .not (.bool x)).run Try.prog w = .ok (.bool (!x)) w := fun _ _ => rfl
  clear hb
  go_enter Try.func27, Try.ntmps27
  go_wp2_with (go_at_call 41; refine (do_done ⟨b, 1, none⟩ _ _ c1).mono ?_; rintro e w' ⟨rfl, rfl⟩)
  go_ret2
  exact ⟨rfl, rfl⟩

theorem eqfS (F : FuncId) (caps : Array Value) (w : World) : (binOp .eql 70 (.func (.func F) #[] caps) .nilFunc).run Try.prog w = .ok (.bool false) w := by
  have h : ∀ d : Nat, (Op.equalIn (d + 1) 70 (.func (.func F) #[] caps) .nilFunc).run Try.prog w = .ok false w := fun d => by
    simp [Op.equalIn, run_underlying Try.underlying70]
  simp only [binOp]
  simp [Op.equal, Op.maxDepth, h 9999]
theorem bldS (F : FuncId) (caps : Array Value) (w : World) : (Instr.build 72 #[(0, .bool true), (2, .func (.func F) #[] caps)]).run Try.prog w = .ok (.agg (fresh (.func (.func F) #[] caps) (.string { data := #[] }))) w :=
  run_build w 72 #[(0, .bool true), (2, .func (.func F) #[] caps)] _ (by kernel_rfl)

set_option maxRecDepth 100000 in
theorem newS (F : FuncId) (caps : Array Value) (w : World) :
    Calls Try.prog 30 #[.func (.func F) #[] caps] w fun e w' => e = .returned (.pointer (some ⟨w.heap.size, 0, none⟩)) ∧ w' = w.alloc (.cells (fresh (.func (.func F) #[] caps) (.string { data := #[] })) 72) := by
  have h1 := eqfS F caps
  have h2 := bldS F caps
  go_enter Try.func30, Try.ntmps30
  go_wp2
  go_ret
  exact ⟨rfl, rfl⟩

theorem isMadeS (b : Nat) (x : Int) (cs : Array Value) (w : World) (hb : w.heap[b]? = some (.cells cs 72 (0, 0))) (hx : cs[6]? = some (.int .u32 x)) :
    Calls Try.prog 28 #[.pointer (some ⟨b, 0, none⟩)] w fun e w' => e = .returned (.bool (x != 0)) ∧ w = w' := by
  have c6 : w.cell? ⟨b, 6, none⟩ = some (.int .u32 x) := blk_cell hb hx
  clear hb hx
  go_enter Try.func28, Try.ntmps28
  go_wp2_with (go_at_call 40; refine (bload ⟨b, 6, none⟩ x _ c6).mono ?_; rintro e w' ⟨rfl, rfl⟩)
  go_ret
  exact ⟨rfl, rfl⟩

/-! ### at the type P -/
set_option maxRecDepth 100000 in
set_option maxHeartbeats 800000 in
theorem fillP (b : Nat) (F : FuncId) (caps : Array Value) (Q : (Option Addr) → World → Prop) (w : World)
    (hcf : ∀ u : World, (callFunc F caps).run Try.prog u = .ok (.enter F caps) u)
    (h4 : w.cell? ⟨b, 4, none⟩ = some (.func (.func F) #[] caps))
    (hf : Calls Try.prog F caps w fun e w2 => ∃ v, e = .returned (.pointer v) ∧ Q v w2)
    (x4 x5 x6 : Value)
    (hQ : ∀ v w2, Q v w2 → w2.cell? ⟨b, 4, none⟩ = some x4 ∧ w2.cell? ⟨b, 5, none⟩ = some x5 ∧ w2.cell? ⟨b, 6, none⟩ = some x6 ∧ w2.frozen? ⟨b, 4, none⟩ = false ∧ w2.frozen? ⟨b, 5, none⟩ = false ∧ w2.frozen? ⟨b, 6, none⟩ = false) :
    Calls Try.prog 45 #[.pointer (some ⟨b, 0, none⟩)] w fun e w' => e = .returned (.tuple #[]) ∧
      ∃ v w2, Q v w2 ∧ w' = ((w2.setCell ⟨b, 5, none⟩ (.pointer v)).setCell ⟨b, 4, none⟩ .nilFunc).drew.setCell ⟨b, 6, none⟩ (.int .u32 1) := by
  have HF := Lib.hid hf
  have HQ := Lib.hid hQ
  clear hf hQ
  go_enter Try.func45, Try.ntmps45
  go_wp2_with fail
  refine HF.out.mono ?_
  rintro e w2 ⟨v, rfl, hq⟩
  obtain ⟨g4, g5, g6, z4, z5, z6⟩ := HQ.out v w2 hq
  have HQ2 := Lib.hid hq
  clear hq HF HQ hcf h4
  have k6 : ((w2.setCell ⟨b, 5, none⟩ (.pointer v)).setCell ⟨b, 4, none⟩ .nilFunc).cell? ⟨b, 6, none⟩ = some x6 :=
    (World.cell?_setCell_other _ ⟨b, 4, none⟩ ⟨b, 6, none⟩ _ (by simp)).trans ((World.cell?_setCell_other _ ⟨b, 5, none⟩ ⟨b, 6, none⟩ _ (by simp)).trans g6)
  have k4 : (w2.setCell ⟨b, 5, none⟩ (.pointer v)).cell? ⟨b, 4, none⟩ = some x4 := (World.cell?_setCell_other _ ⟨b, 5, none⟩ ⟨b, 4, none⟩ _ (by simp)).trans g4
  go_wp2_with (go_at_call 52; refine (bstore ⟨b, 6, none⟩ x6 _ k6 (by simp [z6])).mono ?_; rintro e w' ⟨rfl, rfl⟩)
  go_end0
  exact ⟨rfl, v, w2, HQ2.out, rfl⟩

set_option maxRecDepth 100000 in
set_option maxHeartbeats 800000 in
theorem getExactP (b : Nat) (F : FuncId) (caps : Array Value) (Q : (Option Addr) → World → Prop) (w : World) (z : Value)
    (hcf : ∀ u : World, (callFunc F caps).run Try.prog u = .ok (.enter F caps) u)
    (hb : w.heap[b]? = some (.cells (fresh (.func (.func F) #[] caps) z) 97 (0, 0)))
    (hf : Calls Try.prog F caps (w.setCell ⟨b, 2, none⟩ (.int .i32 1)) fun e w2 => ∃ v, e = .returned (.pointer v) ∧ Q v w2)
    (hQ : ∀ v w2, Q v w2 → w2.heap[b]? = some (.cells (midway (.func (.func F) #[] caps) z) 97 (0, 0))) :
    Calls Try.prog 34 #[.pointer (some ⟨b, 0, none⟩)] w fun e w' =>
      ∃ v w2, e = .returned (.tuple #[.pointer v, .bool true]) ∧ Q v w2 ∧ Only b w2 w' ∧ w'.heap[b]? = some (.cells (made (.pointer v)) 97 (0, 0)) := by
  have c0 : w.cell? ⟨b, 0, none⟩ = some (.bool true) := blk_cell hb rfl
  have c1 : w.cell? ⟨b, 1, none⟩ = some (.int .u32 0) := blk_cell hb rfl
  have c2 : w.cell? ⟨b, 2, none⟩ = some (.int .i32 0) := blk_cell hb rfl
  have z2 : w.frozen? ⟨b, 2, none⟩ = false := blk_free hb
  have hb1 := blk_set (i := 2) (.int .i32 1) hb
  have k4 : (w.setCell ⟨b, 2, none⟩ (.int .i32 1)).cell? ⟨b, 4, none⟩ = some (.func (.func F) #[] caps) := blk_cell hb1 rfl
  have HD := Lib.hid (do_first b 45 (.pointer (some ⟨b, 0, none⟩)) (fun w' => ∃ v w2, Q v w2 ∧ w' = ((w2.setCell ⟨b, 5, none⟩ (.pointer v)).setCell ⟨b, 4, none⟩ .nilFunc).drew.setCell ⟨b, 6, none⟩ (.int .u32 1)) w
    (enters Try.func45 (by kernel_rfl) (by kernel_rfl) _) c1 c2 z2
    (fillP b F caps Q _ hcf k4 hf _ _ _ (fun v w2 hq => ⟨blk_cell (hQ v w2 hq) rfl, blk_cell (hQ v w2 hq) rfl, blk_cell (hQ v w2 hq) rfl, blk_free (hQ v w2 hq), blk_free (hQ v w2 hq), blk_free (hQ v w2 hq)⟩))
    (by
      rintro w' ⟨v, w2, hq, rfl⟩
      have h2 := blk_set (i := 6) (.int .u32 1) (blk_drew (blk_set (i := 4) .nilFunc (blk_set (i := 5) (.pointer v) (hQ v w2 hq))))
      exact ⟨blk_cell h2 rfl, blk_cell h2 rfl, blk_free h2, blk_free h2⟩))
  have HQ := Lib.hid hQ
  clear hf hQ hcf hb1 k4 hb
  have hmf : ∀ (fn : Fn) (first cap : Array Value) (w : World), (Instr.makeFunc fn first cap).run Try.prog w = .ok (.func fn first cap) w := fun _ _ _ _ => rfl
  have hnot : ∀ (x : Bool) (w : World), (Op.unary .not (.bool x)).run Try.prog w = .ok (.bool (!x)) w := fun _ _ => rfl
  go_enter Try.func34, Try.ntmps34
  go_wp2_with fail
  refine HD.out.mono ?_
  rintro e w' ⟨rfl, w3, ⟨v, w2, hq, rfl⟩, rfl⟩
  have h2 := blk_set (i := 2) (.int .i32 0) (blk_set (i := 1) (.int .u32 1) (blk_drew (blk_set (i := 6) (.int .u32 1) (blk_drew (blk_set (i := 4) .nilFunc (blk_set (i := 5) (.pointer v) (HQ.out v w2 hq)))))))
  have ho := (((((((Only.refl b w2).setCell 5 (.pointer v)).setCell 4 .nilFunc).drew).setCell 6 (.int .u32 1)).drew).setCell 1 (.int .u32 1)).setCell 2 (.int .i32 0)
  have H2 := Lib.hid (show _ = some (Obj.cells (made (.pointer v)) 97 (0, 0)) from h2)
  have HO := Lib.hid ho
  have HQ2 := Lib.hid hq
  clear h2 ho hq HQ HD
  generalize (((((w2.setCell ⟨b, 5, none⟩ (.pointer v)).setCell ⟨b, 4, none⟩ .nilFunc).drew.setCell ⟨b, 6, none⟩ (.int .u32 1)).drew.setCell ⟨b, 1, none⟩ (.int .u32 1)).setCell ⟨b, 2, none⟩ (.int .i32 0)) = w' at H2 HO ⊢
  have c5 : w'.cell? ⟨b, 5, none⟩ = some (.pointer v) := blk_cell H2.out rfl
  go_wp2
  go_ret2
  exact ⟨v, w2, rfl, HQ2.out, HO.out, H2.out⟩

theorem getMadeP (b : Nat) (v : (Option Addr)) (w : World) (hb : w.heap[b]? = some (.cells (made (.pointer v)) 97 (0, 0))) :
    Calls Try.prog 34 #[.pointer (some ⟨b, 0, none⟩)] w fun e w' => e = .returned (.tuple #[.pointer v, .bool true]) ∧ w = w' := by
  have c0 : w.cell? ⟨b, 0, none⟩ = some (.bool true) := blk_cell hb rfl
  have c1 : w.cell? ⟨b, 1, none⟩ = some (.int .u32 1) := blk_cell hb rfl
  have c5 : w.cell? ⟨b, 5, none⟩ = some (.pointer v) := blk_cell hb rfl
  have hmf : ∀ (fn : Fn) (first cap : Array Value) (w : World), (Instr.makeFunc fn first cap).run Try.prog w = .ok (.func fn first cap) w := fun _ _ _ _ => rfl
  have hnot : ∀ (x : Bool) (w : World), (Op.unary .not (.bool x)).run Try.prog w = .ok (.bool (!x)) w := fun _ _ => rfl
  clear hb
  go_enter Try.func34, Try.ntmps34
  go_wp2_with (go_at_call 41; refine (do_done ⟨b, 1, none⟩ _ _ c1).mono ?_; rintro e w' ⟨rfl, rfl⟩)
  go_ret2
  exact ⟨rfl, rfl⟩

theorem eqfP (F : FuncId) (caps : Array Value) (w : World) : (binOp .eql 87 (.func (.func F) #[] caps) .nilFunc).run Try.prog w = .ok (.bool false) w := by
  have h : ∀ d : Nat, (Op.equalIn (d + 1) 87 (.func (.func F) #[] caps) .nilFunc).run Try.prog w = .ok false w := fun d => by
    simp [Op.equalIn, run_underlying Try.underlying87]
  simp only [binOp]
  simp [Op.equal, Op.maxDepth, h 9999]
theorem bldP (F : FuncId) (caps : Array Value) (w : World) : (Instr.build 97 #[(0, .bool true), (2, .func (.func F) #[] caps)]).run Try.prog w = .ok (.agg (fresh (.func (.func F) #[] caps) (.pointer none))) w :=
  run_build w 97 #[(0, .bool true), (2, .func (.func F) #[] caps)] _ (by kernel_rfl)

set_option maxRecDepth 100000 in
theorem newP (F : FuncId) (caps : Array Value) (w : World) :
    Calls Try.prog 32 #[.func (.func F) #[] caps] w fun e w' => e = .returned (.pointer (some ⟨w.heap.size, 0, none⟩)) ∧ w' = w.alloc (.cells (fresh (.func (.func F) #[] caps) (.pointer none)) 97) := by
  have h1 := eqfP F caps
  have h2 := bldP F caps
  go_enter Try.func32, Try.ntmps32
  go_wp2
  go_ret
  exact ⟨rfl, rfl⟩

theorem eqn64 (w : World) : (binOp .eql 37 .nilFunc .nilFunc).run Try.prog w = .ok (.bool true) w := by
  have h : ∀ d : Nat, (Op.equalIn (d + 1) 37 .nilFunc .nilFunc).run Try.prog w = .ok true w := fun d => by
    simp [Op.equalIn, run_underlying Try.underlying37]
  simp only [binOp]
  simp [Op.equal, Op.maxDepth, h 9999]
set_option maxRecDepth 100000 in
theorem newNil64 (w : World) : Calls Try.prog 19 #[.nilFunc] w fun e w' => e = .returned (.pointer none) ∧ w = w' := by
  have h1 := eqn64
  go_enter Try.func19, Try.ntmps19
  go_wp2
  go_ret
  exact ⟨rfl, rfl⟩

end Go.Proofs.Ytcogfajmocbogaa
