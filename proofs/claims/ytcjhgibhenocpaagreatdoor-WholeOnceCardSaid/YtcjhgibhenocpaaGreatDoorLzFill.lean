/-
  lazy.Value: New, Get, Made, and the fill that Get hands to sync.Once, at the four types of values that the statements use.
  Conditions: one goroutine; the value lies at the head of a block, as New lays it; what make answers, and leaves, is said by a contract of make's own, under which the value's block stays as it is.
-/
import Derived.Test.YtcjhgibhenocpaaGreatDoorLzOnce
import Derived.Test.YtcjhgibhenocpaaGreatDoorLzBlocks
import Derived.Laws.EntriesVeiled
import Derived.Laws.Tables
namespace Go.Proofs.YtcjhgibhenocpaaGreatDoor.Lz
set_option linter.unusedSimpArgs false
set_option linter.unusedVariables false
open Go.RowKit

/-- A call of a function that has a body enters it. -/
theorem enters {P : Program} {f : FuncId} {fn : Func} (hf : P.funcs[f]? = some fn) (hname : (fn.name == "runtime.NumGoroutine") = false) (hb : fn.body.isSome = true) (args : Array Value) (w : World) :
    (callFunc f args).run P w = .ok (.enter f args) w := by
  have h1 : fn.name ≠ "runtime.NumGoroutine" := by simpa using hname
  obtain ⟨c, hc⟩ := Option.isSome_iff_exists.1 hb
  simp [callFunc, hf, h1, hc]

/-- The block of a value that New made and nobody has asked for; while it is being made; that is made. -/
def fresh (fv z : Value) : Array Value := #[.bool true, .int .u32 0, .int .i32 0, .int .u32 0, fv, z, .int .u32 0]
def midway (fv z : Value) : Array Value := #[.bool true, .int .u32 0, .int .i32 1, .int .u32 0, fv, z, .int .u32 0]
def made (v : Value) : Array Value := #[.bool true, .int .u32 1, .int .i32 0, .int .u32 0, .nilFunc, v, .int .u32 1]

/-! ### at the type F -/
set_option maxRecDepth 100000 in
set_option maxHeartbeats 800000 in
theorem fillF (b : Nat) (F : FuncId) (caps : Array Value) (Q : (Option Addr × Nat × Nat) → World → Prop) (w : World)
    (hcf : ∀ u : World, (callFunc F caps).run Tryz.prog u = .ok (.enter F caps) u)
    (h4 : w.cell? ⟨b, 4, none⟩ = some (.func (.func F) #[] caps))
    (hf : Calls Tryz.prog F caps w fun e w2 => ∃ v, e = .returned (.slice v.1 v.2.1 v.2.2) ∧ Q v w2)
    (x4 x5 x6 : Value)
    (hQ : ∀ v w2, Q v w2 → w2.cell? ⟨b, 4, none⟩ = some x4 ∧ w2.cell? ⟨b, 5, none⟩ = some x5 ∧ w2.cell? ⟨b, 6, none⟩ = some x6 ∧ w2.frozen? ⟨b, 4, none⟩ = false ∧ w2.frozen? ⟨b, 5, none⟩ = false ∧ w2.frozen? ⟨b, 6, none⟩ = false) :
    Calls Tryz.prog 34 #[.pointer (some ⟨b, 0, none⟩)] w fun e w' => e = .returned (.tuple #[]) ∧
      ∃ v w2, Q v w2 ∧ w' = ((w2.setCell ⟨b, 5, none⟩ (.slice v.1 v.2.1 v.2.2)).setCell ⟨b, 4, none⟩ .nilFunc).drew.setCell ⟨b, 6, none⟩ (.int .u32 1) := by
  have HF := Lib.hid hf
  have HQ := Lib.hid hQ
  clear hf hQ
  go_enter Tryz.func34, Tryz.ntmps34
  go_wp2_with fail
  refine HF.out.mono ?_
  rintro e w2 ⟨v, rfl, hq⟩
  obtain ⟨g4, g5, g6, z4, z5, z6⟩ := HQ.out v w2 hq
  have HQ2 := Lib.hid hq
  clear hq HF HQ hcf h4
  have k6 : ((w2.setCell ⟨b, 5, none⟩ (.slice v.1 v.2.1 v.2.2)).setCell ⟨b, 4, none⟩ .nilFunc).cell? ⟨b, 6, none⟩ = some x6 :=
    (World.cell?_setCell_other _ ⟨b, 4, none⟩ ⟨b, 6, none⟩ _ (by simp)).trans ((World.cell?_setCell_other _ ⟨b, 5, none⟩ ⟨b, 6, none⟩ _ (by simp)).trans g6)
  have k4 : (w2.setCell ⟨b, 5, none⟩ (.slice v.1 v.2.1 v.2.2)).cell? ⟨b, 4, none⟩ = some x4 := (World.cell?_setCell_other _ ⟨b, 5, none⟩ ⟨b, 4, none⟩ _ (by simp)).trans g4
  go_wp2_with (go_at_call 75; refine (bstore ⟨b, 6, none⟩ x6 _ k6 (by simp [z6])).mono ?_; rintro e w' ⟨rfl, rfl⟩)
  go_end0
  exact ⟨rfl, v, w2, HQ2.out, rfl⟩

set_option maxRecDepth 100000 in
set_option maxHeartbeats 800000 in
theorem getExactF (b : Nat) (F : FuncId) (caps : Array Value) (Q : (Option Addr × Nat × Nat) → World → Prop) (w : World) (z : Value)
    (hcf : ∀ u : World, (callFunc F caps).run Tryz.prog u = .ok (.enter F caps) u)
    (hb : w.heap[b]? = some (.cells (fresh (.func (.func F) #[] caps) z) 82 (0, 0)))
    (hf : Calls Tryz.prog F caps (w.setCell ⟨b, 2, none⟩ (.int .i32 1)) fun e w2 => ∃ v, e = .returned (.slice v.1 v.2.1 v.2.2) ∧ Q v w2)
    (hQ : ∀ v w2, Q v w2 → w2.heap[b]? = some (.cells (midway (.func (.func F) #[] caps) z) 82 (0, 0))) :
    Calls Tryz.prog 14 #[.pointer (some ⟨b, 0, none⟩)] w fun e w' =>
      ∃ v w2, e = .returned (.tuple #[.slice v.1 v.2.1 v.2.2, .bool true]) ∧ Q v w2 ∧ Only b w2 w' ∧ w'.heap[b]? = some (.cells (made (.slice v.1 v.2.1 v.2.2)) 82 (0, 0)) := by
  have c0 : w.cell? ⟨b, 0, none⟩ = some (.bool true) := blk_cell hb rfl
  have c1 : w.cell? ⟨b, 1, none⟩ = some (.int .u32 0) := blk_cell hb rfl
  have c2 : w.cell? ⟨b, 2, none⟩ = some (.int .i32 0) := blk_cell hb rfl
  have z2 : w.frozen? ⟨b, 2, none⟩ = false := blk_free hb
  have hb1 := blk_set (i := 2) (.int .i32 1) hb
  have k4 : (w.setCell ⟨b, 2, none⟩ (.int .i32 1)).cell? ⟨b, 4, none⟩ = some (.func (.func F) #[] caps) := blk_cell hb1 rfl
  have HD := Lib.hid (do_first b 34 (.pointer (some ⟨b, 0, none⟩)) (fun w' => ∃ v w2, Q v w2 ∧ w' = ((w2.setCell ⟨b, 5, none⟩ (.slice v.1 v.2.1 v.2.2)).setCell ⟨b, 4, none⟩ .nilFunc).drew.setCell ⟨b, 6, none⟩ (.int .u32 1)) w
    (enters Tryz.func34 (by kernel_rfl) (by kernel_rfl) _) c1 c2 z2
    (fillF b F caps Q _ hcf k4 hf _ _ _ (fun v w2 hq => ⟨blk_cell (hQ v w2 hq) rfl, blk_cell (hQ v w2 hq) rfl, blk_cell (hQ v w2 hq) rfl, blk_free (hQ v w2 hq), blk_free (hQ v w2 hq), blk_free (hQ v w2 hq)⟩))
    (by
      rintro w' ⟨v, w2, hq, rfl⟩
      have h2 := blk_set (i := 6) (.int .u32 1) (blk_drew (blk_set (i := 4) .nilFunc (blk_set (i := 5) (.slice v.1 v.2.1 v.2.2) (hQ v w2 hq))))
      exact ⟨blk_cell h2 rfl, blk_cell h2 rfl, blk_free h2, blk_free h2⟩))
  have HQ := Lib.hid hQ
  clear hf hQ hcf hb1 k4 hb
  have hmf : ∀ (fn : Fn) (first cap : Array Value) (w : World), (Instr.makeFunc fn first cap).run Tryz.prog w = .ok (.func fn first cap) w := fun _ _ _ _ => rfl
  have hnot : ∀ (x : Bool) (w : World), (Op.unary .not (.bool x)).run Tryz.prog w = .ok (.bool (!x)) w := fun _ _ => rfl
  go_enter Tryz.func14, Tryz.ntmps14
  go_wp2_with fail
  refine HD.out.mono ?_
  rintro e w' ⟨rfl, w3, ⟨v, w2, hq, rfl⟩, rfl⟩
  have h2 := blk_set (i := 2) (.int .i32 0) (blk_set (i := 1) (.int .u32 1) (blk_drew (blk_set (i := 6) (.int .u32 1) (blk_drew (blk_set (i := 4) .nilFunc (blk_set (i := 5) (.slice v.1 v.2.1 v.2.2) (HQ.out v w2 hq)))))))
  have ho := (((((((Only.refl b w2).setCell 5 (.slice v.1 v.2.1 v.2.2)).setCell 4 .nilFunc).drew).setCell 6 (.int .u32 1)).drew).setCell 1 (.int .u32 1)).setCell 2 (.int .i32 0)
  have H2 := Lib.hid (show _ = some (Obj.cells (made (.slice v.1 v.2.1 v.2.2)) 82 (0, 0)) from h2)
  have HO := Lib.hid ho
  have HQ2 := Lib.hid hq
  clear h2 ho hq HQ HD
  generalize (((((w2.setCell ⟨b, 5, none⟩ (.slice v.1 v.2.1 v.2.2)).setCell ⟨b, 4, none⟩ .nilFunc).drew.setCell ⟨b, 6, none⟩ (.int .u32 1)).drew.setCell ⟨b, 1, none⟩ (.int .u32 1)).setCell ⟨b, 2, none⟩ (.int .i32 0)) = w' at H2 HO ⊢
  have c5 : w'.cell? ⟨b, 5, none⟩ = some (.slice v.1 v.2.1 v.2.2) := blk_cell H2.out rfl
  go_wp2
  go_ret2
  exact ⟨v, w2, rfl, HQ2.out, HO.out, H2.out⟩

theorem getMadeF (b : Nat) (v : (Option Addr × Nat × Nat)) (w : World) (hb : w.heap[b]? = some (.cells (made (.slice v.1 v.2.1 v.2.2)) 82 (0, 0))) :
    Calls Tryz.prog 14 #[.pointer (some ⟨b, 0, none⟩)] w fun e w' => e = .returned (.tuple #[.slice v.1 v.2.1 v.2.2, .bool true]) ∧ w = w' := by
  have c0 : w.cell? ⟨b, 0, none⟩ = some (.bool true) := blk_cell hb rfl
  have c1 : w.cell? ⟨b, 1, none⟩ = some (.int .u32 1) := blk_cell hb rfl
  have c5 : w.cell? ⟨b, 5, none⟩ = some (.slice v.1 v.2.1 v.2.2) := blk_cell hb rfl
  have hmf : ∀ (fn : Fn) (first cap : Array Value) (w : World), (Instr.makeFunc fn first cap).run Tryz.prog w = .ok (.func fn first cap) w := fun _ _ _ _ => rfl
  have hnot : ∀ (x : Bool) (w : World), (Op.unary .not (.bool x)).run Tryz.prog w = .ok (.bool (!x)) w := fun _ _ => rfl
  clear hb
  go_enter Tryz.func14, Tryz.ntmps14
  go_wp2_with (go_at_call 33; refine (do_done ⟨b, 1, none⟩ _ _ c1).mono ?_; rintro e w' ⟨rfl, rfl⟩)
  go_ret2
  exact ⟨rfl, rfl⟩

theorem eqfF (F : FuncId) (caps : Array Value) (w : World) : (binOp .eql 50 (.func (.func F) #[] caps) .nilFunc).run Tryz.prog w = .ok (.bool false) w := by
  have h : ∀ d : Nat, (Op.equalIn (d + 1) 50 (.func (.func F) #[] caps) .nilFunc).run Tryz.prog w = .ok false w := fun d => by
    simp [Op.equalIn, run_underlying Tryz.underlying50]
  simp only [binOp]
  simp [Op.equal, Op.maxDepth, h 9999]
theorem bldF (F : FuncId) (caps : Array Value) (w : World) : (Instr.build 82 #[(0, .bool true), (2, .func (.func F) #[] caps)]).run Tryz.prog w = .ok (.agg (fresh (.func (.func F) #[] caps) (.slice none 0 0))) w :=
  run_build w 82 #[(0, .bool true), (2, .func (.func F) #[] caps)] _ (by kernel_rfl)

set_option maxRecDepth 100000 in
theorem newF (F : FuncId) (caps : Array Value) (w : World) :
    Calls Tryz.prog 11 #[.func (.func F) #[] caps] w fun e w' => e = .returned (.pointer (some ⟨w.heap.size, 0, none⟩)) ∧ w' = w.alloc (.cells (fresh (.func (.func F) #[] caps) (.slice none 0 0)) 82) := by
  have h1 := eqfF F caps
  have h2 := bldF F caps
  go_enter Tryz.func11, Tryz.ntmps11
  go_wp2
  go_ret
  exact ⟨rfl, rfl⟩

theorem isMadeF (b : Nat) (x : Int) (cs : Array Value) (w : World) (hb : w.heap[b]? = some (.cells cs 82 (0, 0))) (hx : cs[6]? = some (.int .u32 x)) :
    Calls Tryz.prog 16 #[.pointer (some ⟨b, 0, none⟩)] w fun e w' => e = .returned (.bool (x != 0)) ∧ w = w' := by
  have c6 : w.cell? ⟨b, 6, none⟩ = some (.int .u32 x) := blk_cell hb hx
  clear hb hx
  go_enter Tryz.func16, Tryz.ntmps16
  go_wp2_with (go_at_call 36; refine (bload ⟨b, 6, none⟩ x _ c6).mono ?_; rintro e w' ⟨rfl, rfl⟩)
  go_ret
  exact ⟨rfl, rfl⟩

end Go.Proofs.YtcjhgibhenocpaaGreatDoor.Lz
