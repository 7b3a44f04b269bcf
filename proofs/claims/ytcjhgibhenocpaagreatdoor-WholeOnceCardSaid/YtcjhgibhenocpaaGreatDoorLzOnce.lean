/-
  sync.Once's Do, of a function value that has not been called yet: it is called, once, under the lock, and 'done' is stored; of one that has: nothing is done.
  Conditions: one goroutine; the Once lies at place 1 of a block; its lock is free; the function leaves the Once's own two cells as they were.
-/
import Derived.Test.YtcjhgibhenocpaaGreatDoorLzParts
namespace Go.Proofs.YtcjhgibhenocpaaGreatDoor.Lz
set_option linter.unusedSimpArgs false
set_option linter.unusedVariables false
open Go.RowKit

set_option maxRecDepth 100000 in
set_option maxHeartbeats 1600000 in
theorem slow (b : Nat) (F : FuncId) (x : Value) (Q : World → Prop) (w : World)
    (hcf : ∀ u : World, (callFunc F #[x]).run Tryz.prog u = .ok (.enter F #[x]) u)
    (h1 : w.cell? ⟨b, 1, none⟩ = some (.int .u32 0)) (h2 : w.cell? ⟨b, 2, none⟩ = some (.int .i32 0))
    (f2 : w.frozen? ⟨b, 2, none⟩ = false)
    (hf : Calls Tryz.prog F #[x] (w.setCell ⟨b, 2, none⟩ (.int .i32 1)) fun e w2 => e = .returned (.tuple #[]) ∧ Q w2)
    (hQ : ∀ w2, Q w2 → w2.cell? ⟨b, 1, none⟩ = some (.int .u32 0) ∧ w2.cell? ⟨b, 2, none⟩ = some (.int .i32 1) ∧ w2.frozen? ⟨b, 1, none⟩ = false ∧ w2.frozen? ⟨b, 2, none⟩ = false) :
    Calls Tryz.prog 74 #[.pointer (some ⟨b, 1, none⟩), .func (.func F) #[x] #[]] w fun e w' => e = .returned (.tuple #[]) ∧
      ∃ w2, Q w2 ∧ w' = (w2.drew.setCell ⟨b, 1, none⟩ (.int .u32 1)).setCell ⟨b, 2, none⟩ (.int .i32 0) := by
  have h1' : (w.setCell ⟨b, 2, none⟩ (.int .i32 1)).cell? ⟨b, 1, none⟩ = some (.int .u32 0) := (World.cell?_setCell_other _ ⟨b, 2, none⟩ ⟨b, 1, none⟩ _ (by simp)).trans h1
  have hnot : ∀ (x : Bool) (w : World), (Op.unary .not (.bool x)).run Tryz.prog w = .ok (.bool (!x)) w := fun _ _ => rfl
  have HF := Lib.hid hf
  have HQ := Lib.hid hQ
  clear hf hQ
  go_enter_defers Tryz.func74, Tryz.ntmps74
  go_wp2_with (first
    | (go_at_call 120; refine (lock_free ⟨b, 2, none⟩ _ h2 f2).mono ?_; rintro e w' ⟨rfl, rfl⟩)
    | (go_at_call 36; refine (bload ⟨b, 1, none⟩ 0 _ h1').mono ?_; rintro e w' ⟨rfl, rfl⟩))
  refine HF.out.mono ?_
  rintro e w2 ⟨rfl, hq⟩
  obtain ⟨g1, g2, z1, z2⟩ := HQ.out w2 hq
  have HQ2 := Lib.hid hq
  clear hq HF HQ
  go_wp2
  -- the door: two deferred calls, the last laid first
  refine leaves_cons (f := 75) (args := #[.pointer (some ⟨b, 1, none⟩), .bool true]) (by simp) (by simp [go_sem]) ?_
  refine (store_deferred ⟨b, 1, none⟩ (.int .u32 0) .returning _ g1 z1).mono ?_
  rintro e u' w'' ⟨rfl, rfl, rfl⟩
  refine leaves_cons (f := 121) (args := #[.pointer (some ⟨b, 2, none⟩)]) (by simp [settle]) (by simp [go_sem]) ?_
  refine (unlock_deferred ⟨b, 2, none⟩ _ _ ?_ (by simp [z2])).mono ?_
  · refine (World.cell?_setCell_other _ ⟨b, 1, none⟩ ⟨b, 2, none⟩ _ (by simp)).trans ?_
    rw [World.cell?_drew]
    exact g2
  rintro e u' w'' ⟨rfl, rfl, rfl⟩
  exact ⟨_, results_none rfl _ _ _, rfl, w2, HQ2.out, rfl⟩

set_option maxRecDepth 100000 in
set_option maxHeartbeats 800000 in
theorem do_first (b : Nat) (F : FuncId) (x : Value) (Q : World → Prop) (w : World)
    (hcf : ∀ u : World, (callFunc F #[x]).run Tryz.prog u = .ok (.enter F #[x]) u)
    (h1 : w.cell? ⟨b, 1, none⟩ = some (.int .u32 0)) (h2 : w.cell? ⟨b, 2, none⟩ = some (.int .i32 0))
    (f2 : w.frozen? ⟨b, 2, none⟩ = false)
    (hf : Calls Tryz.prog F #[x] (w.setCell ⟨b, 2, none⟩ (.int .i32 1)) fun e w2 => e = .returned (.tuple #[]) ∧ Q w2)
    (hQ : ∀ w2, Q w2 → w2.cell? ⟨b, 1, none⟩ = some (.int .u32 0) ∧ w2.cell? ⟨b, 2, none⟩ = some (.int .i32 1) ∧ w2.frozen? ⟨b, 1, none⟩ = false ∧ w2.frozen? ⟨b, 2, none⟩ = false) :
    Calls Tryz.prog 33 #[.pointer (some ⟨b, 1, none⟩), .func (.func F) #[x] #[]] w fun e w' => e = .returned (.tuple #[]) ∧
      ∃ w2, Q w2 ∧ w' = (w2.drew.setCell ⟨b, 1, none⟩ (.int .u32 1)).setCell ⟨b, 2, none⟩ (.int .i32 0) := by
  have hnot : ∀ (x : Bool) (w : World), (Op.unary .not (.bool x)).run Tryz.prog w = .ok (.bool (!x)) w := fun _ _ => rfl
  have HS := Lib.hid (slow b F x Q w hcf h1 h2 f2 hf hQ)
  clear hf hQ hcf
  go_enter Tryz.func33, Tryz.ntmps33
  go_wp2_with (first
    | (go_at_call 36; refine (bload ⟨b, 1, none⟩ 0 _ h1).mono ?_; rintro e w' ⟨rfl, rfl⟩)
    | (go_at_call 74; refine HS.out.mono ?_; rintro e w' ⟨rfl, w2, hq, rfl⟩))
  go_end0
  exact ⟨rfl, w2, hq, rfl⟩

theorem do_done (a : Addr) (fv : Value) (w : World) (h1 : w.cell? a = some (.int .u32 1)) :
    Calls Tryz.prog 33 #[.pointer (some a), fv] w fun e w' => e = .returned (.tuple #[]) ∧ w = w' := by
  have hnot : ∀ (x : Bool) (w : World), (Op.unary .not (.bool x)).run Tryz.prog w = .ok (.bool (!x)) w := fun _ _ => rfl
  go_enter Tryz.func33, Tryz.ntmps33
  go_wp2_with (go_at_call 36; refine (bload a 1 _ h1).mono ?_; rintro e w' ⟨rfl, rfl⟩)
  go_end0
  exact ⟨rfl, rfl⟩
end Go.Proofs.YtcjhgibhenocpaaGreatDoor.Lz
