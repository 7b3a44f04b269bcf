/-
  LazyTypes: a value of texts is told as it was made, and one of pointers is the same one for all.
-/
import Derived.Test.YtcogfajmocbogaaAlive
import Derived.Test.YtcogfajmocbogaaRows2
import Derived.LaidEqlPtr
import Derived.Deep.QuietTactic
import Derived.BigQuiet
namespace Go.Proofs.Ytcogfajmocbogaa
open Go.RowKit

theorem below_draws {B : Nat} {a w : World} (h : Below B a w) (n : Nat) : Below B a (w.drewN n) := ⟨h.os, h.tape, h.output, h.size, h.block⟩

theorem typesF1 (a : Addr) (s : ByteArray) (w : World) (hc : w.cell? a = some (.string s)) :
    Calls Try.prog 31 #[.pointer (some a)] w fun e w' => e = .returned (.string s) ∧ w = w' := by
  go_enter Try.func31, Try.ntmps31
  go_wp2
  go_ret
  exact ⟨rfl, rfl⟩
theorem typesF2 (a : Addr) (n : Int) (w : World) (hc : w.cell? a = some (.int .i64 n)) :
    Calls Try.prog 33 #[.pointer (some a)] w fun e w' => e = .returned (.pointer (some ⟨w.heap.size, 0, none⟩)) ∧ w' = w.alloc (.cells #[.int .i64 n] 2) := by
  go_enter Try.func33, Try.ntmps33
  go_wp2
  go_ret
  exact ⟨rfl, rfl⟩

/-- The blocks of the call: the text and the number that came in; the two values; where the second one's pointer leads. -/
structure TypesAt (B N : Nat) (s : ByteArray) (n : Int) (vs vp : Array Value) (wr : World) : Prop where
  hs : wr.heap[B]? = some (.cells #[.string s] 9 (0, 0))
  hn : wr.heap[B + 1]? = some (.cells #[.int .i64 n] 2 (0, 0))
  ha : wr.heap[N]? = some (.cells vs 72 (0, 0))
  hb : wr.heap[N + 1]? = some (.cells vp 97 (0, 0))

abbrev fvS (B : Nat) : Value := .func (.func 31) #[] #[.pointer (some ⟨B, 0, none⟩)]
abbrev fvP (B : Nat) : Value := .func (.func 33) #[] #[.pointer (some ⟨B + 1, 0, none⟩)]

theorem types_getS (B N : Nat) (hBN : B + 1 < N) (s : ByteArray) (n : Int) (z : Value) (vp : Array Value) (w : World) (h : TypesAt B N s n (fresh (fvS B) z) vp w) :
    Calls Try.prog 27 #[.pointer (some ⟨N, 0, none⟩)] w fun e w' =>
      e = .returned (.tuple #[.string s, .bool true]) ∧ TypesAt B N s n (made (.string s)) vp w' ∧ Below B w w' := by
  obtain ⟨hs, hn, ha, hb⟩ := h
  have hs1 : (w.setCell ⟨N, 2, none⟩ (.int .i32 1)).heap[B]? = some (.cells #[.string s] 9 (0, 0)) := blk_other hs (by dsimp only; omega) _
  refine (getExactS N 31 _ (fun v w2 => v = s ∧ w2 = w.setCell ⟨N, 2, none⟩ (.int .i32 1)) w z
    (enters Try.func31 (by kernel_rfl) (by kernel_rfl) _) ha
    ((typesF1 ⟨B, 0, none⟩ s _ (blk_cell hs1 rfl)).mono fun _ _ ⟨he, hw⟩ => ⟨_, he, rfl, hw.symm⟩) ?_).mono ?_
  · rintro v w2 ⟨rfl, rfl⟩
    exact blk_set (i := 2) _ ha
  · rintro e w' ⟨v, w2, rfl, ⟨rfl, rfl⟩, ho, hm⟩
    refine ⟨rfl, ⟨?_, ?_, hm, ?_⟩, ?_⟩
    · exact blk_only hs1 ho (by omega)
    · exact blk_only (blk_other hn (by dsimp only; omega) _) ho (by omega)
    · exact blk_only (blk_other hb (by dsimp only; omega) _) ho (by omega)
    · exact (((Below.refl _ _).setCell (by dsimp only; omega) _)).trans (ho.below (by omega))

theorem types_getP (B N : Nat) (hBN : B + 1 < N) (s : ByteArray) (n : Int) (z : Value) (vs : Array Value) (w : World) (h : TypesAt B N s n vs (fresh (fvP B) z) w) :
    Calls Try.prog 34 #[.pointer (some ⟨N + 1, 0, none⟩)] w fun e w' => ∃ M,
      e = .returned (.tuple #[.pointer (some ⟨M, 0, none⟩), .bool true]) ∧ TypesAt B N s n vs (made (.pointer (some ⟨M, 0, none⟩))) w' ∧ w'.heap[M]? = some (.cells #[.int .i64 n] 2 (0, 0)) ∧ Below B w w' := by
  obtain ⟨hs, hn, ha, hb⟩ := h
  have hn1 : (w.setCell ⟨N + 1, 2, none⟩ (.int .i32 1)).heap[B + 1]? = some (.cells #[.int .i64 n] 2 (0, 0)) := blk_other hn (by dsimp only; omega) _
  have hlt := lt_of_block hb
  refine (getExactP (N + 1) 33 _ (fun v w2 => v = some ⟨w.heap.size, 0, none⟩ ∧ w2 = (w.setCell ⟨N + 1, 2, none⟩ (.int .i32 1)).alloc (.cells #[.int .i64 n] 2)) w z
    (enters Try.func33 (by kernel_rfl) (by kernel_rfl) _) hb
    ((typesF2 ⟨B + 1, 0, none⟩ n _ (blk_cell hn1 rfl)).mono fun _ _ ⟨he, hw⟩ => ⟨_, he, by simp [World.setCell], hw⟩) ?_).mono ?_
  · rintro v w2 ⟨rfl, rfl⟩
    exact blk_old (blk_set (i := 2) _ hb) _
  · rintro e w' ⟨v, w2, rfl, ⟨rfl, rfl⟩, ho, hm⟩
    refine ⟨w.heap.size, rfl, ⟨?_, ?_, ?_, hm⟩, ?_, ?_⟩
    · exact blk_only (blk_old (blk_other hs (by dsimp only; omega) _) _) ho (by omega)
    · exact blk_only (blk_old hn1 _) ho (by omega)
    · exact blk_only (blk_old (blk_other ha (by dsimp only; omega) _) _) ho (by omega)
    · have := blk_new (w.setCell ⟨N + 1, 2, none⟩ (.int .i32 1)) (.cells #[.int .i64 n] 2 (0, 0))
      have hz : (w.setCell ⟨N + 1, 2, none⟩ (.int .i32 1)).heap.size = w.heap.size := by simp [World.setCell]
      rw [hz] at this
      exact blk_only this ho (by omega)
    · exact (((Below.refl _ _).setCell (by dsimp only; omega) _).alloc (by simp [World.setCell]; omega) _).trans (ho.below (by omega))

set_option maxRecDepth 100000 in
set_option maxHeartbeats 1600000 in
theorem types_long (s : ByteArray) (n : Int) (w : World) (hs : 1000 < s.size) (hm : s.size ≤ maxLen) :
    Calls Try.prog 11 #[.string s, .int .i64 n] w fun e w' => e = .returned (.bool true) ∧ Below w.heap.size w w' := by
  unfold maxLen at hm
  go_enter Try.func11, Try.ntmps11
  go_wp2_with (go_at_call 12; refine (alive_true _).mono ?_; rintro e w1 ⟨rfl, hbel⟩; have HBEL := Lib.hid hbel; clear hbel)
  go_ret
  exact ⟨rfl, (((Below.refl _ _).alloc (Nat.le_refl _) _).alloc (by simp) _).trans (HBEL.out.mono (by simp; omega))⟩

set_option maxRecDepth 100000 in
set_option maxHeartbeats 1600000 in
theorem types_short (s : ByteArray) (n : Int) (w : World) (hs : ¬ 1000 < s.size) :
    Calls Try.prog 11 #[.string s, .int .i64 n] w fun e w' => e = .returned (.bool true) ∧ Below w.heap.size w w' := by
  have hmf : ∀ (fn : Fn) (first cap : Array Value) (w : World), (Instr.makeFunc fn first cap).run Try.prog w = .ok (.func fn first cap) w := fun _ _ _ _ => rfl
  have hnot : ∀ (x : Bool) (w : World), (Op.unary .not (.bool x)).run Try.prog w = .ok (.bool (!x)) w := fun _ _ => rfl
  go_enter Try.func11, Try.ntmps11
  go_wp2_with (first
    | (go_at_call 12; refine (alive_true _).mono ?_; rintro e w1 ⟨rfl, hbel⟩; have HBEL := Lib.hid hbel; clear hbel)
    | (go_at_call 30; with_reducible refine (newS _ _ _).mono ?_; rintro e w' ⟨rfl, rfl⟩)
    | (go_at_call 32; with_reducible refine (newP _ _ _).mono ?_; rintro e w' ⟨rfl, rfl⟩))
  have hsz : w.heap.size + 1 < w1.heap.size := by
    have := HBEL.out.size
    simp at this
    omega
  have hS : TypesAt w.heap.size w1.heap.size s n (fresh (fvS w.heap.size) (.string { data := #[] })) (fresh (fvP w.heap.size) (.pointer none)) ((w1.alloc (.cells (fresh (fvS w.heap.size) (.string { data := #[] })) 72)).alloc (.cells (fresh (fvP w.heap.size) (.pointer none)) 97)) := by
    refine ⟨blk_old (blk_old ?_ _) _, blk_old (blk_old ?_ _) _, blk_old (blk_new _ _) _, ?_⟩
    · rw [HBEL.out.block _ (by simp; omega)]; exact blk_old (blk_new _ _) _
    · rw [HBEL.out.block _ (by simp)]
      have := blk_new (w.alloc (.cells #[.string s] 9)) (.cells #[.int .i64 n] 2 (0, 0))
      simpa using this
    · have := blk_new (w1.alloc (.cells (fresh (fvS w.heap.size) (.string { data := #[] })) 72)) (.cells (fresh (fvP w.heap.size) (.pointer none)) 97 (0, 0))
      simpa using this
  have hW : Below w.heap.size w ((w1.alloc (.cells (fresh (fvS w.heap.size) (.string { data := #[] })) 72)).alloc (.cells (fresh (fvP w.heap.size) (.pointer none)) 97)) :=
    ((((((Below.refl _ _).alloc (Nat.le_refl _) _).alloc (by simp) _).trans (HBEL.out.mono (by simp; omega))).alloc (by omega) _).alloc (by simp; omega) _)
  generalize ((w1.alloc (.cells (fresh (fvS w.heap.size) (.string { data := #[] })) 72)).alloc (.cells (fresh (fvP w.heap.size) (.pointer none)) 97)) = u at hS hW ⊢
  have HW := Lib.hid hW
  clear hW HBEL
  refine (types_getS w.heap.size w1.heap.size hsz s n _ _ u hS).mono ?_
  rintro e u1 ⟨rfl, hS1, hb1⟩
  have HS1 := Lib.hid hS1
  have HW1 := Lib.hid (HW.out.trans hb1)
  clear hS1 hb1 HW hS
  go_wp2_with fail
  refine (types_getP w.heap.size w1.heap.size hsz s n _ _ u1 HS1.out).mono ?_
  rintro e u2 ⟨M, rfl, hS2, hM, hb2⟩
  have HW2 := Lib.hid (HW1.out.trans hb2)
  have HB := Lib.hid hS2.hb
  have cs : u2.cell? ⟨w.heap.size, 0, none⟩ = some (.string s) := blk_cell hS2.hs rfl
  have cn : u2.cell? ⟨w.heap.size + 1, 0, none⟩ = some (.int .i64 n) := blk_cell hS2.hn rfl
  have cM : u2.cell? ⟨M, 0, none⟩ = some (.int .i64 n) := blk_cell hM rfl
  clear hS2 hb2 hM HW1 HS1
  go_wp2_with (go_at_call 34; refine (getMadeP (w1.heap.size + 1) (some ⟨M, 0, none⟩) _ HB.out).mono ?_; rintro e w' ⟨rfl, rfl⟩)
  clear HB
  obtain ⟨j, hj⟩ : ∃ j, Try.prog.info? 2 = some j := Option.isSome_iff_exists.1 (by kernel_rfl)
  have heq : ∀ W : World, (binOp .eql 86 (.pointer (some ⟨M, 0, none⟩)) (.pointer (some ⟨M, 0, none⟩))).run Try.prog W = .ok (.bool true) W := fun W => run_eql_ptr_same W _ Try.underlying86 hj
  go_quiet (fail)
  go_wp2
  go_ret
  exact ⟨rfl, below_draws HW2.out _⟩

theorem types_walk (s : ByteArray) (n : Int) (w : World) (hm : s.size ≤ maxLen) :
    Calls Try.prog 11 #[.string s, .int .i64 n] w fun e w' => e = .returned (.bool true) ∧ Below w.heap.size w w' := by
  by_cases hs : 1000 < s.size
  · exact types_long s n w hs hm
  · exact types_short s n w hs
end Go.Proofs.Ytcogfajmocbogaa
