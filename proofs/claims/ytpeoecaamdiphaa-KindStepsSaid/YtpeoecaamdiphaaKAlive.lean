/-
  The contract of alive.
-/
import Derived.Test.YtpeoecaamdiphaaKReachR
import Derived.Test.YtpeoecaamdiphaaKRefs
import Derived.Test.YtpeoecaamdiphaaKFew
namespace Go.Proofs.Ytpeoecaamdiphaa
open Go.RowKit

theorem kmask_n (v : Value) (ts : List ByteArray) (t : Int) (m : Nat) (w : World) (h : TsAt w v ts) (hm : Hid (maskN ts t = m)) : Calls Try.prog 18 #[v, .int .i64 t] w fun e w' => e = .returned (.int .u8 m) ∧ w = w' :=
  (kmask_any v ts t w h).mono fun e w' ⟨h1, h2⟩ => ⟨by rw [h1, hm.out], h2⟩
theorem rmask_n (v : Value) (ts : List ByteArray) (t : Int) (m : Nat) (w : World) (h : TsAt w v ts) (hm : Hid (maskN ts t = m)) : Calls Try.prog 19 #[v, .int .i64 t] w fun e w' => e = .returned (.int .u8 m) ∧ w = w' :=
  (rmask_any v ts t w h).mono fun e w' ⟨h1, h2⟩ => ⟨by rw [h1, hm.out], h2⟩
theorem krefs_n (v : Value) (ts : List ByteArray) (s : ByteArray) (x : Bool) (w : World) (h : TsAt w v ts) (hs : s.size ≤ 9223372036854775807) (hx : Hid (refsB ts s = x)) : Calls Try.prog 14 #[v, .string s] w fun e w' => e = .returned (.bool x) ∧ w = w' :=
  (krefs_any v ts s w h hs).mono fun e w' ⟨h1, h2⟩ => ⟨by rw [h1, hx.out], h2⟩
theorem rrefs_n (v : Value) (ts : List ByteArray) (s : ByteArray) (x : Bool) (w : World) (h : TsAt w v ts) (hs : s.size ≤ 9223372036854775807) (hx : Hid (refsB ts s = x)) : Calls Try.prog 15 #[v, .string s] w fun e w' => e = .returned (.bool x) ∧ w = w' :=
  (rrefs_any v ts s w h hs).mono fun e w' ⟨h1, h2⟩ => ⟨by rw [h1, hx.out], h2⟩

def tsA : List ByteArray := [⟨#[105, 49]⟩, ⟨#[48]⟩]
def tsB : List ByteArray := [⟨#[50]⟩, ⟨#[48]⟩]
theorem rightA : rightB tsA = true := by decide
theorem notB : rightB tsB = false := by decide
theorem maskA : maskN tsA 0 = 2 := by decide
theorem toA1 : toI tsA 0 1 = 1 := by decide
theorem toA0 : toI tsA 0 0 = -1 := by decide
theorem sizeA : sizeI tsA 0 = ((2 : Nat) : Int) := by decide
theorem refsA : refsB tsA ⟨#[49, 48]⟩ = true := by decide
theorem reachA : reachD tsA 0 = [0, 1] := by
  have e1 : oneB tsA ((0 : Nat) : Int) = true := by decide
  have e2 := reach_one (ts := tsA) (n := 0) e1
  rw [show ((0 : Nat) : Int) = 0 from rfl] at e2
  rw [e2]
  have h1 : Rch tsA 0 1 := Rch.more .here ⟨by decide, 1, by decide, by decide, by decide⟩
  have e3 : List.range tsA.length = [0, 1] := rfl
  unfold reachL
  rw [e3]
  simp [h1]
theorem short_two {x y : ByteArray} (hx : x.size ≤ 9223372036854775807) (hy : y.size ≤ 9223372036854775807) : ∀ s ∈ [x, y], s.size ≤ 9223372036854775807 := by
  intro s hs
  simp at hs
  rcases hs with rfl | rfl
  · exact hx
  · exact hy
theorem ts_new (w : World) (x y : ByteArray) (e : TypeId) (hx : x.size ≤ 9223372036854775807) (hy : y.size ≤ 9223372036854775807) : TsAt (w.alloc (.cells #[.string x, .string y] e)) (.slice (some ⟨w.heap.size, 0, none⟩) 2 2) [x, y] := by
  refine ⟨⟨some ⟨w.heap.size, 0, none⟩, 2, rfl, Nat.le_refl _, by unfold maxLen; omega, .inr ⟨w.heap.size, 0, rfl, by simp, ?_⟩⟩, short_two hx hy⟩
  intro j u hu
  simp only [World.cell?, heap_alloc_new]
  rcases j with _ | _ | j
  · simp at hu; subst hu; simp
  · simp at hu; subst hu; simp
  · simp at hu
theorem row_new (w : World) (x y : Nat) (e : TypeId) : RowAt (w.alloc (.cells #[int1 x, int1 y] e)) (.slice (some ⟨w.heap.size, 0, none⟩) 2 2) (ints [x, y]) := by
  refine ⟨some ⟨w.heap.size, 0, none⟩, 2, rfl, Nat.le_refl _, by unfold maxLen; omega, .inr ⟨w.heap.size, 0, rfl, by simp, ?_⟩⟩
  intro j u hu
  simp only [World.cell?, heap_alloc_new]
  rcases j with _ | _ | j
  · simp at hu; subst hu; simp
  · simp at hu; subst hu; simp
  · simp at hu
theorem below_alloc (w : World) (o : Obj) : Below w.heap.size w (w.alloc o) := (Below.refl _ _).alloc (Nat.le_refl _) _
theorem reach_at (v : Value) (ts : List ByteArray) (t : Int) (L : List Nat) (m : Nat) (w : World) (h : TsAt w v ts) (hL : Hid (reachD ts t = L)) (hm : L.length = m) : Calls Try.prog 23 #[v, .int .i64 t] w fun e w' => ∃ a c, e = .returned (.slice a m c) ∧ RowAt w' (.slice a m c) (ints L) ∧ Below w.heap.size w w' := by
  refine (kreach_any v ts t w h).mono ?_
  rintro e w' ⟨a, c, rfl, h1, h2⟩
  rw [hL.out, hm] at h1 ⊢
  exact ⟨a, c, rfl, RowAt.of_own (by rw [← hm] at h1 ⊢; exact h1), h2⟩
theorem rreach_at (v : Value) (ts : List ByteArray) (t : Int) (L : List Nat) (m : Nat) (w : World) (h : TsAt w v ts) (hL : Hid (reachD ts t = L)) (hm : L.length = m) : Calls Try.prog 24 #[v, .int .i64 t] w fun e w' => ∃ a c, e = .returned (.slice a m c) ∧ RowAt w' (.slice a m c) (ints L) ∧ Below w.heap.size w w' := by
  refine (rreach_any v ts t w h).mono ?_
  rintro e w' ⟨a, c, rfl, h1, h2⟩
  rw [hL.out, hm] at h1 ⊢
  exact ⟨a, c, rfl, RowAt.of_own (by rw [← hm] at h1 ⊢; exact h1), h2⟩

def TrueB (w : World) (e : Ending) (w' : World) : Prop := e = .returned (.bool true) ∧ Below w.heap.size w w'

abbrev lA (w : World) : World := w.alloc (.cells #[.string ⟨#[105, 49]⟩, .string ⟨#[48]⟩] 9)
abbrev lB (w : World) : World := w.alloc (.cells #[.string ⟨#[50]⟩, .string ⟨#[48]⟩] 9)
abbrev lI (w : World) : World := w.alloc (.cells #[.int .i64 0, .int .i64 1] 3)
abbrev sl2 (w : World) : Value := .slice (some ⟨w.heap.size, 0, none⟩) 2 2
theorem alA (w : World) : TsAt (lA w) (sl2 w) tsA := ts_new w ⟨#[105, 49]⟩ ⟨#[48]⟩ 9 (by decide) (by decide)
theorem alB (w : World) : TsAt (lB w) (sl2 w) tsB := ts_new w ⟨#[50]⟩ ⟨#[48]⟩ 9 (by decide) (by decide)
theorem al1 (w : World) : Calls Try.prog 12 #[.slice (some ⟨w.heap.size, 0, none⟩) 2 2] (lA w) fun e w' => e = .returned (.bool true) ∧ lA w = w' :=
  kright_t _ tsA _ (alA w) (Lib.hid rightA)
theorem al2 (w : World) : Calls Try.prog 12 #[.slice (some ⟨w.heap.size + 1, 0, none⟩) 2 2] (lB (lA w)) fun e w' => e = .returned (.bool false) ∧ lB (lA w) = w' := by
  have h := alB (lA w)
  unfold sl2 at h
  rw [show (lA w).heap.size = w.heap.size + 1 by simp] at h
  exact kright_f _ tsB _ h (Lib.hid notB)
theorem alAB (w : World) : TsAt (lB (lA w)) (.slice (some ⟨w.heap.size, 0, none⟩) 2 2) tsA := (alA w).below (below_alloc _ _)
theorem al3 (w : World) : Calls Try.prog 18 #[.slice (some ⟨w.heap.size, 0, none⟩) 2 2, .int .i64 0] (lB (lA w)) fun e w' => e = .returned (.int .u8 2) ∧ lB (lA w) = w' :=
  kmask_n _ tsA _ 2 _ (alAB w) (Lib.hid maskA)
theorem al4 (w : World) : Calls Try.prog 20 #[.slice (some ⟨w.heap.size, 0, none⟩) 2 2, .int .i64 0, .int .i64 1] (lB (lA w)) fun e w' => e = .returned (.int .i64 1) ∧ lB (lA w) = w' :=
  kto_n _ tsA _ _ 1 _ (alAB w) (Lib.hid toA1)
theorem al5 (w : World) : Calls Try.prog 20 #[.slice (some ⟨w.heap.size, 0, none⟩) 2 2, .int .i64 0, .int .i64 0] (lB (lA w)) fun e w' => e = .returned (.int .i64 (-1)) ∧ lB (lA w) = w' :=
  kto_n _ tsA _ _ (-1) _ (alAB w) (Lib.hid toA0)
theorem al6 (w : World) : Calls Try.prog 16 #[.slice (some ⟨w.heap.size, 0, none⟩) 2 2, .int .i64 0] (lB (lA w)) fun e w' => e = .returned (.int .i64 2) ∧ lB (lA w) = w' :=
  ksize_n _ tsA _ 2 _ (alAB w) (Lib.hid sizeA)
theorem al7 (w : World) : Calls Try.prog 23 #[.slice (some ⟨w.heap.size, 0, none⟩) 2 2, .int .i64 0] (lB (lA w)) fun e w' => ∃ a c, e = .returned (.slice a 2 c) ∧ RowAt w' (.slice a 2 c) (ints [0, 1]) ∧ Below (lB (lA w)).heap.size (lB (lA w)) w' :=
  reach_at _ tsA _ [0, 1] 2 _ (alAB w) (Lib.hid reachA) rfl
theorem al8 (w3 : World) (a : Option Addr) (c : Nat) (h : RowAt w3 (.slice a 2 c) (ints [0, 1])) : Calls Try.prog 22 #[.slice a 2 c, .slice (some ⟨w3.heap.size, 0, none⟩) 2 2] (lI w3) (TrueDrawn (lI w3)) :=
  same_t _ _ [0, 1] _ (h.below (below_alloc _ _)) (row_new w3 0 1 3)
theorem al9 (w w5 : World) (h : TsAt w5 (.slice (some ⟨w.heap.size, 0, none⟩) 2 2) tsA) : Calls Try.prog 14 #[.slice (some ⟨w.heap.size, 0, none⟩) 2 2, .string ⟨#[49, 48]⟩] w5 fun e w' => e = .returned (.bool true) ∧ w5 = w' :=
  krefs_n _ tsA ⟨#[49, 48]⟩ true _ h (by decide) (Lib.hid refsA)

set_option maxHeartbeats 4000000 in
theorem alive_any (w : World) : Calls Try.prog 10 #[] w (TrueB w) := by
  go_enter Try.func10, Try.ntmps10
  go_wp2_with (first
    | (go_at_call 12; ((with_reducible refine (al1 w).mono ?_); rintro e w' ⟨rfl, rfl⟩))
    | (go_at_call 12; ((with_reducible refine (al2 w).mono ?_); rintro e w' ⟨rfl, rfl⟩))
    | (go_at_call 18; ((with_reducible refine (al3 w).mono ?_); rintro e w' ⟨rfl, rfl⟩))
    | (go_at_call 20; ((with_reducible refine (al4 w).mono ?_); rintro e w' ⟨rfl, rfl⟩))
    | (go_at_call 20; ((with_reducible refine (al5 w).mono ?_); rintro e w' ⟨rfl, rfl⟩))
    | (go_at_call 16; ((with_reducible refine (al6 w).mono ?_); rintro e w' ⟨rfl, rfl⟩))
    | (go_at_call 23; ((with_reducible refine (al7 w).mono ?_); rintro e w3 ⟨a, c, rfl, hr3, hb3⟩; have ht3 := (alAB w).below hb3))
    | (go_at_call 22; ((with_reducible refine (al8 w3 a c hr3).mono ?_); rintro e w5 ⟨rfl, hd5⟩; have ht5 := (ht3.below (below_alloc w3 _)).below (hd5.below _)))
    | (go_at_call 14; ((with_reducible refine (al9 w w5 ht5).mono ?_); rintro e w' ⟨rfl, rfl⟩)))
  go_ret
  have s3 := hb3.size
  have e1 : (lA w).heap.size = w.heap.size + 1 := by simp
  have e2 : (lB (lA w)).heap.size = w.heap.size + 1 + 1 := by simp
  exact ⟨rfl, ((((below_alloc w _).trans ((below_alloc (lA w) _).mono (by omega))).trans (hb3.mono (by omega))).trans ((below_alloc w3 _).mono (by omega))).trans (hd5.below _)⟩
end Go.Proofs.Ytpeoecaamdiphaa
