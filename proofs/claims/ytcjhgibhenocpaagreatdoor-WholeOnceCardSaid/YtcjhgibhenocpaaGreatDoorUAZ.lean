/-
  The document's shape, part and letters: contracts.
  The contract of the document's with.
  The contract of the document's line.
  The document's digits and Number.
-/
import Derived.Test.YtcjhgibhenocpaaGreatDoorUAE
import Derived.Test.YtcjhgibhenocpaaGreatDoorUAA
import Derived.Test.YtcjhgibhenocpaaGreatDoorCInstr
import Derived.Test.YtcjhgibhenocpaaGreatDoorUAH
import Derived.Deep.AppendLies
import Derived.Deep.RegionLaw
import Derived.Test.YtcjhgibhenocpaaGreatDoorUAG

/- The document's shape, part and letters: contracts. -/
namespace Go.Proofs.YtcjhgibhenocpaaGreatDoor
set_option linter.unusedSimpArgs false
set_option linter.unusedVariables false
open Go.RowKit

def low (c : UInt8) : UInt8 := c + 32
/-- What shape answers. -/
def shapeL (op : Int) : Bs × Bs := match byOpL op with
  | none => ([], [])
  | some o => (o.2.1, o.2.2.map low)
theorem shapeL_some {op : Int} {o : Int × Bs × Bs} (h : byOpL op = some o) : shapeL op = (o.2.1, o.2.2.map low) := by unfold shapeL; rw [h]
def PairV (x : Bs × Bs) : Value := .tuple #[str x.1, str x.2]
theorem shape_none {op : Int} (h : op < 1 ∨ 15 < op) : shapeL op = ([], []) := by
  have : byOpL op = none := by
    unfold byOpL
    rw [List.find?_eq_none]
    intro o ho
    obtain ⟨h1, h2, _⟩ := ops_cases ho
    simp only [beq_iff_eq]
    omega
  unfold shapeL; rw [this]

set_option maxRecDepth 100000 in
theorem rest_any (op : Int) (w : World) (h : op < 1 ∨ 10 < op) : Calls Tryz.prog 124 #[.int .u8 op] w fun e w' => e = .returned (PairV (shapeL op)) ∧ w = w' := by
  by_cases e11 : op = 11
  · subst e11
    go_enter Tryz.func124, Tryz.ntmps124
    go_wp2
    go_ret2
    exact ⟨rfl, rfl⟩
  by_cases e12 : op = 12
  · subst e12
    go_enter Tryz.func124, Tryz.ntmps124
    go_wp2
    go_ret2
    exact ⟨rfl, rfl⟩
  by_cases e13 : op = 13
  · subst e13
    go_enter Tryz.func124, Tryz.ntmps124
    go_wp2
    go_ret2
    exact ⟨rfl, rfl⟩
  by_cases e14 : op = 14
  · subst e14
    go_enter Tryz.func124, Tryz.ntmps124
    go_wp2
    go_ret2
    exact ⟨rfl, rfl⟩
  by_cases e15 : op = 15
  · subst e15
    go_enter Tryz.func124, Tryz.ntmps124
    go_wp2
    go_ret2
    exact ⟨rfl, rfl⟩
  have n11 : (op == 11) = false := by simpa using e11
  have n12 : (op == 12) = false := by simpa using e12
  have n13 : (op == 13) = false := by simpa using e13
  have n14 : (op == 14) = false := by simpa using e14
  have n15 : (op == 15) = false := by simpa using e15
  rw [shape_none (by omega)]
  clear h
  go_enter Tryz.func124, Tryz.ntmps124
  go_wp2
  go_ret2
  exact ⟨rfl, rfl⟩
set_option maxRecDepth 100000 in
theorem shape_any (op : Int) (w : World) : Calls Tryz.prog 80 #[.int .u8 op] w fun e w' => e = .returned (PairV (shapeL op)) ∧ w = w' := by
  by_cases e1 : op = 1
  · subst e1
    go_enter Tryz.func80, Tryz.ntmps80
    go_wp2
    go_ret2
    exact ⟨rfl, rfl⟩
  by_cases e2 : op = 2
  · subst e2
    go_enter Tryz.func80, Tryz.ntmps80
    go_wp2
    go_ret2
    exact ⟨rfl, rfl⟩
  by_cases e3 : op = 3
  · subst e3
    go_enter Tryz.func80, Tryz.ntmps80
    go_wp2
    go_ret2
    exact ⟨rfl, rfl⟩
  by_cases e4 : op = 4
  · subst e4
    go_enter Tryz.func80, Tryz.ntmps80
    go_wp2
    go_ret2
    exact ⟨rfl, rfl⟩
  by_cases e5 : op = 5
  · subst e5
    go_enter Tryz.func80, Tryz.ntmps80
    go_wp2
    go_ret2
    exact ⟨rfl, rfl⟩
  by_cases e6 : op = 6
  · subst e6
    go_enter Tryz.func80, Tryz.ntmps80
    go_wp2
    go_ret2
    exact ⟨rfl, rfl⟩
  by_cases e7 : op = 7
  · subst e7
    go_enter Tryz.func80, Tryz.ntmps80
    go_wp2
    go_ret2
    exact ⟨rfl, rfl⟩
  by_cases e8 : op = 8
  · subst e8
    go_enter Tryz.func80, Tryz.ntmps80
    go_wp2
    go_ret2
    exact ⟨rfl, rfl⟩
  by_cases e9 : op = 9
  · subst e9
    go_enter Tryz.func80, Tryz.ntmps80
    go_wp2
    go_ret2
    exact ⟨rfl, rfl⟩
  by_cases e10 : op = 10
  · subst e10
    go_enter Tryz.func80, Tryz.ntmps80
    go_wp2
    go_ret2
    exact ⟨rfl, rfl⟩
  have n1 : (op == 1) = false := by simpa using e1
  have n2 : (op == 2) = false := by simpa using e2
  have n3 : (op == 3) = false := by simpa using e3
  have n4 : (op == 4) = false := by simpa using e4
  have n5 : (op == 5) = false := by simpa using e5
  have n6 : (op == 6) = false := by simpa using e6
  have n7 : (op == 7) = false := by simpa using e7
  have n8 : (op == 8) = false := by simpa using e8
  have n9 : (op == 9) = false := by simpa using e9
  have n10 : (op == 10) = false := by simpa using e10
  have hr := rest_any op w (by omega)
  generalize shapeL op = x at hr ⊢
  obtain ⟨x, y⟩ := x
  unfold PairV at hr ⊢
  simp only at hr ⊢
  go_enter Tryz.func80, Tryz.ntmps80
  go_wp2_with (go_at_call 124; refine hr.mono ?_; rintro e w1 ⟨rfl, rfl⟩)
  go_ret2
  exact ⟨rfl, rfl⟩

set_option maxRecDepth 100000 in
theorem part_low (i : PIns) (c : UInt8) (w : World) (hi : OkI i) (h : c = 65 ∨ c = 66 ∨ c = 67 ∨ c = 78) : Calls Tryz.prog 127 #[insV i, .int .u8 (low c).toNat] w (AggPost w (.int .i64 (partL i c))) := by
  obtain ⟨x, a, b, c', n⟩ := i
  obtain ⟨o0, o1, a0, a1, b0, b1, c0, c1, n0, n1⟩ := hi
  simp only at *
  rcases h with rfl | rfl | rfl | rfl
  · rw [show (((low 65).toNat : Nat) : Int) = 97 from rfl, show partL ⟨x, a, b, c', n⟩ 65 = a from rfl]
    go_enter Tryz.func127, Tryz.ntmps127
    go_wp2
    go_ret
    exact ⟨rfl, (Below.refl _ _).alloc (Nat.le_refl _) _⟩
  · rw [show (((low 66).toNat : Nat) : Int) = 98 from rfl, show partL ⟨x, a, b, c', n⟩ 66 = b from rfl]
    go_enter Tryz.func127, Tryz.ntmps127
    go_wp2
    go_ret
    exact ⟨rfl, (Below.refl _ _).alloc (Nat.le_refl _) _⟩
  · rw [show (((low 67).toNat : Nat) : Int) = 99 from rfl, show partL ⟨x, a, b, c', n⟩ 67 = c' from rfl]
    go_enter Tryz.func127, Tryz.ntmps127
    go_wp2
    go_ret
    exact ⟨rfl, (Below.refl _ _).alloc (Nat.le_refl _) _⟩
  · rw [show (((low 78).toNat : Nat) : Int) = 110 from rfl, show partL ⟨x, a, b, c', n⟩ 78 = n from rfl]
    go_enter Tryz.func127, Tryz.ntmps127
    go_wp2
    go_ret
    exact ⟨rfl, (Below.refl _ _).alloc (Nat.le_refl _) _⟩

end Go.Proofs.YtcjhgibhenocpaaGreatDoor

/- The contract of the document's with. -/
namespace Go.Proofs.YtcjhgibhenocpaaGreatDoor
set_option linter.unusedSimpArgs false
set_option linter.unusedVariables false
open Go.RowKit

def WithPost (w : World) (j : PIns) (b : Bool) (e : Ending) (w' : World) : Prop := e = .returned (.tuple #[insV j, .bool b]) ∧ Below w.heap.size w w'
set_option maxRecDepth 100000 in
set_option maxHeartbeats 2000000 in
theorem with_n (i : PIns) (n : Int) (w : World) : Calls Tryz.prog 126 #[insV i, .int .u8 110, .int .i64 n] w (WithPost w (setL i 78 n) true) := by
  obtain ⟨x, a, b, c, m⟩ := i
  go_enter Tryz.func126, Tryz.ntmps126
  go_wp2
  refine bodyPost_ret (v := .tuple #[insV ⟨x, a, b, c, n⟩, .bool true]) ?_ rfl ⟨rfl, ((Below.refl _ _).alloc (Nat.le_refl _) _).alloc (by simp) _⟩
  have hb := blk_new (w.alloc (.cells (insC ⟨x, a, b, c, n⟩) 60)) (insC ⟨x, a, b, c, n⟩) 60
  rw [World.size_alloc] at hb
  rw [res_cell1 (p := 6) (u := 7) rfl _ _ (w.heap.size + 1) (insC ⟨x, a, b, c, n⟩) 60 _ rfl hb Tryz.underlying60 rfl ins_info]; rfl
set_option maxRecDepth 100000 in
set_option maxHeartbeats 2000000 in
theorem with_a (i : PIns) (n : Int) (w : World) (h0 : 0 ≤ n) (h1 : n ≤ 255) : Calls Tryz.prog 126 #[insV i, .int .u8 97, .int .i64 n] w (WithPost w (setL i 65 n) true) := by
  obtain ⟨x, a, b, c, m⟩ := i
  go_enter Tryz.func126, Tryz.ntmps126
  go_wp2
  refine bodyPost_ret (v := .tuple #[insV ⟨x, n, b, c, m⟩, .bool true]) ?_ rfl ⟨rfl, ((Below.refl _ _).alloc (Nat.le_refl _) _).alloc (by simp) _⟩
  have hb := blk_new (w.alloc (.cells (insC ⟨x, n, b, c, m⟩) 60)) (insC ⟨x, n, b, c, m⟩) 60
  rw [World.size_alloc] at hb
  rw [res_cell1 (p := 6) (u := 7) rfl _ _ (w.heap.size + 1) (insC ⟨x, n, b, c, m⟩) 60 _ rfl hb Tryz.underlying60 rfl ins_info]; rfl
set_option maxRecDepth 100000 in
set_option maxHeartbeats 2000000 in
theorem with_b (i : PIns) (n : Int) (w : World) (h0 : 0 ≤ n) (h1 : n ≤ 255) : Calls Tryz.prog 126 #[insV i, .int .u8 98, .int .i64 n] w (WithPost w (setL i 66 n) true) := by
  obtain ⟨x, a, b, c, m⟩ := i
  go_enter Tryz.func126, Tryz.ntmps126
  go_wp2
  refine bodyPost_ret (v := .tuple #[insV ⟨x, a, n, c, m⟩, .bool true]) ?_ rfl ⟨rfl, ((Below.refl _ _).alloc (Nat.le_refl _) _).alloc (by simp) _⟩
  have hb := blk_new (w.alloc (.cells (insC ⟨x, a, n, c, m⟩) 60)) (insC ⟨x, a, n, c, m⟩) 60
  rw [World.size_alloc] at hb
  rw [res_cell1 (p := 6) (u := 7) rfl _ _ (w.heap.size + 1) (insC ⟨x, a, n, c, m⟩) 60 _ rfl hb Tryz.underlying60 rfl ins_info]; rfl
set_option maxRecDepth 100000 in
set_option maxHeartbeats 2000000 in
theorem with_c (i : PIns) (n : Int) (w : World) (h0 : 0 ≤ n) (h1 : n ≤ 255) : Calls Tryz.prog 126 #[insV i, .int .u8 99, .int .i64 n] w (WithPost w (setL i 67 n) true) := by
  obtain ⟨x, a, b, c, m⟩ := i
  go_enter Tryz.func126, Tryz.ntmps126
  go_wp2
  refine bodyPost_ret (v := .tuple #[insV ⟨x, a, b, n, m⟩, .bool true]) ?_ rfl ⟨rfl, ((Below.refl _ _).alloc (Nat.le_refl _) _).alloc (by simp) _⟩
  have hb := blk_new (w.alloc (.cells (insC ⟨x, a, b, n, m⟩) 60)) (insC ⟨x, a, b, n, m⟩) 60
  rw [World.size_alloc] at hb
  rw [res_cell1 (p := 6) (u := 7) rfl _ _ (w.heap.size + 1) (insC ⟨x, a, b, n, m⟩) 60 _ rfl hb Tryz.underlying60 rfl ins_info]; rfl
set_option maxRecDepth 100000 in
set_option maxHeartbeats 2000000 in
theorem with_l97 (i : PIns) (n : Int) (w : World) (h0 : n < 0) : Calls Tryz.prog 126 #[insV i, .int .u8 97, .int .i64 n] w (WithPost w i false) := by
  obtain ⟨x, a, b, c, m⟩ := i
  go_enter Tryz.func126, Tryz.ntmps126
  go_wp2
  refine bodyPost_ret (v := .tuple #[insV ⟨x, a, b, c, m⟩, .bool false]) ?_ rfl ⟨rfl, ((Below.refl _ _).alloc (Nat.le_refl _) _).alloc (by simp) _⟩
  have hb := blk_new (w.alloc (.cells (insC ⟨x, a, b, c, m⟩) 60)) (insC ⟨x, a, b, c, m⟩) 60
  rw [World.size_alloc] at hb
  rw [res_cell1 (p := 6) (u := 7) rfl _ _ (w.heap.size + 1) (insC ⟨x, a, b, c, m⟩) 60 _ rfl hb Tryz.underlying60 rfl ins_info]; rfl
set_option maxRecDepth 100000 in
set_option maxHeartbeats 2000000 in
theorem with_g97 (i : PIns) (n : Int) (w : World) (h0 : 255 < n) : Calls Tryz.prog 126 #[insV i, .int .u8 97, .int .i64 n] w (WithPost w i false) := by
  obtain ⟨x, a, b, c, m⟩ := i
  go_enter Tryz.func126, Tryz.ntmps126
  go_wp2
  refine bodyPost_ret (v := .tuple #[insV ⟨x, a, b, c, m⟩, .bool false]) ?_ rfl ⟨rfl, ((Below.refl _ _).alloc (Nat.le_refl _) _).alloc (by simp) _⟩
  have hb := blk_new (w.alloc (.cells (insC ⟨x, a, b, c, m⟩) 60)) (insC ⟨x, a, b, c, m⟩) 60
  rw [World.size_alloc] at hb
  rw [res_cell1 (p := 6) (u := 7) rfl _ _ (w.heap.size + 1) (insC ⟨x, a, b, c, m⟩) 60 _ rfl hb Tryz.underlying60 rfl ins_info]; rfl
set_option maxRecDepth 100000 in
set_option maxHeartbeats 2000000 in
theorem with_l98 (i : PIns) (n : Int) (w : World) (h0 : n < 0) : Calls Tryz.prog 126 #[insV i, .int .u8 98, .int .i64 n] w (WithPost w i false) := by
  obtain ⟨x, a, b, c, m⟩ := i
  go_enter Tryz.func126, Tryz.ntmps126
  go_wp2
  refine bodyPost_ret (v := .tuple #[insV ⟨x, a, b, c, m⟩, .bool false]) ?_ rfl ⟨rfl, ((Below.refl _ _).alloc (Nat.le_refl _) _).alloc (by simp) _⟩
  have hb := blk_new (w.alloc (.cells (insC ⟨x, a, b, c, m⟩) 60)) (insC ⟨x, a, b, c, m⟩) 60
  rw [World.size_alloc] at hb
  rw [res_cell1 (p := 6) (u := 7) rfl _ _ (w.heap.size + 1) (insC ⟨x, a, b, c, m⟩) 60 _ rfl hb Tryz.underlying60 rfl ins_info]; rfl
set_option maxRecDepth 100000 in
set_option maxHeartbeats 2000000 in
theorem with_g98 (i : PIns) (n : Int) (w : World) (h0 : 255 < n) : Calls Tryz.prog 126 #[insV i, .int .u8 98, .int .i64 n] w (WithPost w i false) := by
  obtain ⟨x, a, b, c, m⟩ := i
  go_enter Tryz.func126, Tryz.ntmps126
  go_wp2
  refine bodyPost_ret (v := .tuple #[insV ⟨x, a, b, c, m⟩, .bool false]) ?_ rfl ⟨rfl, ((Below.refl _ _).alloc (Nat.le_refl _) _).alloc (by simp) _⟩
  have hb := blk_new (w.alloc (.cells (insC ⟨x, a, b, c, m⟩) 60)) (insC ⟨x, a, b, c, m⟩) 60
  rw [World.size_alloc] at hb
  rw [res_cell1 (p := 6) (u := 7) rfl _ _ (w.heap.size + 1) (insC ⟨x, a, b, c, m⟩) 60 _ rfl hb Tryz.underlying60 rfl ins_info]; rfl
set_option maxRecDepth 100000 in
set_option maxHeartbeats 2000000 in
theorem with_l99 (i : PIns) (n : Int) (w : World) (h0 : n < 0) : Calls Tryz.prog 126 #[insV i, .int .u8 99, .int .i64 n] w (WithPost w i false) := by
  obtain ⟨x, a, b, c, m⟩ := i
  go_enter Tryz.func126, Tryz.ntmps126
  go_wp2
  refine bodyPost_ret (v := .tuple #[insV ⟨x, a, b, c, m⟩, .bool false]) ?_ rfl ⟨rfl, ((Below.refl _ _).alloc (Nat.le_refl _) _).alloc (by simp) _⟩
  have hb := blk_new (w.alloc (.cells (insC ⟨x, a, b, c, m⟩) 60)) (insC ⟨x, a, b, c, m⟩) 60
  rw [World.size_alloc] at hb
  rw [res_cell1 (p := 6) (u := 7) rfl _ _ (w.heap.size + 1) (insC ⟨x, a, b, c, m⟩) 60 _ rfl hb Tryz.underlying60 rfl ins_info]; rfl
set_option maxRecDepth 100000 in
set_option maxHeartbeats 2000000 in
theorem with_g99 (i : PIns) (n : Int) (w : World) (h0 : 255 < n) : Calls Tryz.prog 126 #[insV i, .int .u8 99, .int .i64 n] w (WithPost w i false) := by
  obtain ⟨x, a, b, c, m⟩ := i
  go_enter Tryz.func126, Tryz.ntmps126
  go_wp2
  refine bodyPost_ret (v := .tuple #[insV ⟨x, a, b, c, m⟩, .bool false]) ?_ rfl ⟨rfl, ((Below.refl _ _).alloc (Nat.le_refl _) _).alloc (by simp) _⟩
  have hb := blk_new (w.alloc (.cells (insC ⟨x, a, b, c, m⟩) 60)) (insC ⟨x, a, b, c, m⟩) 60
  rw [World.size_alloc] at hb
  rw [res_cell1 (p := 6) (u := 7) rfl _ _ (w.heap.size + 1) (insC ⟨x, a, b, c, m⟩) 60 _ rfl hb Tryz.underlying60 rfl ins_info]; rfl

/-- May a letter be given this number? -/
def roomL (c : UInt8) (n : Int) : Bool := decide (c = 78) || (decide (0 ≤ n) && decide (n ≤ 255))
theorem with_any (i : PIns) (c : UInt8) (n : Int) (w : World) (h : c = 65 ∨ c = 66 ∨ c = 67 ∨ c = 78) :
    Calls Tryz.prog 126 #[insV i, .int .u8 (low c).toNat, .int .i64 n] w (WithPost w (if roomL c n then setL i c n else i) (roomL c n)) := by
  by_cases h78 : c = 78
  · subst h78; exact with_n i n w
  · have h' : c = 65 ∨ c = 66 ∨ c = 67 := by rcases h with h | h | h | h <;> simp_all
    by_cases h0 : 0 ≤ n
    · by_cases h1 : n ≤ 255
      · have e : roomL c n = true := by unfold roomL; simp [h0, h1]
        rw [e, if_pos rfl]
        rcases h' with rfl | rfl | rfl
        · exact with_a i n w h0 h1
        · exact with_b i n w h0 h1
        · exact with_c i n w h0 h1
      · have e : roomL c n = false := by unfold roomL; simp [h78, h1]
        rw [e, if_neg (by simp)]
        rcases h' with rfl | rfl | rfl
        · exact with_g97 i n w (by omega)
        · exact with_g98 i n w (by omega)
        · exact with_g99 i n w (by omega)
    · have e : roomL c n = false := by unfold roomL; simp [h78, h0]
      rw [e, if_neg (by simp)]
      rcases h' with rfl | rfl | rfl
      · exact with_l97 i n w (by omega)
      · exact with_l98 i n w (by omega)
      · exact with_l99 i n w (by omega)
theorem fit_room (c : UInt8) (w : Bs) : fitL c w = (decide ((numL w).2 = 0) && roomL c (numL w).1) := rfl
end Go.Proofs.YtcjhgibhenocpaaGreatDoor

/- The contract of the document's line. -/
namespace Go.Proofs.YtcjhgibhenocpaaGreatDoor
set_option linter.unusedSimpArgs false
set_option linter.unusedVariables false
open Go.RowKit

structure LineRel (w : World) (i : PIns) (hs nm : Bs) (k : Nat) (v : Value) (wr : World) : Prop where
  hn : blk wr w.heap.size (insC i) 60
  hb : Below w.heap.size w wr
  row : wr.ownsRow (w.heap.size + 1) 9 1 v (k + 1) (wcells i nm hs k)
theorem line_step {w wr W2 w' : World} {i : PIns} {hs nm : Bs} {k : Nat} {v v' : Value} {c : UInt8} {o : Obj} (h : LineRel w i hs nm k v wr) (hc : hs[k]? = some c) (hb : Below wr.heap.size wr W2)
    (ho : w'.ownsRow (w.heap.size + 1) 9 1 v' (k + 1 + 1) (wcells i nm hs k ++ [str (Lib.itoa (partL i c))])) (hg : (W2.alloc o).grownBy w' v.ownBlock) : LineRel w i hs nm (k + 1) v' w' := by
  have hrow1 := (own_below h.row hb).alloc o
  have hw := h.hb.size
  have hlt := blk_lt h.hn
  refine ⟨?_, ?_, ?_⟩
  · exact grown_keep hrow1 hg (by rw [Below.heap_alloc _ _ _ (Nat.lt_of_lt_of_le hlt hb.size), hb.block _ hlt]; exact h.hn) (fun cur e => by cases e)
  · have s := hb.size
    exact ((h.hb.trans (hb.mono hw)).alloc (by omega) o).grown hg (by simp; omega) (fun g hg' => by have := (hrow1.lt g hg').1; omega)
  · rw [wcells_next i nm hs k c hc]; exact ho
theorem own_line {w wr : World} {i : PIns} {hs nm : Bs} {v : Value} (h : LineRel w i hs nm hs.length v wr) : OwnS w (nm :: hs.map (fun c => Lib.itoa (partL i c))) (.returned v) wr := by
  have hr := h.row
  rw [wcells_all] at hr
  rcases ownsRow_forms hr with ⟨_, h0⟩ | ⟨g, cap, rfl⟩
  · cases h0
  · refine ⟨some ⟨g, 0, none⟩, cap, by simp, ?_, h.hb⟩
    simpa using ownsRow_le hr (Nat.le_succ _)
theorem low_get {hs : Bs} {k : Nat} {c : UInt8} (h : hs[k]? = some c) (hk : k < (⟨(hs.map low).toArray⟩ : ByteArray).size) : (⟨(hs.map low).toArray⟩ : ByteArray)[k] = low c := by
  obtain ⟨hlt, rfl⟩ := List.getElem?_eq_some_iff.1 h
  show (hs.map low)[k] = low hs[k]
  simp

set_option maxRecDepth 100000 in
set_option maxHeartbeats 4000000 in
theorem line_walk (i : PIns) (nm hs : Bs) (ls : ByteArray) (w : World) (ht : HasT w) (hi : OkI i) (h : shapeL i.op = (nm, hs.map low)) (hls : ls = ⟨(hs.map low).toArray⟩) (H4 : Hid (FourL hs)) (hl3 : hs.length ≤ 3) : Calls Tryz.prog 82 #[insV i] w (OwnS w (nm :: hs.map (fun c => Lib.itoa (partL i c)))) := by
  have HSH : Hid (∀ w', Calls Tryz.prog 80 #[.int .u8 i.op] w' fun e w'' => e = .returned (.tuple #[str nm, .string ls]) ∧ w' = w'') := Lib.hid fun w' => by have := shape_any i.op w'; rw [h] at this; subst hls; exact this
  have HP : Hid (∀ (c : UInt8) (w' : World), c = 65 ∨ c = 66 ∨ c = 67 ∨ c = 78 → Calls Tryz.prog 127 #[insV i, .int .u8 (low c).toNat] w' (AggPost w' (.int .i64 (partL i c)))) := Lib.hid fun c w' hc => part_low i c w' hi hc
  have HF : Hid (∀ (c : UInt8) (w' : World), c = 65 ∨ c = 66 ∨ c = 67 ∨ c = 78 → Below w.heap.size w w' → Calls Tryz.prog 47 #[.int .i64 (partL i c), .int .i64 10] w' (StrPost w' (Lib.itoa (partL i c)))) := Lib.hid fun c w' hc hb => by
    obtain ⟨o0, o1, a0, a1, b0, b1, c0, c1, n0, n1⟩ := hi
    have : -9223372036854775808 ≤ partL i c ∧ partL i c ≤ 9223372036854775807 := by unfold partL; (repeat' split) <;> omega
    exact format_any _ this.1 this.2 w' (ht.below hb)
  have HLG : Hid (∀ (k : Nat) (c : UInt8) (hk : k < ls.size), hs[k]? = some c → ls[k] = low c) := Lib.hid fun k c hk hc => by subst hls; exact low_get hc hk
  have hsz : ls.size = hs.length := by subst hls; show (hs.map low).length = _; simp
  obtain ⟨i9, g9, z90, z91, z92⟩ := info_parts Tryz.info9
  clear hi h ht hls
  go_enter Tryz.func82, Tryz.ntmps82
  go_wp2_with (first
    | (go_at_call 80; refine (HSH.out _).mono ?_; rintro e w1 ⟨rfl, rfl⟩; clear HSH))
  have HS := Lib.hid (show LineRel w i hs nm 0 (.slice (some ⟨w.heap.size + 1, 0, none⟩) 1 1) ((w.alloc (.cells (insC i) 60)).alloc (.cells #[str nm] 9)) from
    ⟨blk_alloc (blk_new _ _ _) _, ((Below.refl _ _).alloc (Nat.le_refl _) _).alloc (by simp) _, by
      have := row_one (w.alloc (.cells (insC i) 60)) nm
      rw [World.size_alloc] at this
      exact this⟩)
  go_loopw [5, 6] (fun v v6 wr => ∃ k : Nat, k ≤ hs.length ∧ v6 = .int .i64 k ∧ LineRel w i hs nm k v wr) (fun _ v6 _ => hs.length - (intOf v6).toNat)
  case atStart => exact ⟨0, by omega, rfl, HS.out⟩
  case round =>
    obtain ⟨k, hk, rfl, hr⟩ := hrel
    clear HS
    have HR := Lib.hid hr
    have hrs := hr.hb.size
    clear hr
    by_cases hlt : k < hs.length
    · obtain ⟨c, hc⟩ : ∃ c, hs[k]? = some c := ⟨_, List.getElem?_eq_getElem hlt⟩
      have h4 := H4.out c (List.mem_of_getElem? hc)
      have hgl := HLG.out k c (by omega) hc
      have HC := Lib.hid hc
      have HPX := Lib.hid (HP.out c wr.drew h4)
      have HFX := Lib.hid (fun w' hb => HF.out c w' h4 hb)
      have kd : blk wr.drew w.heap.size (insC i) 60 := HR.out.hn
      have kd0 := blk_cell kd 0 _ rfl
      have kd1 := blk_cell kd 1 _ rfl
      have kd2 := blk_cell kd 2 _ rfl
      have kd3 := blk_cell kd 3 _ rfl
      have kd4 := blk_cell kd 4 _ rfl
      have HDR := Lib.hid ((Below.refl wr.heap.size wr).drew)
      clear kd h4 hc HP HF
      go_wp2_with (fail)
      go_region_law (first
        | (go_simp; go_at_call 127; refine HPX.out.mono ?_; rintro e w2 ⟨rfl, hb⟩; have HB2 := Lib.hid (HDR.out.trans (hb.mono HDR.out.size)); clear hb)
        | (go_simp; go_at_call 47; refine (HFX.out _ (HR.out.hb.trans (HB2.out.mono HR.out.hb.size))).mono ?_; rintro e w3 ⟨rfl, hb⟩; have HB3 := Lib.hid (HB2.out.trans (hb.mono HB2.out.size)); clear hb)
        | (refine step_append_lies _ (by rfl) _ _ _ (by rfl) (w.heap.size + 1) 9 i9 (.string ByteArray.empty) 1 16 Tryz.underlying22 g9 z90 z91 z92 rfl (by omega) u5 (k + 1) (wcells i nm hs k) (by rfl) ((own_below HR.out.row HB3.out).alloc _) ⟨w3.heap.size, 0, none⟩ 1 1 [str (Lib.itoa (partL i c))] (by rfl) (by rfl) (one_cell w3 _ _) (one_one _) (by omega) (by unfold maxLen; omega) (by omega) (by have := HR.out.hb.size; have := HB3.out.size; have := blk_lt HR.out.hn; simp; omega) _ rfl ?_; intro gg cp w4 hown4 hgr4 _ _; have HN := Lib.hid (line_step HR.out HC.out HB3.out hown4 hgr4); clear hown4 hgr4))
      all_goals
        go_wp2
        go_roundw
        case rel => exact ⟨k + 1, by omega, by go_num, HN.out⟩
        case measure => simp [intOf]; omega
    · obtain rfl : k = hs.length := by omega
      go_wp2
      go_ret
      exact own_line HR.out
theorem line_any (i : PIns) (w : World) (ht : HasT w) (hi : OkI i) : Calls Tryz.prog 82 #[insV i] w (OwnS w (wordsI i)) := by
  rcases h : byOpL i.op with _ | o
  · have e : wordsI i = [[]] := by unfold wordsI; rw [h]
    rw [e]
    exact line_walk i [] [] ⟨#[]⟩ w ht hi (by unfold shapeL; rw [h]; rfl) rfl (Lib.hid (fun c hc => by simp at hc)) (by simp)
  · have e : wordsI i = o.2.1 :: o.2.2.map (fun c => Lib.itoa (partL i c)) := by unfold wordsI; rw [h]
    rw [e]
    have hl3 : o.2.2.length ≤ 3 := by
      obtain ⟨_, _, _, _, _, _, _, _, hh⟩ := ops_cases (byOp_mem h).1
      simp only [List.mem_cons, List.not_mem_nil, or_false] at hh
      rcases hh with hh | hh | hh | hh | hh | hh | hh <;> (rw [hh]; decide)
    exact line_walk i o.2.1 o.2.2 ⟨(o.2.2.map low).toArray⟩ w ht hi (shapeL_some h) rfl (Lib.hid (four_ops (byOp_mem h).1)) hl3
end Go.Proofs.YtcjhgibhenocpaaGreatDoor

/- The document's digits and Number. -/
namespace Go.Proofs.YtcjhgibhenocpaaGreatDoor
set_option linter.unusedSimpArgs false
set_option linter.unusedVariables false
open Go.RowKit

theorem trim_list (s : ByteArray) (h : 0 < s.size) (e : s[0] = 45) : (s.extract 1 s.size).data.toList = trimL s.data.toList := by
  have h2 : (s.extract 1 s.size).data.toList = s.data.toList.drop 1 := by simpa using Lib.extract_to_end s 1
  rw [h2]
  have hp : s.data.toList = s[0] :: s.data.toList.drop 1 := by
    conv => lhs; rw [← List.drop_zero (l := s.data.toList)]
    rw [List.drop_eq_getElem_cons (by rw [len_size]; exact h)]
    rfl
  conv => rhs; rw [hp, e]
  rw [trim_minus]
theorem trim_same (s : ByteArray) (h : 0 < s.size) (e : s[0] ≠ 45) : s.data.toList = trimL s.data.toList := by
  have hp : s.data.toList = s[0] :: s.data.toList.drop 1 := by
    conv => lhs; rw [← List.drop_zero (l := s.data.toList)]
    rw [List.drop_eq_getElem_cons (by rw [len_size]; exact h)]
    rfl
  rw [hp, trim_other e]
theorem eq45_of {c : UInt8} (h : c = 45) : (((c.toNat : Nat) : Int) == 45) = true := by subst h; rfl
theorem ne45_of {c : UInt8} (h : c ≠ 45) : (((c.toNat : Nat) : Int) == 45) = false := by
  have : c.toNat ≠ 45 := fun e => h (UInt8.toNat_inj.1 (by simpa using e))
  simp; omega
theorem eq48_of {c : UInt8} (h : c = 48) : (((c.toNat : Nat) : Int) == 48) = true := by subst h; rfl
theorem ne48_of {c : UInt8} (h : c ≠ 48) : (((c.toNat : Nat) : Int) == 48) = false := by
  have : c.toNat ≠ 48 := fun e => h (UInt8.toNat_inj.1 (by simpa using e))
  simp; omega
theorem not_empty' {d : ByteArray} (h : 0 < d.size) : d.toList.isEmpty = false := by
  rw [ByteArray.toList_eq]; exact not_empty h

/-- What the digits' walk answers of the digits d of the text s. -/
theorem dec_is {s d : ByteArray} (h : d.data.toList = trimL s.data.toList) : decL s.data.toList = decOf s d := by unfold decL decOf; rw [h]

theorem dec_bad {s d : ByteArray} (h : 0 < d.size) (h48 : d[0] = 48) (h2 : 1 < s.size) : decOf s d = false := by
  have e : (s.data.toList == [48]) = false := by
    rw [Bool.eq_false_iff]; intro e
    have := congrArg List.length (beq_iff_eq.1 e)
    rw [len_size] at this; simp at this; omega
  unfold decOf
  rw [head_of h, h48, e]; simp
theorem dec_all {s d : ByteArray} (h : 0 < d.size) (h48 : d[0] ≠ 48) : decOf s d = d.data.toList.all digC := by
  unfold decOf
  rw [not_empty h, head_of h]; simp [h48]
theorem dec_one {s : ByteArray} (h : 0 < s.size) (h48 : s[0] = 48) (h1 : s.size = 1) : decOf s s = s.data.toList.all digC := by
  have e : s.data.toList = [48] := by
    have hp : s.data.toList = s[0] :: s.data.toList.drop 1 := by
      conv => lhs; rw [← List.drop_zero (l := s.data.toList)]
      rw [List.drop_eq_getElem_cons (by rw [len_size]; exact h)]
      rfl
    rw [hp, h48, List.drop_eq_nil_of_le (by rw [len_size]; omega)]
  unfold decOf
  rw [e]; rfl

set_option maxRecDepth 100000 in
set_option maxHeartbeats 4000000 in
theorem digitsR_m (s d : ByteArray) (w : World) (hs : s.size ≤ 3000) (hpos : 0 < s.size) (h45 : s[0] = 45) (hd : d.size + 1 = s.size)
    (hsl : ∀ w, (Instr.slice 9 (.string s) (some (.int .i64 1)) none none).run Tryz.prog w = .ok (.string d) w) :
    Calls Tryz.prog 159 #[.string s] w fun e w' => e = .returned (.bool (decOf s d)) ∧ w = w' := by
  have e1 := eq45_of h45
  clear h45
  by_cases h0 : d.size = 0
  · have hx := ba_empty h0
    subst hx
    clear h0 hd
    go_enter Tryz.func159, Tryz.ntmps159
    go_wp2
    go_ret
    exact ⟨rfl, rfl⟩
  · have hdp : 0 < d.size := by omega
    have hl := not_empty' hdp
    by_cases h48 : d[0] = 48
    · have e2 := eq48_of h48
      have HE := Lib.hid (dec_bad hdp h48 (show 1 < s.size by omega))
      clear h48
      by_cases hd1 : 1 < d.size
      · go_enter Tryz.func159, Tryz.ntmps159
        go_wp2
        go_ret
        exact ⟨ret_bool HE.out.symm, rfl⟩
      · have hs1 : 1 < s.size := by omega
        go_enter Tryz.func159, Tryz.ntmps159
        go_wp2
        go_ret
        exact ⟨ret_bool HE.out.symm, rfl⟩
    · have e2 := ne48_of h48
      have HA := Lib.hid (dec_all (s := s) hdp h48)
      clear h48
      go_enter Tryz.func159, Tryz.ntmps159
      go_wp2
      clear hl
      go_loop [4] (fun i => ∃ k : Nat, k ≤ d.size ∧ i = .int .i64 k ∧ DigTo d k) (fun i => d.size - (intOf i).toNat)
      case atStart => exact ⟨0, Nat.zero_le _, rfl, digTo_zero d⟩
      case round =>
        obtain ⟨k, hk, rfl, hok⟩ := hrel
        by_cases hlt : k < d.size
        · rcases digC_cases d[k] with ⟨⟨h1, h2⟩, hc⟩ | ⟨h1, hc⟩
          · have HC := Lib.hid hc
            have n1 : ¬ ((d[k].toNat : Nat) : Int) < 48 := by omega
            have n2 : ¬ 57 < ((d[k].toNat : Nat) : Int) := by omega
            clear hc
            go_wp2
            go_round
            case rel => exact ⟨k + 1, by omega, by go_num, hok.next hlt HC.out⟩
            case measure => simp [intOf]; omega
          · have HC := Lib.hid hc
            clear hc
            rcases h1 with h1 | h1
            · go_wp2
              go_ret
              exact ⟨ret_bool (by rw [HA.out]; exact (not_dig hlt HC.out).symm), rfl⟩
            · have n1 : ¬ ((d[k].toNat : Nat) : Int) < 48 := by omega
              go_wp2
              go_ret
              exact ⟨ret_bool (by rw [HA.out]; exact (not_dig hlt HC.out).symm), rfl⟩
        · obtain rfl : k = d.size := by omega
          have HX := Lib.hid hok.all
          go_wp2
          go_ret
          exact ⟨ret_bool (by rw [HA.out]; exact HX.out.symm), rfl⟩

set_option maxRecDepth 100000 in
set_option maxHeartbeats 4000000 in
theorem digitsR_p (s : ByteArray) (w : World) (hs : s.size ≤ 3000) (hpos : 0 < s.size) (h45 : s[0] ≠ 45) :
    Calls Tryz.prog 159 #[.string s] w fun e w' => e = .returned (.bool (decOf s s)) ∧ w = w' := by
  have e1 := ne45_of h45
  have hl := not_empty' hpos
  clear h45
  by_cases h48 : s[0] = 48
  · have e2 := eq48_of h48
    by_cases hs1 : 1 < s.size
    · have HE := Lib.hid (dec_bad (s := s) hpos h48 hs1)
      clear h48
      go_enter Tryz.func159, Tryz.ntmps159
      go_wp2
      go_ret
      exact ⟨ret_bool HE.out.symm, rfl⟩
    · have HA := Lib.hid (dec_one hpos h48 (show s.size = 1 by omega))
      clear h48
      go_enter Tryz.func159, Tryz.ntmps159
      go_wp2
      clear hl
      go_loop [4] (fun i => ∃ k : Nat, k ≤ s.size ∧ i = .int .i64 k ∧ DigTo s k) (fun i => s.size - (intOf i).toNat)
      case atStart => exact ⟨0, Nat.zero_le _, rfl, digTo_zero s⟩
      case round =>
        obtain ⟨k, hk, rfl, hok⟩ := hrel
        by_cases hlt : k < s.size
        · rcases digC_cases s[k] with ⟨⟨h1, h2⟩, hc⟩ | ⟨h1, hc⟩
          · have HC := Lib.hid hc
            have n1 : ¬ ((s[k].toNat : Nat) : Int) < 48 := by omega
            have n2 : ¬ 57 < ((s[k].toNat : Nat) : Int) := by omega
            clear hc
            go_wp2
            go_round
            case rel => exact ⟨k + 1, by omega, by go_num, hok.next hlt HC.out⟩
            case measure => simp [intOf]; omega
          · have HC := Lib.hid hc
            clear hc
            rcases h1 with h1 | h1
            · go_wp2
              go_ret
              exact ⟨ret_bool (by rw [HA.out]; exact (not_dig hlt HC.out).symm), rfl⟩
            · have n1 : ¬ ((s[k].toNat : Nat) : Int) < 48 := by omega
              go_wp2
              go_ret
              exact ⟨ret_bool (by rw [HA.out]; exact (not_dig hlt HC.out).symm), rfl⟩
        · obtain rfl : k = s.size := by omega
          have HX := Lib.hid hok.all
          go_wp2
          go_ret
          exact ⟨ret_bool (by rw [HA.out]; exact HX.out.symm), rfl⟩
  · have e2 := ne48_of h48
    have HA := Lib.hid (dec_all (s := s) hpos h48)
    clear h48
    go_enter Tryz.func159, Tryz.ntmps159
    go_wp2
    clear hl
    go_loop [4] (fun i => ∃ k : Nat, k ≤ s.size ∧ i = .int .i64 k ∧ DigTo s k) (fun i => s.size - (intOf i).toNat)
    case atStart => exact ⟨0, Nat.zero_le _, rfl, digTo_zero s⟩
    case round =>
      obtain ⟨k, hk, rfl, hok⟩ := hrel
      by_cases hlt : k < s.size
      · rcases digC_cases s[k] with ⟨⟨h1, h2⟩, hc⟩ | ⟨h1, hc⟩
        · have HC := Lib.hid hc
          have n1 : ¬ ((s[k].toNat : Nat) : Int) < 48 := by omega
          have n2 : ¬ 57 < ((s[k].toNat : Nat) : Int) := by omega
          clear hc
          go_wp2
          go_round
          case rel => exact ⟨k + 1, by omega, by go_num, hok.next hlt HC.out⟩
          case measure => simp [intOf]; omega
        · have HC := Lib.hid hc
          clear hc
          rcases h1 with h1 | h1
          · go_wp2
            go_ret
            exact ⟨ret_bool (by rw [HA.out]; exact (not_dig hlt HC.out).symm), rfl⟩
          · have n1 : ¬ ((s[k].toNat : Nat) : Int) < 48 := by omega
            go_wp2
            go_ret
            exact ⟨ret_bool (by rw [HA.out]; exact (not_dig hlt HC.out).symm), rfl⟩
      · obtain rfl : k = s.size := by omega
        have HX := Lib.hid hok.all
        go_wp2
        go_ret
        exact ⟨ret_bool (by rw [HA.out]; exact HX.out.symm), rfl⟩

theorem digitsR_e (w : World) : Calls Tryz.prog 159 #[.string ⟨#[]⟩] w fun e w' => e = .returned (.bool false) ∧ w = w' := by
  go_enter Tryz.func159, Tryz.ntmps159
  go_wp2
  go_ret
  exact ⟨rfl, rfl⟩
theorem slice_one (s : ByteArray) (hpos : 0 < s.size) (w : World) : (Instr.slice 9 (.string s) (some (.int .i64 1)) none none).run Tryz.prog w = .ok (.string (s.extract 1 s.size)) w := by
  have h1 : (1 : Int) ≤ (s.size : Int) := by omega
  simpa using run_slice_string_l (P := Tryz.prog) w 9 s Tryz.underlying9 .i64 1 (by decide) h1
theorem digitsR_any (s : ByteArray) (w : World) (hs : s.size ≤ 3000) : Calls Tryz.prog 159 #[.string s] w fun e w' => e = .returned (.bool (decL s.data.toList)) ∧ w = w' := by
  by_cases h0 : s.size = 0
  · have hx := ba_empty h0
    subst hx
    exact digitsR_e w
  · have hpos : 0 < s.size := by omega
    by_cases h45 : s[0] = 45
    · rw [dec_is (trim_list s hpos h45)]
      exact digitsR_m s _ w hs hpos h45 (by rw [ByteArray.size_extract]; omega) (slice_one s hpos)
    · rw [dec_is (trim_same s hpos h45)]
      exact digitsR_p s w hs hpos h45
end Go.Proofs.YtcjhgibhenocpaaGreatDoor
