/-
  The contract of the document's with.
-/
import Derived.Test.YtcenjphpdgadmaaDoorZShape
namespace Go.Proofs.YtcenjphpdgadmaaDoor
set_option linter.unusedSimpArgs false
set_option linter.unusedVariables false
open Go.RowKit

def WithPost (w : World) (j : PIns) (b : Bool) (e : Ending) (w' : World) : Prop := e = .returned (.tuple #[insV j, .bool b]) ∧ Below w.heap.size w w'
set_option maxRecDepth 100000 in
set_option maxHeartbeats 2000000 in
theorem with_n (i : PIns) (n : Int) (w : World) : Calls Tryd.prog 64 #[insV i, .int .u8 110, .int .i64 n] w (WithPost w (setL i 78 n) true) := by
  obtain ⟨x, a, b, c, m⟩ := i
  go_enter Tryd.func64, Tryd.ntmps64
  go_wp2
  refine bodyPost_ret (v := .tuple #[insV ⟨x, a, b, c, n⟩, .bool true]) ?_ rfl ⟨rfl, ((Below.refl _ _).alloc (Nat.le_refl _) _).alloc (by simp) _⟩
  have hb := blk_new (w.alloc (.cells (insC ⟨x, a, b, c, n⟩) 46)) (insC ⟨x, a, b, c, n⟩) 46
  rw [World.size_alloc] at hb
  rw [res_cell1 (p := 6) (u := 7) rfl _ _ (w.heap.size + 1) (insC ⟨x, a, b, c, n⟩) 46 _ rfl hb Tryd.underlying46 rfl ins_info]; rfl
set_option maxRecDepth 100000 in
set_option maxHeartbeats 2000000 in
theorem with_a (i : PIns) (n : Int) (w : World) (h0 : 0 ≤ n) (h1 : n ≤ 255) : Calls Tryd.prog 64 #[insV i, .int .u8 97, .int .i64 n] w (WithPost w (setL i 65 n) true) := by
  obtain ⟨x, a, b, c, m⟩ := i
  go_enter Tryd.func64, Tryd.ntmps64
  go_wp2
  refine bodyPost_ret (v := .tuple #[insV ⟨x, n, b, c, m⟩, .bool true]) ?_ rfl ⟨rfl, ((Below.refl _ _).alloc (Nat.le_refl _) _).alloc (by simp) _⟩
  have hb := blk_new (w.alloc (.cells (insC ⟨x, n, b, c, m⟩) 46)) (insC ⟨x, n, b, c, m⟩) 46
  rw [World.size_alloc] at hb
  rw [res_cell1 (p := 6) (u := 7) rfl _ _ (w.heap.size + 1) (insC ⟨x, n, b, c, m⟩) 46 _ rfl hb Tryd.underlying46 rfl ins_info]; rfl
set_option maxRecDepth 100000 in
set_option maxHeartbeats 2000000 in
theorem with_b (i : PIns) (n : Int) (w : World) (h0 : 0 ≤ n) (h1 : n ≤ 255) : Calls Tryd.prog 64 #[insV i, .int .u8 98, .int .i64 n] w (WithPost w (setL i 66 n) true) := by
  obtain ⟨x, a, b, c, m⟩ := i
  go_enter Tryd.func64, Tryd.ntmps64
  go_wp2
  refine bodyPost_ret (v := .tuple #[insV ⟨x, a, n, c, m⟩, .bool true]) ?_ rfl ⟨rfl, ((Below.refl _ _).alloc (Nat.le_refl _) _).alloc (by simp) _⟩
  have hb := blk_new (w.alloc (.cells (insC ⟨x, a, n, c, m⟩) 46)) (insC ⟨x, a, n, c, m⟩) 46
  rw [World.size_alloc] at hb
  rw [res_cell1 (p := 6) (u := 7) rfl _ _ (w.heap.size + 1) (insC ⟨x, a, n, c, m⟩) 46 _ rfl hb Tryd.underlying46 rfl ins_info]; rfl
set_option maxRecDepth 100000 in
set_option maxHeartbeats 2000000 in
theorem with_c (i : PIns) (n : Int) (w : World) (h0 : 0 ≤ n) (h1 : n ≤ 255) : Calls Tryd.prog 64 #[insV i, .int .u8 99, .int .i64 n] w (WithPost w (setL i 67 n) true) := by
  obtain ⟨x, a, b, c, m⟩ := i
  go_enter Tryd.func64, Tryd.ntmps64
  go_wp2
  refine bodyPost_ret (v := .tuple #[insV ⟨x, a, b, n, m⟩, .bool true]) ?_ rfl ⟨rfl, ((Below.refl _ _).alloc (Nat.le_refl _) _).alloc (by simp) _⟩
  have hb := blk_new (w.alloc (.cells (insC ⟨x, a, b, n, m⟩) 46)) (insC ⟨x, a, b, n, m⟩) 46
  rw [World.size_alloc] at hb
  rw [res_cell1 (p := 6) (u := 7) rfl _ _ (w.heap.size + 1) (insC ⟨x, a, b, n, m⟩) 46 _ rfl hb Tryd.underlying46 rfl ins_info]; rfl
set_option maxRecDepth 100000 in
set_option maxHeartbeats 2000000 in
theorem with_l97 (i : PIns) (n : Int) (w : World) (h0 : n < 0) : Calls Tryd.prog 64 #[insV i, .int .u8 97, .int .i64 n] w (WithPost w i false) := by
  obtain ⟨x, a, b, c, m⟩ := i
  go_enter Tryd.func64, Tryd.ntmps64
  go_wp2
  refine bodyPost_ret (v := .tuple #[insV ⟨x, a, b, c, m⟩, .bool false]) ?_ rfl ⟨rfl, ((Below.refl _ _).alloc (Nat.le_refl _) _).alloc (by simp) _⟩
  have hb := blk_new (w.alloc (.cells (insC ⟨x, a, b, c, m⟩) 46)) (insC ⟨x, a, b, c, m⟩) 46
  rw [World.size_alloc] at hb
  rw [res_cell1 (p := 6) (u := 7) rfl _ _ (w.heap.size + 1) (insC ⟨x, a, b, c, m⟩) 46 _ rfl hb Tryd.underlying46 rfl ins_info]; rfl
set_option maxRecDepth 100000 in
set_option maxHeartbeats 2000000 in
theorem with_g97 (i : PIns) (n : Int) (w : World) (h0 : 255 < n) : Calls Tryd.prog 64 #[insV i, .int .u8 97, .int .i64 n] w (WithPost w i false) := by
  obtain ⟨x, a, b, c, m⟩ := i
  go_enter Tryd.func64, Tryd.ntmps64
  go_wp2
  refine bodyPost_ret (v := .tuple #[insV ⟨x, a, b, c, m⟩, .bool false]) ?_ rfl ⟨rfl, ((Below.refl _ _).alloc (Nat.le_refl _) _).alloc (by simp) _⟩
  have hb := blk_new (w.alloc (.cells (insC ⟨x, a, b, c, m⟩) 46)) (insC ⟨x, a, b, c, m⟩) 46
  rw [World.size_alloc] at hb
  rw [res_cell1 (p := 6) (u := 7) rfl _ _ (w.heap.size + 1) (insC ⟨x, a, b, c, m⟩) 46 _ rfl hb Tryd.underlying46 rfl ins_info]; rfl
set_option maxRecDepth 100000 in
set_option maxHeartbeats 2000000 in
theorem with_l98 (i : PIns) (n : Int) (w : World) (h0 : n < 0) : Calls Tryd.prog 64 #[insV i, .int .u8 98, .int .i64 n] w (WithPost w i false) := by
  obtain ⟨x, a, b, c, m⟩ := i
  go_enter Tryd.func64, Tryd.ntmps64
  go_wp2
  refine bodyPost_ret (v := .tuple #[insV ⟨x, a, b, c, m⟩, .bool false]) ?_ rfl ⟨rfl, ((Below.refl _ _).alloc (Nat.le_refl _) _).alloc (by simp) _⟩
  have hb := blk_new (w.alloc (.cells (insC ⟨x, a, b, c, m⟩) 46)) (insC ⟨x, a, b, c, m⟩) 46
  rw [World.size_alloc] at hb
  rw [res_cell1 (p := 6) (u := 7) rfl _ _ (w.heap.size + 1) (insC ⟨x, a, b, c, m⟩) 46 _ rfl hb Tryd.underlying46 rfl ins_info]; rfl
set_option maxRecDepth 100000 in
set_option maxHeartbeats 2000000 in
theorem with_g98 (i : PIns) (n : Int) (w : World) (h0 : 255 < n) : Calls Tryd.prog 64 #[insV i, .int .u8 98, .int .i64 n] w (WithPost w i false) := by
  obtain ⟨x, a, b, c, m⟩ := i
  go_enter Tryd.func64, Tryd.ntmps64
  go_wp2
  refine bodyPost_ret (v := .tuple #[insV ⟨x, a, b, c, m⟩, .bool false]) ?_ rfl ⟨rfl, ((Below.refl _ _).alloc (Nat.le_refl _) _).alloc (by simp) _⟩
  have hb := blk_new (w.alloc (.cells (insC ⟨x, a, b, c, m⟩) 46)) (insC ⟨x, a, b, c, m⟩) 46
  rw [World.size_alloc] at hb
  rw [res_cell1 (p := 6) (u := 7) rfl _ _ (w.heap.size + 1) (insC ⟨x, a, b, c, m⟩) 46 _ rfl hb Tryd.underlying46 rfl ins_info]; rfl
set_option maxRecDepth 100000 in
set_option maxHeartbeats 2000000 in
theorem with_l99 (i : PIns) (n : Int) (w : World) (h0 : n < 0) : Calls Tryd.prog 64 #[insV i, .int .u8 99, .int .i64 n] w (WithPost w i false) := by
  obtain ⟨x, a, b, c, m⟩ := i
  go_enter Tryd.func64, Tryd.ntmps64
  go_wp2
  refine bodyPost_ret (v := .tuple #[insV ⟨x, a, b, c, m⟩, .bool false]) ?_ rfl ⟨rfl, ((Below.refl _ _).alloc (Nat.le_refl _) _).alloc (by simp) _⟩
  have hb := blk_new (w.alloc (.cells (insC ⟨x, a, b, c, m⟩) 46)) (insC ⟨x, a, b, c, m⟩) 46
  rw [World.size_alloc] at hb
  rw [res_cell1 (p := 6) (u := 7) rfl _ _ (w.heap.size + 1) (insC ⟨x, a, b, c, m⟩) 46 _ rfl hb Tryd.underlying46 rfl ins_info]; rfl
set_option maxRecDepth 100000 in
set_option maxHeartbeats 2000000 in
theorem with_g99 (i : PIns) (n : Int) (w : World) (h0 : 255 < n) : Calls Tryd.prog 64 #[insV i, .int .u8 99, .int .i64 n] w (WithPost w i false) := by
  obtain ⟨x, a, b, c, m⟩ := i
  go_enter Tryd.func64, Tryd.ntmps64
  go_wp2
  refine bodyPost_ret (v := .tuple #[insV ⟨x, a, b, c, m⟩, .bool false]) ?_ rfl ⟨rfl, ((Below.refl _ _).alloc (Nat.le_refl _) _).alloc (by simp) _⟩
  have hb := blk_new (w.alloc (.cells (insC ⟨x, a, b, c, m⟩) 46)) (insC ⟨x, a, b, c, m⟩) 46
  rw [World.size_alloc] at hb
  rw [res_cell1 (p := 6) (u := 7) rfl _ _ (w.heap.size + 1) (insC ⟨x, a, b, c, m⟩) 46 _ rfl hb Tryd.underlying46 rfl ins_info]; rfl

/-- May a letter be given this number? -/
def roomL (c : UInt8) (n : Int) : Bool := decide (c = 78) || (decide (0 ≤ n) && decide (n ≤ 255))
theorem with_any (i : PIns) (c : UInt8) (n : Int) (w : World) (h : c = 65 ∨ c = 66 ∨ c = 67 ∨ c = 78) :
    Calls Tryd.prog 64 #[insV i, .int .u8 (low c).toNat, .int .i64 n] w (WithPost w (if roomL c n then setL i c n else i) (roomL c n)) := by
  by_cases h78 : c = 78
  · subst h78; exact with_n i n w
  · have h' : c = 65 ∨ c = 66 ∨ c = 67 := by rcases h with h | h | h | h <;> simp_all
    by_cases h0 : 0 ≤ n
    · by_cases h1 : n ≤ 255
      · have e : roomL c n = true := by unfold roomL; simp [h0, h1]
        rw [e, if_pos rfl]
        rcases h' with rfl | rfl | rfl
        · exact with_a i n w h0 h1
        · exact with_b i n w h0 h1
        · exact with_c i n w h0 h1
      · have e : roomL c n = false := by unfold roomL; simp [h78, h1]
        rw [e, if_neg (by simp)]
        rcases h' with rfl | rfl | rfl
        · exact with_g97 i n w (by omega)
        · exact with_g98 i n w (by omega)
        · exact with_g99 i n w (by omega)
    · have e : roomL c n = false := by unfold roomL; simp [h78, h0]
      rw [e, if_neg (by simp)]
      rcases h' with rfl | rfl | rfl
      · exact with_l97 i n w (by omega)
      · exact with_l98 i n w (by omega)
      · exact with_l99 i n w (by omega)
theorem fit_room (c : UInt8) (w : Bs) : fitL c w = (decide ((numL w).2 = 0) && roomL c (numL w).1) := rfl
end Go.Proofs.YtcenjphpdgadmaaDoor
