/-
  LazyOnce: a value is made by the first who asks, once, and all are told the same; one that nobody asked for is not made.
-/
import Derived.Test.YtcogfajmocbogaaAlive
import Derived.OpenShut
namespace Go.Proofs.Ytcogfajmocbogaa
open Go.RowKit

theorem onceF (a b c : Nat) (x y z : Int) (w : World) (hab : a ≠ b) (hbc : b ≠ c) (hac : a ≠ c)
    (ha : w.heap[a]? = some (.cells #[.int .i64 x] 3 (0, 0))) (hb : w.heap[b]? = some (.cells #[.int .i64 y] 2 (0, 0))) (hc : w.heap[c]? = some (.cells #[.int .i64 z] 2 (0, 0))) :
    Calls Try.prog 20 #[.pointer (some ⟨a, 0, none⟩), .pointer (some ⟨b, 0, none⟩), .pointer (some ⟨c, 0, none⟩)] w fun e w' => e = .returned (.int .i64 (wrap64 (y + z))) ∧
      w' = (w.setCell ⟨a, 0, none⟩ (.int .i64 (wrap64 (x + 1)))).setCell ⟨b, 0, none⟩ (.int .i64 (wrap64 (y + z))) := by
  have a0 : w.cell? ⟨a, 0, none⟩ = some (.int .i64 x) := blk_cell ha rfl
  have az : w.frozen? ⟨a, 0, none⟩ = false := blk_free ha
  have hb1 : (w.setCell ⟨a, 0, none⟩ (.int .i64 (wrap64 (x + 1)))).heap[b]? = some (.cells #[.int .i64 y] 2 (0, 0)) := blk_other hb (fun h => hab h.symm) _
  have hc1 : (w.setCell ⟨a, 0, none⟩ (.int .i64 (wrap64 (x + 1)))).heap[c]? = some (.cells #[.int .i64 z] 2 (0, 0)) := blk_other hc (fun h => hac h.symm) _
  have b0 : (w.setCell ⟨a, 0, none⟩ (.int .i64 (wrap64 (x + 1)))).cell? ⟨b, 0, none⟩ = some (.int .i64 y) := blk_cell hb1 rfl
  have c0 : (w.setCell ⟨a, 0, none⟩ (.int .i64 (wrap64 (x + 1)))).cell? ⟨c, 0, none⟩ = some (.int .i64 z) := blk_cell hc1 rfl
  have bz : w.frozen? ⟨b, 0, none⟩ = false := blk_free hb
  have b2 : ((w.setCell ⟨a, 0, none⟩ (.int .i64 (wrap64 (x + 1)))).setCell ⟨b, 0, none⟩ (.int .i64 (wrap64 (y + z)))).cell? ⟨b, 0, none⟩ = some (.int .i64 (wrap64 (y + z))) := World.cell?_setCell_same _ _ _ b0
  clear ha hb hc hb1 hc1 hab hbc hac
  go_enter Try.func20, Try.ntmps20
  go_wp2
  go_ret
  exact ⟨rfl, rfl⟩

/-- The blocks of the call: 'by', 'n', 'calls' and the value. -/
structure OnceAt (B N : Nat) (d n c : Int) (v : Array Value) (wr : World) : Prop where
  hd : wr.heap[B]? = some (.cells #[.int .i64 d] 2 (0, 0))
  hn : wr.heap[N]? = some (.cells #[.int .i64 n] 2 (0, 0))
  hc : wr.heap[N + 1]? = some (.cells #[.int .i64 c] 3 (0, 0))
  hv : wr.heap[N + 1 + 1]? = some (.cells v 92 (0, 0))

abbrev onceFv (B N : Nat) : Value := .func (.func 20) #[] #[.pointer (some ⟨N + 1, 0, none⟩), .pointer (some ⟨N, 0, none⟩), .pointer (some ⟨B, 0, none⟩)]

theorem once_get (B N : Nat) (hBN : B < N) (d n : Int) (w : World) (h : OnceAt B N d n 0 (fresh (onceFv B N) (.int .i64 0)) w) :
    Calls Try.prog 22 #[.pointer (some ⟨N + 1 + 1, 0, none⟩)] w fun e w' =>
      e = .returned (.tuple #[.int .i64 (wrap64 (n + d)), .bool true]) ∧ OnceAt B N d (wrap64 (n + d)) 1 (made (.int .i64 (wrap64 (n + d)))) w' ∧ Below B w w' := by
  obtain ⟨hd, hn, hc, hv⟩ := h
  have hd1 : (w.setCell ⟨N + 1 + 1, 2, none⟩ (.int .i32 1)).heap[B]? = some (.cells #[.int .i64 d] 2 (0, 0)) := blk_other hd (by dsimp only; omega) _
  have hn1 : (w.setCell ⟨N + 1 + 1, 2, none⟩ (.int .i32 1)).heap[N]? = some (.cells #[.int .i64 n] 2 (0, 0)) := blk_other hn (by dsimp only; omega) _
  have hc1 : (w.setCell ⟨N + 1 + 1, 2, none⟩ (.int .i32 1)).heap[N + 1]? = some (.cells #[.int .i64 0] 3 (0, 0)) := blk_other hc (by dsimp only; omega) _
  refine (getExact64 (N + 1 + 1) 20 _ (fun v w2 => v = wrap64 (n + d) ∧ w2 = ((w.setCell ⟨N + 1 + 1, 2, none⟩ (.int .i32 1)).setCell ⟨N + 1, 0, none⟩ (.int .i64 1)).setCell ⟨N, 0, none⟩ (.int .i64 (wrap64 (n + d)))) w (.int .i64 0)
    (enters Try.func20 (by kernel_rfl) (by kernel_rfl) _) hv
    ((onceF (N + 1) N B 0 n d _ (by omega) (by omega) (by omega) hc1 hn1 hd1).mono fun _ _ ⟨he, hw⟩ => ⟨_, he, rfl, by rw [hw, wrap01]⟩) ?_).mono ?_
  · rintro v w2 ⟨rfl, rfl⟩
    exact blk_other (blk_other (blk_set (i := 2) _ hv) (by dsimp only; omega) _) (by dsimp only; omega) _
  · rintro e w' ⟨v, w2, rfl, ⟨rfl, rfl⟩, ho, hm⟩
    refine ⟨rfl, ⟨?_, ?_, ?_, hm⟩, ?_⟩
    · exact blk_only (blk_other (blk_other hd1 (by dsimp only; omega) _) (by dsimp only; omega) _) ho (by omega)
    · exact blk_only (blk_set (i := 0) _ (blk_other hn1 (by dsimp only; omega) _)) ho (by omega)
    · exact blk_only (blk_other (blk_set (i := 0) _ hc1) (by dsimp only; omega) _) ho (by omega)
    · exact (((((Below.refl _ _).setCell (by dsimp only; omega) _).setCell (by dsimp only; omega) _).setCell (by dsimp only; omega) _).trans (ho.below (by omega)))

/-- Nobody has asked yet, or the value is made. -/
def OnceRel (B N : Nat) (d f : Int) (k : Nat) (wr : World) : Prop :=
  (k = 0 ∧ OnceAt B N d f 0 (fresh (onceFv B N) (.int .i64 0)) wr) ∨ (0 < k ∧ OnceAt B N d (wrap64 (f + d)) 1 (made (.int .i64 (wrap64 (f + d)))) wr)

set_option maxRecDepth 100000 in
set_option maxHeartbeats 1600000 in
theorem once_walk (f d g : Int) (hg : 0 ≤ g) (hg2 : g ≤ 255) (w : World) :
    Calls Try.prog 4 #[.int .i64 f, .int .i64 d, .int .u8 g] w fun e w' => e = .returned (.bool true) ∧ Below w.heap.size w w' := by
  have hmf : ∀ (fn : Fn) (first cap : Array Value) (w : World), (Instr.makeFunc fn first cap).run Try.prog w = .ok (.func fn first cap) w := fun _ _ _ _ => rfl
  have hnot : ∀ (x : Bool) (w : World), (Op.unary .not (.bool x)).run Try.prog w = .ok (.bool (!x)) w := fun _ _ => rfl
  go_enter Try.func4, Try.ntmps4
  go_wp2_with (first
    | (go_at_call 12; refine (alive_true (w.alloc (.cells #[.int .i64 d] 2))).mono ?_; rintro e w1 ⟨rfl, hbel⟩; have HBEL := Lib.hid hbel; clear hbel)
    | (go_at_call 19; with_reducible refine (new64 _ _ _).mono ?_; rintro e w' ⟨rfl, rfl⟩))
  have hlt1 : w.heap.size < w1.heap.size := Nat.lt_of_lt_of_le (by simp) HBEL.out.size
  have hS : OnceAt w.heap.size w1.heap.size d f 0 (fresh (onceFv w.heap.size w1.heap.size) (.int .i64 0)) (((w1.alloc (.cells #[.int .i64 f] 2)).alloc (.cells #[.int .i64 0] 3)).alloc (.cells (fresh (onceFv w.heap.size w1.heap.size) (.int .i64 0)) 92)) := by
    refine ⟨blk_old (blk_old (blk_old ?_ _) _) _, blk_old (blk_old (blk_new _ _) _) _, blk_old ?_ _, ?_⟩
    · rw [HBEL.out.block _ (by simp)]; exact blk_new _ _
    · have := blk_new (w1.alloc (.cells #[.int .i64 f] 2)) (.cells #[.int .i64 0] 3 (0, 0))
      simpa using this
    · have := blk_new ((w1.alloc (.cells #[.int .i64 f] 2)).alloc (.cells #[.int .i64 0] 3)) (.cells (fresh (onceFv w.heap.size w1.heap.size) (.int .i64 0)) 92 (0, 0))
      simpa using this
  have hW : Below w.heap.size w (((w1.alloc (.cells #[.int .i64 f] 2)).alloc (.cells #[.int .i64 0] 3)).alloc (.cells (fresh (onceFv w.heap.size w1.heap.size) (.int .i64 0)) 92)) :=
    ((((((Below.refl _ _).alloc (Nat.le_refl _) _).trans (HBEL.out.mono (by simp))).alloc (by omega) _).alloc (by simp; omega) _).alloc (by simp; omega) _)
  generalize (((w1.alloc (.cells #[.int .i64 f] 2)).alloc (.cells #[.int .i64 0] 3)).alloc (.cells (fresh (onceFv w.heap.size w1.heap.size) (.int .i64 0)) 92)) = u at hS hW ⊢
  have HS := Lib.hid hS
  have HW := Lib.hid hW
  clear hS hW HBEL
  refine (isMade64 (w1.heap.size + 1 + 1) 0 _ _ HS.out.hv rfl).mono ?_
  rintro e w' ⟨rfl, rfl⟩
  go_wp2
  go_loopw [26] (fun i wr => ∃ k : Nat, (k : Int) ≤ g % 20 ∧ i = .int .i64 k ∧ Below w.heap.size w wr ∧ OnceRel w.heap.size w1.heap.size d f k wr) (fun i _ => (g % 20 - intOf i).toNat)
  case atStart => exact ⟨0, by omega, rfl, HW.out, .inl ⟨rfl, HS.out⟩⟩
  case round =>
    obtain ⟨k, hk, rfl, hbw, hor⟩ := hrel
    have HBW := Lib.hid hbw
    clear hbw HS HW
    rcases hor with ⟨h0, hat⟩ | ⟨h0, hat⟩
    · subst h0
      have HAT := Lib.hid hat
      clear hat
      by_cases hlt : (0 : Int) < g % 20
      · go_wp2_with (go_at_call 22; refine (once_get w.heap.size w1.heap.size hlt1 d f _ HAT.out).mono ?_; rintro e w2 ⟨rfl, hat2, hb2⟩; have HAT2 := Lib.hid hat2; have HB2 := Lib.hid hb2; have d2 : w2.cell? ⟨w.heap.size, 0, none⟩ = some (.int .i64 d) := blk_cell hat2.hd rfl; have c2 : w2.cell? ⟨w1.heap.size + 1, 0, none⟩ = some (.int .i64 1) := blk_cell hat2.hc rfl; clear hat2 hb2)
        refine (isMade64 (w1.heap.size + 1 + 1) 1 _ _ HAT2.out.hv rfl).mono ?_
        rintro e w' ⟨rfl, rfl⟩
        go_wp2
        go_roundw
        case rel => exact ⟨1, by omega, by go_num, HBW.out.trans HB2.out, .inr ⟨by omega, HAT2.out⟩⟩
        case measure => simp [intOf]; omega
      · have hz : g % 20 = 0 := by omega
        have c2 : wr.cell? ⟨w1.heap.size + 1, 0, none⟩ = some (.int .i64 0) := blk_cell HAT.out.hc rfl
        go_wp2_with (go_at_call 21; refine (isMade64 (w1.heap.size + 1 + 1) 0 _ _ HAT.out.hv rfl).mono ?_; rintro e w' ⟨rfl, rfl⟩)
        go_ret
        exact ⟨rfl, HBW.out⟩
    · have HAT := Lib.hid hat
      have d2 : wr.cell? ⟨w.heap.size, 0, none⟩ = some (.int .i64 d) := blk_cell hat.hd rfl
      have c2 : wr.cell? ⟨w1.heap.size + 1, 0, none⟩ = some (.int .i64 1) := blk_cell hat.hc rfl
      clear hat
      by_cases hlt : (k : Int) < g % 20
      · go_wp2_with (first
          | (go_at_call 22; refine (getMade64 (w1.heap.size + 1 + 1) _ _ HAT.out.hv).mono ?_; rintro e w' ⟨rfl, rfl⟩)
          | (go_at_call 21; refine (isMade64 (w1.heap.size + 1 + 1) 1 _ _ HAT.out.hv rfl).mono ?_; rintro e w' ⟨rfl, rfl⟩))
        go_roundw
        case rel => exact ⟨k + 1, by omega, by go_num, HBW.out, .inr ⟨by omega, HAT.out⟩⟩
        case measure => simp [intOf]; omega
      · by_cases h1 : g % 20 ≤ 1
        · have hz : g % 20 = 1 := by omega
          go_wp2_with (go_at_call 21; refine (isMade64 (w1.heap.size + 1 + 1) 1 _ _ HAT.out.hv rfl).mono ?_; rintro e w' ⟨rfl, rfl⟩)
          go_ret
          exact ⟨rfl, HBW.out⟩
        · have hz : 1 < g % 20 := by omega
          have hz0 : 0 < g % 20 := by omega
          go_wp2_with (go_at_call 21; refine (isMade64 (w1.heap.size + 1 + 1) 1 _ _ HAT.out.hv rfl).mono ?_; rintro e w' ⟨rfl, rfl⟩)
          go_ret
          exact ⟨rfl, HBW.out⟩
end Go.Proofs.Ytcogfajmocbogaa
