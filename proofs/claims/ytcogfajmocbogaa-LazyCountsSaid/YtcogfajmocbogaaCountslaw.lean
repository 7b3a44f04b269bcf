/-
  LazyCounts: a count answers every call, in every order, as the document says: the walk.
-/
import Derived.Test.YtcogfajmocbogaaCounts
namespace Go.Proofs.Ytcogfajmocbogaa
open Go.RowKit

/-- The count's block holds what the document's own number is; nothing that was there when the call began has turned. -/
structure CountsAt (C : Nat) (n : Int) (w wr : World) : Prop where
  hC : wr.heap[C]? = some (.cells #[.int .i64 n] 30 (0, 0))
  hb : Below w.heap.size w wr

/-- What is known of a slice of calls that came in. -/
def CallsIn (w : World) (a : Option Addr) (len cap : Nat) : Prop :=
  len = 0 ∨ ∃ b off, a = some ⟨b, off, none⟩ ∧ b < w.heap.size ∧ 0 < len ∧ len ≤ cap ∧ cap ≤ maxLen ∧
    ∀ i, i < len → ∃ x y z : Int, w.cell? ⟨b, off + i * 3, none⟩ = some (.int .i64 x) ∧ w.cell? ⟨b, off + i * 3 + 1, none⟩ = some (.int .i64 y) ∧ w.cell? ⟨b, off + i * 3 + 2, none⟩ = some (.int .i64 z)

set_option maxRecDepth 100000 in
set_option maxHeartbeats 4000000 in
theorem counts_walk (a : Option Addr) (len cap : Nat) (w : World) (h : CallsIn w a len cap) :
    Calls Try.prog 3 #[.slice a len cap] w fun e w' => e = .returned (.bool true) ∧ Below w.heap.size w w' := by
  have hnot : ∀ (x : Bool) (w : World), (Op.unary .not (.bool x)).run Try.prog w = .ok (.bool (!x)) w := fun _ _ => rfl
  have HC := Lib.hid h
  clear h
  go_enter Try.func3, Try.ntmps3
  go_wp2_with (go_at_call 12; refine (alive_true w).mono ?_; rintro e w1 ⟨rfl, hbel⟩; have HBEL := Lib.hid hbel; clear hbel)
  have hw1 : w.heap.size ≤ w1.heap.size := HBEL.out.size
  have HS := Lib.hid (show CountsAt w1.heap.size 0 w (w1.alloc (.cells #[.int .i64 0] 30)) from ⟨blk_new _ _, HBEL.out.alloc HBEL.out.size _⟩)
  clear HBEL
  go_loopw [4, 5] (fun v i wr => ∃ (k : Nat) (n : Int), k ≤ len ∧ k ≤ 100 ∧ i = .int .i64 k ∧ v = .int .i64 n ∧ CountsAt w1.heap.size n w wr) (fun _ i _ => 100 - (intOf i).toNat)
  case atStart => exact ⟨0, 0, Nat.zero_le _, Nat.zero_le _, rfl, rfl, HS.out⟩
  case round =>
    obtain ⟨k, n, hk, hk2, rfl, rfl, hst⟩ := hrel
    clear HS
    have HST := Lib.hid hst
    clear hst
    by_cases hlt : k < len
    · by_cases hlt2 : k < 100
      · rcases HC.out with h0 | ⟨b, off, rfl, hb, _, hle, hmax, hcell⟩
        · omega
        unfold maxLen at hmax
        obtain ⟨x, y, z, hx, hy, hz⟩ := hcell k hlt
        have c0 : wr.cell? ⟨b, off + k * 3, none⟩ = some (.int .i64 x) := by rw [HST.out.hb.cell hb]; exact hx
        have c1 : wr.cell? ⟨b, off + k * 3 + 1, none⟩ = some (.int .i64 y) := by rw [HST.out.hb.cell hb]; exact hy
        have c2 : wr.cell? ⟨b, off + k * 3 + 2, none⟩ = some (.int .i64 z) := by rw [HST.out.hb.cell hb]; exact hz
        have hCs : w1.heap.size < wr.heap.size := lt_of_block HST.out.hC
        have hbs : b < wr.heap.size := Nat.lt_of_lt_of_le hb HST.out.hb.size
        clear hcell HC hx hy hz
        by_cases hx0 : x < 0
        · go_wp2
          go_roundw
          case rel => exact ⟨k + 1, n, by omega, by omega, by go_num, rfl, blk_old HST.out.hC _, HST.out.hb.alloc (by omega) _⟩
          case measure => simp [intOf]; omega
        · by_cases hx4 : 4 < x
          · go_wp2
            go_roundw
            case rel => exact ⟨k + 1, n, by omega, by omega, by go_num, rfl, blk_old HST.out.hC _, HST.out.hb.alloc (by omega) _⟩
            case measure => simp [intOf]; omega
          · have hcs : x = 0 ∨ x = 1 ∨ x = 2 ∨ x = 3 ∨ x = 4 := by omega
            clear hx0 hx4
            rcases hcs with rfl | rfl | rfl | rfl | rfl
            · go_wp2_with fail
              refine (ref0 n y z _).mono ?_
              rintro e w3 ⟨rfl, hb3⟩
              have hC3 : w3.heap[w1.heap.size]? = some (.cells #[.int .i64 n] 30 (0, 0)) := by rw [hb3.block _ (by simp; omega)]; exact blk_old HST.out.hC _
              have hX3 : w3.heap[wr.heap.size]? = some (.cells #[.int .i64 0, .int .i64 y, .int .i64 z] 32 (0, 0)) := by rw [hb3.block _ (by simp)]; exact blk_new _ _
              have x0 : w3.cell? ⟨wr.heap.size, 0, none⟩ = some (.int .i64 0) := blk_cell hX3 rfl
              have x1 : w3.cell? ⟨wr.heap.size, 1, none⟩ = some (.int .i64 y) := blk_cell hX3 rfl
              have x2 : w3.cell? ⟨wr.heap.size, 2, none⟩ = some (.int .i64 z) := blk_cell hX3 rfl
              have HC3 := Lib.hid hC3
              have HB3 := Lib.hid ((HST.out.hb.alloc (by omega) (.cells #[.int .i64 0, .int .i64 y, .int .i64 z] 32 (0, 0))).trans (hb3.mono (by simp; omega)))
              clear hb3 hX3 hC3
              go_wp2_with fail
              refine (cadd_b w1.heap.size n y w3 HC3.out).mono ?_
              rintro e w4 ⟨rfl, ho, hC4⟩
              have HC4 := Lib.hid hC4
              have HB4 := Lib.hid (HB3.out.trans (ho.below hw1))
              clear hC4 ho HC3 HB3 x0 x1 x2
              go_wp2_with (go_at_call 18; refine (cget_b _ _ _ HC4.out).mono ?_; rintro e w' ⟨rfl, rfl⟩)
              go_roundw
              case rel => exact ⟨k + 1, _, by omega, by omega, by go_num, rfl, HC4.out, HB4.out⟩
              case measure => simp [intOf]; omega
            · go_wp2_with fail
              refine (ref1 n y z _).mono ?_
              rintro e w3 ⟨rfl, hb3⟩
              have hC3 : w3.heap[w1.heap.size]? = some (.cells #[.int .i64 n] 30 (0, 0)) := by rw [hb3.block _ (by simp; omega)]; exact blk_old HST.out.hC _
              have hX3 : w3.heap[wr.heap.size]? = some (.cells #[.int .i64 1, .int .i64 y, .int .i64 z] 32 (0, 0)) := by rw [hb3.block _ (by simp)]; exact blk_new _ _
              have x0 : w3.cell? ⟨wr.heap.size, 0, none⟩ = some (.int .i64 1) := blk_cell hX3 rfl
              have x1 : w3.cell? ⟨wr.heap.size, 1, none⟩ = some (.int .i64 y) := blk_cell hX3 rfl
              have x2 : w3.cell? ⟨wr.heap.size, 2, none⟩ = some (.int .i64 z) := blk_cell hX3 rfl
              have HC3 := Lib.hid hC3
              have HB3 := Lib.hid ((HST.out.hb.alloc (by omega) (.cells #[.int .i64 1, .int .i64 y, .int .i64 z] 32 (0, 0))).trans (hb3.mono (by simp; omega)))
              clear hb3 hX3 hC3
              go_wp2_with fail
              refine (cswap_b w1.heap.size n y w3 HC3.out).mono ?_
              rintro e w4 ⟨rfl, ho, hC4⟩
              have HC4 := Lib.hid hC4
              have HB4 := Lib.hid (HB3.out.trans (ho.below hw1))
              clear hC4 ho HC3 HB3 x0 x1 x2
              go_wp2_with (go_at_call 18; refine (cget_b _ _ _ HC4.out).mono ?_; rintro e w' ⟨rfl, rfl⟩)
              go_roundw
              case rel => exact ⟨k + 1, _, by omega, by omega, by go_num, rfl, HC4.out, HB4.out⟩
              case measure => simp [intOf]; omega
            · by_cases hny : n = y
              · subst hny
                go_wp2_with fail
                refine (ref2 n z _).mono ?_
                rintro e w3 ⟨rfl, hb3⟩
                have hC3 : w3.heap[w1.heap.size]? = some (.cells #[.int .i64 n] 30 (0, 0)) := by rw [hb3.block _ (by simp; omega)]; exact blk_old HST.out.hC _
                have hX3 : w3.heap[wr.heap.size]? = some (.cells #[.int .i64 2, .int .i64 n, .int .i64 z] 32 (0, 0)) := by rw [hb3.block _ (by simp)]; exact blk_new _ _
                have x0 : w3.cell? ⟨wr.heap.size, 0, none⟩ = some (.int .i64 2) := blk_cell hX3 rfl
                have x1 : w3.cell? ⟨wr.heap.size, 1, none⟩ = some (.int .i64 n) := blk_cell hX3 rfl
                have x2 : w3.cell? ⟨wr.heap.size, 2, none⟩ = some (.int .i64 z) := blk_cell hX3 rfl
                have HC3 := Lib.hid hC3
                have HB3 := Lib.hid ((HST.out.hb.alloc (by omega) (.cells #[.int .i64 2, .int .i64 n, .int .i64 z] 32 (0, 0))).trans (hb3.mono (by simp; omega)))
                clear hb3 hX3 hC3
                go_wp2_with fail
                refine (ctry_hit_b w1.heap.size n z w3 HC3.out).mono ?_
                rintro e w4 ⟨rfl, ho, hC4⟩
                have HC4 := Lib.hid hC4
                have HB4 := Lib.hid (HB3.out.trans (ho.below hw1))
                clear hC4 ho HC3 HB3 x0 x1 x2
                go_wp2_with (go_at_call 18; refine (cget_b _ _ _ HC4.out).mono ?_; rintro e w' ⟨rfl, rfl⟩)
                go_roundw
                case rel => exact ⟨k + 1, _, by omega, by omega, by go_num, rfl, HC4.out, HB4.out⟩
                case measure => simp [intOf]; omega
              · have hnb : (n == y) = false := by simp [hny]
                go_wp2_with fail
                refine (ref2n n y z hnb _).mono ?_
                rintro e w3 ⟨rfl, hb3⟩
                have hC3 : w3.heap[w1.heap.size]? = some (.cells #[.int .i64 n] 30 (0, 0)) := by rw [hb3.block _ (by simp; omega)]; exact blk_old HST.out.hC _
                have hX3 : w3.heap[wr.heap.size]? = some (.cells #[.int .i64 2, .int .i64 y, .int .i64 z] 32 (0, 0)) := by rw [hb3.block _ (by simp)]; exact blk_new _ _
                have x0 : w3.cell? ⟨wr.heap.size, 0, none⟩ = some (.int .i64 2) := blk_cell hX3 rfl
                have x1 : w3.cell? ⟨wr.heap.size, 1, none⟩ = some (.int .i64 y) := blk_cell hX3 rfl
                have x2 : w3.cell? ⟨wr.heap.size, 2, none⟩ = some (.int .i64 z) := blk_cell hX3 rfl
                have HC3 := Lib.hid hC3
                have HB3 := Lib.hid ((HST.out.hb.alloc (by omega) (.cells #[.int .i64 2, .int .i64 y, .int .i64 z] 32 (0, 0))).trans (hb3.mono (by simp; omega)))
                clear hb3 hX3 hC3
                go_wp2_with (first
                  | (go_at_call 18; refine (cget_b _ _ _ HC3.out).mono ?_; rintro e w' ⟨rfl, rfl⟩)
                  | (go_at_call 16; refine (ctry_miss ⟨w1.heap.size, 0, none⟩ n y z _ (blk_cell HC3.out rfl) (blk_free HC3.out) hny).mono ?_; rintro e w' ⟨rfl, rfl⟩))
                go_roundw
                case rel => exact ⟨k + 1, _, by omega, by omega, by go_num, rfl, HC3.out, HB3.out⟩
                case measure => simp [intOf]; omega
            · by_cases hny : y ≤ n
              · go_wp2_with fail
                refine (ref3 n y z hny _).mono ?_
                rintro e w3 ⟨rfl, hb3⟩
                have hC3 : w3.heap[w1.heap.size]? = some (.cells #[.int .i64 n] 30 (0, 0)) := by rw [hb3.block _ (by simp; omega)]; exact blk_old HST.out.hC _
                have hX3 : w3.heap[wr.heap.size]? = some (.cells #[.int .i64 3, .int .i64 y, .int .i64 z] 32 (0, 0)) := by rw [hb3.block _ (by simp)]; exact blk_new _ _
                have x0 : w3.cell? ⟨wr.heap.size, 0, none⟩ = some (.int .i64 3) := blk_cell hX3 rfl
                have x1 : w3.cell? ⟨wr.heap.size, 1, none⟩ = some (.int .i64 y) := blk_cell hX3 rfl
                have x2 : w3.cell? ⟨wr.heap.size, 2, none⟩ = some (.int .i64 z) := blk_cell hX3 rfl
                have HC3 := Lib.hid hC3
                have HB3 := Lib.hid ((HST.out.hb.alloc (by omega) (.cells #[.int .i64 3, .int .i64 y, .int .i64 z] 32 (0, 0))).trans (hb3.mono (by simp; omega)))
                clear hb3 hX3 hC3
                go_wp2_with (first
                  | (go_at_call 18; refine (cget_b _ _ _ HC3.out).mono ?_; rintro e w' ⟨rfl, rfl⟩)
                  | (go_at_call 17; refine (cmax_stay ⟨w1.heap.size, 0, none⟩ n y _ (blk_cell HC3.out rfl) hny).mono ?_; rintro e w' ⟨rfl, rfl⟩))
                go_roundw
                case rel => exact ⟨k + 1, _, by omega, by omega, by go_num, rfl, HC3.out, HB3.out⟩
                case measure => simp [intOf]; omega
              · go_wp2_with fail
                refine (ref3n n y z (by omega) _).mono ?_
                rintro e w3 ⟨rfl, hb3⟩
                have hC3 : w3.heap[w1.heap.size]? = some (.cells #[.int .i64 n] 30 (0, 0)) := by rw [hb3.block _ (by simp; omega)]; exact blk_old HST.out.hC _
                have hX3 : w3.heap[wr.heap.size]? = some (.cells #[.int .i64 3, .int .i64 y, .int .i64 z] 32 (0, 0)) := by rw [hb3.block _ (by simp)]; exact blk_new _ _
                have x0 : w3.cell? ⟨wr.heap.size, 0, none⟩ = some (.int .i64 3) := blk_cell hX3 rfl
                have x1 : w3.cell? ⟨wr.heap.size, 1, none⟩ = some (.int .i64 y) := blk_cell hX3 rfl
                have x2 : w3.cell? ⟨wr.heap.size, 2, none⟩ = some (.int .i64 z) := blk_cell hX3 rfl
                have HC3 := Lib.hid hC3
                have HB3 := Lib.hid ((HST.out.hb.alloc (by omega) (.cells #[.int .i64 3, .int .i64 y, .int .i64 z] 32 (0, 0))).trans (hb3.mono (by simp; omega)))
                clear hb3 hX3 hC3
                go_wp2_with fail
                refine (cmax_turn_b w1.heap.size n y w3 HC3.out (by omega)).mono ?_
                rintro e w4 ⟨rfl, ho, hC4⟩
                have HC4 := Lib.hid hC4
                have HB4 := Lib.hid (HB3.out.trans (ho.below hw1))
                clear hC4 ho HC3 HB3 x0 x1 x2
                go_wp2_with (go_at_call 18; refine (cget_b _ _ _ HC4.out).mono ?_; rintro e w' ⟨rfl, rfl⟩)
                go_roundw
                case rel => exact ⟨k + 1, _, by omega, by omega, by go_num, rfl, HC4.out, HB4.out⟩
                case measure => simp [intOf]; omega
            · go_wp2_with fail
              refine (ref4 n y z _).mono ?_
              rintro e w3 ⟨rfl, hb3⟩
              have hC3 : w3.heap[w1.heap.size]? = some (.cells #[.int .i64 n] 30 (0, 0)) := by rw [hb3.block _ (by simp; omega)]; exact blk_old HST.out.hC _
              have hX3 : w3.heap[wr.heap.size]? = some (.cells #[.int .i64 4, .int .i64 y, .int .i64 z] 32 (0, 0)) := by rw [hb3.block _ (by simp)]; exact blk_new _ _
              have x0 : w3.cell? ⟨wr.heap.size, 0, none⟩ = some (.int .i64 4) := blk_cell hX3 rfl
              have x1 : w3.cell? ⟨wr.heap.size, 1, none⟩ = some (.int .i64 y) := blk_cell hX3 rfl
              have x2 : w3.cell? ⟨wr.heap.size, 2, none⟩ = some (.int .i64 z) := blk_cell hX3 rfl
              have HC3 := Lib.hid hC3
              have HB3 := Lib.hid ((HST.out.hb.alloc (by omega) (.cells #[.int .i64 4, .int .i64 y, .int .i64 z] 32 (0, 0))).trans (hb3.mono (by simp; omega)))
              clear hb3 hX3 hC3
              go_wp2_with (first
                | (go_at_call 18; refine (cget_b _ _ _ HC3.out).mono ?_; rintro e w' ⟨rfl, rfl⟩))
              go_roundw
              case rel => exact ⟨k + 1, _, by omega, by omega, by go_num, rfl, HC3.out, HB3.out⟩
              case measure => simp [intOf]; omega
      · go_wp2
        go_ret
        exact ⟨rfl, HST.out.hb⟩
    · go_wp2
      go_ret
      exact ⟨rfl, HST.out.hb⟩

end Go.Proofs.Ytcogfajmocbogaa
