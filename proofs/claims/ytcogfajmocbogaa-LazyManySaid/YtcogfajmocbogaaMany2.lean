/-
  LazyMany: of many values, asked for in whatever order, each is made by the first who asks, and those alone: the walk.
-/
import Derived.Test.YtcogfajmocbogaaMany1
namespace Go.Proofs.Ytcogfajmocbogaa
open Go.RowKit

theorem ManyAt.alloc {B K CV CB : Nat} {I V : Nat → Nat} {A : Nat → Bool} {arr : Array Value} {m : Nat} {v : Value} {w wr : World} (h : ManyAt B K CV CB I V A arr m v w wr) (o : Obj) : ManyAt B K CV CB I V A arr m v w (wr.alloc o) :=
  ⟨h.hb.alloc (by have := lt_of_block h.hcb; have := h.hB; omega) o, h.hB, h.hBV, blk_old h.hcv o, blk_old h.hcb o, h.harr, fun j hj => blk_old (h.hI j hj) o, h.hlt, fun j hj => blk_old (h.hV j hj) o, h.hrow.alloc o⟩

theorem ManyAt.of_eq {B K CV CB : Nat} {I V : Nat → Nat} {A : Nat → Bool} {arr : Array Value} {m n : Nat} {v : Value} {w wr : World} (h : ManyAt B K CV CB I V A arr m v w wr) (e : m = n) : ManyAt B K CV CB I V A arr n v w wr := e ▸ h

/-- A store into a block of bools. -/
theorem ManyAt.store {B K CV CB : Nat} {I V : Nat → Nat} {A : Nat → Bool} {arr : Array Value} {m : Nat} {v : Value} {w wr : World} (h : ManyAt B K CV CB I V A arr m v w wr) {AB : Nat} {c : Array Value} (hab : wr.heap[AB]? = some (.cells c 4 (0, 0))) (hB : B ≤ AB) (i : Nat) (u : Value) :
    ManyAt B K CV CB I V A arr m v w (wr.setCell ⟨AB, i, none⟩ u) := by
  have keep : ∀ {b : Nat} {c : Array Value} {t : TypeId}, t ≠ 4 → wr.heap[b]? = some (.cells c t (0, 0)) → (wr.setCell ⟨AB, i, none⟩ u).heap[b]? = some (.cells c t (0, 0)) := fun ht hb => blk_other hb (blk_ne hb hab (tag_ne ht)) _
  refine ⟨h.hb.setCell hB _, h.hB, h.hBV, keep (by decide) h.hcv, keep (by decide) h.hcb, h.harr, fun j hj => keep (by decide) (h.hI j hj), h.hlt, fun j hj => keep (by decide) (h.hV j hj), h.hrow.1, ?_⟩
  rcases h.hrow.2 with hn | ⟨g, cap, cur, rfl, hg1, hg2, hg3⟩
  · exact .inl hn
  · exact .inr ⟨g, cap, cur, rfl, hg1, keep (by decide) hg2, hg3⟩

theorem isMadeQ (b : Nat) (x : Int) (cs : Array Value) (w : World) (hb : w.heap[b]? = some (.cells cs 95 (0, 0))) (hx : cs[6]? = some (.int .u32 x)) :
    Calls Try.prog 26 #[.pointer (some ⟨b, 0, none⟩)] w fun e w' => e = .returned (.bool (x != 0)) ∧ w' = w := (isMadeI b x cs w hb hx).mono fun _ _ ⟨he, hw⟩ => ⟨he, hw.symm⟩

/-- 'asked': its block, and what it holds. -/
structure AskAt (K AB : Nat) (A : Nat → Bool) (c : Array Value) (wr : World) : Prop where
  hab : wr.heap[AB]? = some (.cells c 4 (0, 0))
  hc : ∀ j, j < K → c[j]? = some (.bool (A j))

set_option maxRecDepth 100000 in
set_option maxHeartbeats 8000000 in
theorem many_walk (g : Int) (hg : 0 ≤ g) (hg2 : g ≤ 255) (a1 : Option Addr) (len1 cap1 : Nat) (z1 : List Int) (w : World) (h1 : Ints .u8 w a1 len1 cap1 z1) :
    Calls Try.prog 5 #[.int .u8 g, .slice a1 len1 cap1] w fun e w' => e = .returned (.bool true) ∧ Below w.heap.size w w' := by
  have hmf : ∀ (fn : Fn) (first cap : Array Value) (w : World), (Instr.makeFunc fn first cap).run Try.prog w = .ok (.func fn first cap) w := fun _ _ _ _ => rfl
  have hnot : ∀ (x : Bool) (w : World), (Op.unary .not (.bool x)).run Try.prog w = .ok (.bool (!x)) w := fun _ _ => rfl
  obtain ⟨m, hgm, hm7⟩ : ∃ m : Nat, g % 8 = (m : Int) ∧ m ≤ 7 := ⟨(g % 8).toNat, by omega, by omega⟩
  have hmk := mkInts m hm7
  have H1 := Lib.hid h1.cases
  clear h1
  go_enter Try.func5, Try.ntmps5
  go_wp2_with (go_at_call 12; refine (alive_true w).mono ?_; rintro e w1 ⟨rfl, hbel⟩; have HBEL := Lib.hid hbel; clear hbel)
  have hw1 : w.heap.size ≤ w1.heap.size := HBEL.out.size
  have HS : Hid (ManyAt w.heap.size (m + 1) (w1.heap.size + 1) w1.heap.size (fun _ => 0) (fun _ => 0) (fun _ => false) (madeCells #[.int .i64 0] (m + 1)) 0 (.slice none 0 0) w ((w1.alloc (.cells (madeCells #[.int .i64 0] (m + 1)) 3)).alloc (.cells #[.slice (some ⟨w1.heap.size, 0, none⟩) (m + 1) (m + 1)] 45))) := by
    refine ⟨(HBEL.out.alloc hw1 _).alloc (by simp; omega) _, hw1, fun j hj => absurd hj (Nat.not_lt_zero _), ?_, blk_old (blk_new _ _) _, fun j hj => made_get _ _ _ hj, fun j hj => absurd hj (Nat.not_lt_zero _), fun j hj => absurd hj (Nat.not_lt_zero _), fun j hj => absurd hj (Nat.not_lt_zero _), World.ownsRow_nil _ _ _ _⟩
    have := blk_new (w1.alloc (.cells (madeCells #[.int .i64 0] (m + 1)) 3)) (.cells #[.slice (some ⟨w1.heap.size, 0, none⟩) (m + 1) (m + 1)] 45 (0, 0))
    simpa using this
  clear HBEL hmk hgm
  obtain ⟨i0, hi, hz0, hz1, hz2⟩ := info_parts (show (Try.prog.info? 47).map (fun i => (i.zero, i.size, i.bytes)) = some (some (.pointer none), 1, 8) by kernel_rfl)
  have HI : Hid (Try.prog.info? 47 = some i0 ∧ i0.zero = some (.pointer none) ∧ i0.size = 1 ∧ i0.bytes = 8) := ⟨hi, hz0, hz1, hz2⟩
  clear hi hz0 hz1 hz2
  go_loopw [7, 25] (fun v i wr => ∃ (j : Nat) (I V : Nat → Nat), j ≤ m + 1 ∧ i = .int .i64 j ∧ ManyAt w.heap.size (m + 1) (w1.heap.size + 1) w1.heap.size I V (fun _ => false) (madeCells #[.int .i64 0] (m + 1)) j v w wr) (fun _ i _ => m + 1 - (intOf i).toNat)
  case atStart => exact ⟨0, _, _, Nat.zero_le _, rfl, HS.out⟩
  case round =>
    obtain ⟨j, I, V, hj, rfl, hst⟩ := hrel
    clear HS
    have hown := hst.hrow
    have hBs : w.heap.size ≤ wr.heap.size := hst.hb.size
    have HST := Lib.hid hst
    clear hst
    by_cases hlt : j < m + 1
    · have HOWN := Lib.hid hown
      clear hown
      go_wp2_with (first
        | (go_at_call 23; with_reducible refine (newI _ _ _).mono ?_; rintro e w' ⟨rfl, rfl⟩)
        | (at_builtin; refine wpList_append_own _ rfl _ _ 46 rfl w.heap.size 47 i0 (.pointer none) 1 8 Try.underlying46 HI.out.1 HI.out.2.1 HI.out.2.2.1 HI.out.2.2.2 rfl (by decide) _ _ _ rfl (((HOWN.out.alloc _).alloc _).alloc _) ⟨wr.heap.size + 1 + 1, 0, none⟩ 1 1 [.pointer (some ⟨wr.heap.size + 1, 0, none⟩)] rfl rfl ?c1 ?c2 ?c3 ?c4 ?c5 ?_))
      case c1 =>
        intro k u hk
        rcases k with _ | k
        · simp at hk
          subst hk
          have := cell_new ((wr.alloc (.cells #[.int .i64 j] 3)).alloc (.cells (fresh (manyFv (w1.heap.size + 1) wr.heap.size) (.int .i64 0)) 95)) (.pointer (some ⟨wr.heap.size + 1, 0, none⟩)) 47
          simpa [Addr.add] using this
        · simp at hk
      case c2 => simp [Value.oneCell']
      case c3 => unfold maxLen; omega
      case c4 => omega
      case c5 => simp; omega
      intro v' w4 hown' hgr _
      have HST4 := Lib.hid (many_step HST.out hown' hgr)
      clear hown' hgr HOWN HST
      go_wp2
      go_roundw
      case rel => exact ⟨j + 1, _, _, by omega, by go_num, HST4.out⟩
      case measure => simp [intOf]; omega
    · have hjm : m + 1 = j := by omega
      have HSTm := Lib.hid (HST.out.of_eq hjm.symm)
      rw [← hjm] at hown
      have hlt' : ¬ (j : Int) < (m : Int) + 1 := by omega
      clear HST HI hlt hjm
      have HST := Lib.hid HSTm.out
      clear HSTm
      by_cases h100 : 100 < len1
      · clear hown
        go_wp2
        go_ret
        exact ⟨rfl, HST.out.hb⟩
      · rcases hown.2 with ⟨_, h0⟩ | ⟨G, cap, cur, rfl, hG1, hG2, hG3⟩
        · omega
        obtain ⟨hG4, hG5, hG6, hG7⟩ := hG3
        unfold maxLen at hG5
        clear hG1 hG2 hG6 hG7 hown
        have hmk := mkBools m hm7
        go_wp2
        have HA : Hid (AskAt (m + 1) wr.heap.size (fun _ => false) (madeCells #[.bool false] (m + 1)) (wr.alloc (.cells (madeCells #[.bool false] (m + 1)) 4))) := ⟨blk_new _ _, fun j hj => made_get _ _ _ hj⟩
        have HST2 := Lib.hid (HST.out.alloc (.cells (madeCells #[.bool false] (m + 1)) 4 (0, 0)))
        obtain ⟨wo, rfl⟩ : ∃ wo : World, wo = wr := ⟨_, rfl⟩
        have hBo : w.heap.size ≤ wo.heap.size := hBs
        clear HST hmk hBs
        go_loopw [41] (fun i wr => ∃ (x : Nat) (A : Nat → Bool) (arr c : Array Value), x ≤ len1 ∧ i = .int .i64 x ∧ ManyAt w.heap.size (m + 1) (w1.heap.size + 1) w1.heap.size I V A arr (m + 1) (.slice (some ⟨G, 0, none⟩) (m + 1) cap) w wr ∧ AskAt (m + 1) wo.heap.size A c wr) (fun i _ => len1 - (intOf i).toNat)
        case atStart => exact ⟨0, _, _, _, Nat.zero_le _, rfl, HST2.out, HA.out⟩
        case round =>
          obtain ⟨x, A, arr, c, hx, rfl, hst, hask⟩ := hrel
          clear HST2 HA
          have HST := Lib.hid hst
          have HASK := Lib.hid hask
          clear hst hask
          by_cases hlt : x < len1
          · rcases H1.out with h0 | ⟨b, off, rfl, hb, _, hle, hmax, hcell, hwf⟩
            · omega
            unfold maxLen at hmax
            have ct : wr.cell? ⟨b, off + x, none⟩ = some (.int .u8 (z1.getD x 0)) := by rw [HST.out.hb.cell hb]; exact hcell x hlt
            have hbd := bounds_u8 (hwf x hlt)
            obtain ⟨t, ht⟩ : ∃ t, t = z1.getD x 0 := ⟨_, rfl⟩
            rw [← ht] at ct hbd
            obtain ⟨hb0, hb255⟩ := hbd
            clear ht hcell hwf
            obtain ⟨i, hti, him⟩ : ∃ i : Nat, t % ((m : Int) + 1) = (i : Int) ∧ i < m + 1 := by
              have h1 := Int.emod_nonneg t (show ((m : Int) + 1) ≠ 0 by omega)
              have h2 := Int.emod_lt_of_pos t (show 0 < ((m : Int) + 1) by omega)
              exact ⟨(t % ((m : Int) + 1)).toNat, by omega, by omega⟩
            have htm : t.tmod ((m : Int) + 1) = (i : Int) := by rw [Int.tmod_eq_emod_of_nonneg hb0]; exact hti
            have hfz : wr.frozen? ⟨wo.heap.size, i, none⟩ = false := blk_free HASK.out.hab
            have hci : wr.cell? ⟨wo.heap.size, i, none⟩ = some (.bool (A i)) := blk_cell HASK.out.hab (HASK.out.hc i him)
            have hvi : (wr.setCell ⟨wo.heap.size, i, none⟩ (.bool true)).cell? ⟨G, i, none⟩ = some (.pointer (some ⟨V i, 0, none⟩)) := by
              rw [(HST.out.store HASK.out.hab hBo i (.bool true)).hrow.cellAt i (by omega)]
              simp [him]
            go_wp2_with fail
            refine (many_get (by omega) (HST.out.store HASK.out.hab hBo i (.bool true)) i him).mono ?_
            rintro e w5 ⟨rfl, ⟨arr5, hst5⟩, hbk⟩
            have HASK5 : Hid (AskAt (m + 1) wo.heap.size (ask A i) (c.setIfInBounds i (.bool true)) w5) := by
              refine ⟨hbk _ _ (blk_set (i := i) _ HASK.out.hab), fun j hj => ?_⟩
              by_cases e : j = i
              · subst e
                rw [ask_self, Array.getElem?_setIfInBounds_self_of_lt (Array.getElem?_eq_some_iff.1 (HASK.out.hc j hj)).1]
              · rw [ask_other A e, Array.getElem?_setIfInBounds_ne (fun h => e h.symm)]
                exact HASK.out.hc j hj
            have HST5 := Lib.hid hst5
            clear hst5 hbk hfz hci hvi ct hti htm HASK HST
            generalize ask A i = A5 at HASK5 HST5
            generalize c.setIfInBounds i (.bool true) = c5 at HASK5
            go_wp2_with fail
            obtain ⟨wp, rfl⟩ : ∃ wp : World, wp = wr := ⟨_, rfl⟩
            go_loopw [69] (fun q wr => ∃ y : Nat, y ≤ m + 1 ∧ q = .int .i64 y ∧ ManyAt w.heap.size (m + 1) (w1.heap.size + 1) w1.heap.size I V A5 arr5 (m + 1) (.slice (some ⟨G, 0, none⟩) (m + 1) cap) w wr ∧ AskAt (m + 1) wo.heap.size A5 c5 wr) (fun q _ => m + 1 - (intOf q).toNat)
            case atStart => exact ⟨0, Nat.zero_le _, rfl, HST5.out, HASK5.out⟩
            case round =>
              obtain ⟨y, hy, rfl, hst, hask⟩ := hrel
              clear HST5 HASK5
              have HST := Lib.hid hst
              have HASK := Lib.hid hask
              clear hst hask
              by_cases hlty : y < m + 1
              · have e1 : wr.cell? ⟨w1.heap.size + 1, 0, none⟩ = some (.slice (some ⟨w1.heap.size, 0, none⟩) (m + 1) (m + 1)) := blk_cell HST.out.hcv rfl
                have e2 : wr.cell? ⟨G, y, none⟩ = some (.pointer (some ⟨V y, 0, none⟩)) := by
                  rw [HST.out.hrow.cellAt y (by omega)]
                  simp [hlty]
                have e3 := blk_cell (i := y) HST.out.hcb (HST.out.harr y hlty)
                have e4 := blk_cell (i := y) HASK.out.hab (HASK.out.hc y hlty)
                have e5 := HST.out.hV y hlty
                cases hA5 : A5 y with
                | true =>
                  rw [hA5] at e3 e4 e5
                  have e3' : wr.cell? ⟨w1.heap.size, y, none⟩ = some (.int .i64 1) := e3
                  have E5 := Lib.hid e5
                  clear e3 e5 hA5
                  go_wp2_with fail
                  go_quiet ((go_at_call 26; exact Calls.quiet_of_same (isMadeQ (V y) 1 _ _ E5.out rfl)))
                  go_wp2
                  go_roundw
                  case rel => exact ⟨y + 1, by omega, by go_num, HST.out.drewN _, ⟨HASK.out.hab, HASK.out.hc⟩⟩
                  case measure => simp [intOf]; omega
                | false =>
                  rw [hA5] at e3 e4 e5
                  have e3' : wr.cell? ⟨w1.heap.size, y, none⟩ = some (.int .i64 0) := e3
                  have E5 := Lib.hid e5
                  clear e3 e5 hA5
                  go_wp2_with fail
                  go_quiet ((go_at_call 26; exact Calls.quiet_of_same (isMadeQ (V y) 0 _ _ E5.out rfl)))
                  go_wp2
                  go_roundw
                  case rel => exact ⟨y + 1, by omega, by go_num, HST.out.drewN _, ⟨HASK.out.hab, HASK.out.hc⟩⟩
                  case measure => simp [intOf]; omega
              · go_wp2
                go_roundw
                case rel => exact ⟨x + 1, A5, arr5, c5, by omega, by go_num, HST.out, HASK.out⟩
                case measure => simp [intOf]; omega
          · go_wp2
            go_ret
            exact ⟨rfl, HST.out.hb⟩
end Go.Proofs.Ytcogfajmocbogaa
