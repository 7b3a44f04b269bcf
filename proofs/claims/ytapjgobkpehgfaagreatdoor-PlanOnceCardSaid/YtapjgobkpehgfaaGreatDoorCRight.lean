/-
  The contract of Right.
-/
import Derived.Test.YtapjgobkpehgfaaGreatDoorUAC
import Derived.Laws.RangeAny
namespace Go.Proofs.YtapjgobkpehgfaaGreatDoor
set_option linter.unusedSimpArgs false
set_option linter.unusedVariables false
open Go.RowKit

/-- What a round of a range over an operation's letters finds. -/
structure RRel (w : World) (N : Nat) (hs : Bs) (cs : Array Value) (k : Nat) (wr : World) : Prop where
  hn : blk wr N cs 133
  hm : wr.heap[N + 1]? = some placesO
  hi : wr.heap[N + 2]? = some (.stringIter ⟨hs.toArray⟩ k)
  hb : Below w.heap.size w wr
  hN : w.heap.size ≤ N
theorem RRel.next {w wr : World} {N : Nat} {hs : Bs} {cs cs' : Array Value} {k : Nat} (h : RRel w N hs cs k wr) :
    RRel w N hs cs' (k + 1) (putB (putO wr (N + 2) (.stringIter ⟨hs.toArray⟩ (k + 1))) N cs' 133) := by
  have h2 : N + 2 < wr.heap.size := (Array.getElem?_eq_some_iff.1 h.hi).1
  have hn : blk (putO wr (N + 2) (.stringIter ⟨hs.toArray⟩ (k + 1))) N cs 133 := by unfold blk; rw [putO_ne _ (by omega)]; exact h.hn
  refine ⟨putB_at hn _ _, ?_, ?_, ?_, h.hN⟩
  · rw [putB_ne _ (by omega), putO_ne _ (by omega)]; exact h.hm
  · rw [putB_ne _ (by omega), putO_at h2]
  · exact (h.hb.trans (putO_below _ (by have := h.hN; omega) _)).trans (putB_below _ h.hN _ _)
theorem RRel.after {w wr : World} {N : Nat} {hs : Bs} {cs : Array Value} {k : Nat} (h : RRel w N hs cs k wr) :
    blk (putO wr (N + 2) (.stringIter ⟨hs.toArray⟩ (k + 1))) N cs 133 ∧ (putO wr (N + 2) (.stringIter ⟨hs.toArray⟩ (k + 1))).heap[N + 1]? = some placesO :=
  ⟨by unfold blk; rw [putO_ne _ (by omega)]; exact h.hn, by rw [putO_ne _ (by omega)]; exact h.hm⟩
theorem RRel.pos {w wr : World} {N : Nat} {hs : Bs} {cs : Array Value} {k : Nat} (h : RRel w N hs cs k wr) : wr.iterPos (N + 2) = k := by
  unfold World.iterPos; rw [h.hi]
/-- The four letters, as the walk meets them. -/
structure Met (W : World) (N : Nat) (p : Nat) (c : Int) : Prop where
  look : (Instr.lookup 135 (.map (some (N + 1))) (.int .i32 c) false).run Tryz.prog W = .ok (.int .i64 p) W
  cell : ∃ v, W.cell? ⟨N, p, none⟩ = some v
  frz : W.frozen? ⟨N, p, none⟩ = false
theorem met_a {W : World} {N : Nat} {j : PIns} (hb : blk W N (numC j) 133) (hm : W.heap[N + 1]? = some placesO) : Met W N 0 65 :=
  ⟨map_get W (N + 1) hm 65 (by simp), ⟨_, blk_cell hb 0 _ rfl⟩, blk_frozen hb 0⟩
theorem met_b {W : World} {N : Nat} {j : PIns} (hb : blk W N (numC j) 133) (hm : W.heap[N + 1]? = some placesO) : Met W N 1 66 :=
  ⟨map_get W (N + 1) hm 66 (by simp), ⟨_, blk_cell hb 1 _ rfl⟩, blk_frozen hb 1⟩
theorem met_c {W : World} {N : Nat} {j : PIns} (hb : blk W N (numC j) 133) (hm : W.heap[N + 1]? = some placesO) : Met W N 2 67 :=
  ⟨map_get W (N + 1) hm 67 (by simp), ⟨_, blk_cell hb 2 _ rfl⟩, blk_frozen hb 2⟩
theorem met_n {W : World} {N : Nat} {j : PIns} (hb : blk W N (numC j) 133) (hm : W.heap[N + 1]? = some placesO) : Met W N 3 78 :=
  ⟨map_get W (N + 1) hm 78 (by simp), ⟨_, blk_cell hb 3 _ rfl⟩, blk_frozen hb 3⟩
theorem clear_snoc (i : PIns) (hs : Bs) (c : UInt8) : clearL i (hs ++ [c]) = setL (clearL i hs) c 0 := by
  induction hs generalizing i with
  | nil => rfl
  | cons a r ih => show clearL (setL i a 0) (r ++ [c]) = setL (clearL (setL i a 0) r) c 0; rw [ih]
theorem clear_next (i : PIns) (hs : Bs) (k : Nat) (c : UInt8) (h : hs[k]? = some c) : clearL i (hs.take (k + 1)) = setL (clearL i (hs.take k)) c 0 := by
  obtain ⟨hlt, rfl⟩ := List.getElem?_eq_some_iff.1 h
  rw [List.take_succ_eq_append_getElem hlt, clear_snoc]
theorem eq_nums (j : PIns) (w : World) : (Op.equalIn 10000 133 (.agg (numC j)) (.agg #[.int .i64 0, .int .i64 0, .int .i64 0, .int .i64 0])).run Tryz.prog w = .ok (zeroI j) w := by
  obtain ⟨x, a, b, c, n⟩ := j
  have u3 := Tryz.underlying2
  have a3 := Tryz.isAgg2
  have z3 := Tryz.sizeOf2
  rw [show (10000 : Nat) = 9999 + 1 from rfl, Op.equalIn]
  simp only [Sem.run_bind, run_underlying Tryz.underlying133, Result.andThen_ok]
  simp only [Std.Legacy.Range.forIn_eq_forIn_range', Std.Legacy.Range.size, Nat.sub_zero, Nat.add_sub_cancel, Nat.div_one, List.range'_succ, List.range'_zero, List.forIn_cons, List.forIn_nil]
  go_simp
  unfold zeroI
  by_cases h1 : a = 0 <;> by_cases h2 : b = 0 <;> by_cases h3 : c = 0 <;> by_cases h4 : n = 0 <;> simp [h1, h2, h3, h4]

set_option maxRecDepth 100000 in
set_option maxHeartbeats 4000000 in
theorem right_none (i : PIns) (w : World) (ho : HasO w) (_hi : OkI i) (h : byOpL i.op = none) : Calls Tryz.prog 82 #[insV i] w (AggPost w (.bool false)) := by
  have HOP : Hid (∀ w', Below w.heap.size w w' → Calls Tryz.prog 100 #[.int .u8 i.op] w' (OpPost w' none)) := Lib.hid fun w' hb => by have := byOp_any i.op w' (ho.below hb); rw [h] at this; exact this
  clear ho h _hi
  obtain ⟨x, a, b, c, n⟩ := i
  simp only at *
  go_enter Tryz.func82, Tryz.ntmps82
  go_wp2_with (go_at_call 100; refine (HOP.out _ ((Below.refl _ _).alloc (Nat.le_refl _) _)).mono ?_; rintro e w1 ⟨rfl, hb1⟩)
  go_ret
  have s1 := hb1.size
  rw [World.size_alloc] at hb1 s1
  exact ⟨rfl, (((Below.refl _ _).alloc (Nat.le_refl _) _).trans (hb1.mono (by omega))).alloc (by omega) _⟩

set_option maxRecDepth 100000 in
set_option maxHeartbeats 4000000 in
theorem right_some (i : PIns) (o : Int × Bs × Bs) (w : World) (ho : HasO w) (hi : OkI i) (h : byOpL i.op = some o) : Calls Tryz.prog 82 #[insV i] w (AggPost w (.bool (zeroI (clearL i o.2.2)))) := by
  have HOP : Hid (∀ w', Below w.heap.size w w' → Calls Tryz.prog 100 #[.int .u8 i.op] w' (OpPost w' (some o))) := Lib.hid fun w' hb => by have := byOp_any i.op w' (ho.below hb); rw [h] at this; exact this
  have HNUM : Hid (∀ w', Calls Tryz.prog 101 #[insV i] w' (AggPost w' (.agg (numC i)))) := Lib.hid fun w' => numbersOf_any i w' hi
  have H4 := Lib.hid (four_ops (byOp_mem h).1)
  have HI := Lib.hid hi
  clear ho h hi
  go_enter Tryz.func82, Tryz.ntmps82
  go_wp2_with (first
    | (go_at_call 100; refine (HOP.out _ ((Below.refl _ _).alloc (Nat.le_refl _) _)).mono ?_; rintro e w1 ⟨rfl, hb1⟩; have k1 := Lib.hid (blk_below (blk_new w (insC i) 46) hb1); have s1 := hb1.size; rw [World.size_alloc] at s1; have HB1 := Lib.hid hb1; clear hb1)
    | (refine wpList_loadB rfl 46 _ rfl w.heap.size (insC i) rfl 46 (blk_alloc k1.out _) _ Tryz.underlying46 rfl ins_info ?_)
    | (go_at_call 101; refine (HNUM.out _).mono ?_; rintro e w2 ⟨rfl, hb2⟩; have k2 := Lib.hid (blk_below (blk_new w1 (opCells o).toArray 129) hb2); have s2 := hb2.size; rw [World.size_alloc] at s2; have HB2 := Lib.hid hb2; clear hb2)
    | (go_at_call 102; refine (places_any _).mono ?_; rintro e w3 ⟨rfl, rfl⟩; have k3 : ((w2.alloc (.cells (numC i) 133)).alloc placesO).cell? ⟨w1.heap.size, 2, none⟩ = some (str o.2.2) := blk_cell (blk_alloc (blk_alloc k2.out _) _) 2 _ rfl))
  have HS := Lib.hid (show RRel w w2.heap.size o.2.2 (numC (clearL i (o.2.2.take 0))) 0 (((w2.alloc (.cells (numC i) 133)).alloc placesO).iter ⟨o.2.2.toArray⟩ 0) from
    ⟨blk_alloc (blk_alloc (blk_new _ _ _) _) _, by
      have h1 := heap_alloc_new (w2.alloc (.cells (numC i) 133)) placesO
      rw [World.size_alloc] at h1
      show (World.alloc _ _).heap[_]? = _
      rw [Below.heap_alloc _ _ _ (by simp)]; exact h1, by
      have h1 := heap_alloc_new ((w2.alloc (.cells (numC i) 133)).alloc placesO) (.stringIter ⟨o.2.2.toArray⟩ 0)
      rw [World.size_alloc, World.size_alloc] at h1
      exact h1, by
      have h1 := HB1.out
      have h2 := HB2.out
      rw [World.size_alloc] at h1 h2
      exact ((((((Below.refl _ _).alloc (Nat.le_refl _) _).trans (h1.mono (by omega))).alloc (by omega) _).trans (h2.mono (by omega))).alloc (by omega) _).alloc (by simp; omega) _ |>.alloc (by simp; omega) _, by omega⟩)
  clear k1 k2 k3 HB1 HB2
  generalize o.2.2 = hs at *
  go_loopw [] (fun wr => ∃ k : Nat, k ≤ hs.length ∧ RRel w w2.heap.size hs (numC (clearL i (hs.take k))) k wr) (fun wr => hs.length - wr.iterPos (w2.heap.size + 2))
  case atStart => exact ⟨0, by omega, HS.out⟩
  case round =>
    obtain ⟨k, hk, hr⟩ := hrel
    clear HS
    have HR := Lib.hid hr
    clear hr
    by_cases hlt : k < hs.length
    · obtain ⟨c, hc⟩ : ∃ c, hs[k]? = some c := ⟨_, List.getElem?_eq_getElem hlt⟩
      have hn := clear_next i hs k c hc
      have h4 := H4.out c (List.mem_of_getElem? hc)
      have hnx := fun (h : c.toNat < 128) ty => next_l wr (w2.heap.size + 2) hs k c ty HR.out.hi hc h
      have hst := HR.out.after
      have hnr := fun cs' => HR.out.next (cs' := cs')
      generalize clearL i (hs.take k) = j at *
      generalize putO wr (w2.heap.size + 2) (.stringIter ⟨hs.toArray⟩ (k + 1)) = W at *
      rcases h4 with rfl | rfl | rfl | rfl
      · have hnx := hnx (by decide)
        have hm := met_a hst.1 hst.2
        obtain ⟨v, hv⟩ := hm.cell
        have hfz := hm.frz
        have hlk := hm.look
        have HN := Lib.hid (show RRel w w2.heap.size hs (numC (clearL i (hs.take (k + 1)))) (k + 1) (W.setCell ⟨w2.heap.size, 0, none⟩ (.int .i64 0)) from by
          rw [hn, setCell_putB hst.1]; exact hnr _)
        have HP := Lib.hid HR.out.pos
        clear hm hst hnr hn HR
        go_wp2
        go_roundw
        case rel => exact ⟨k + 1, by omega, HN.out⟩
        case measure => rw [HN.out.pos, HP.out]; omega
      · have hnx := hnx (by decide)
        have hm := met_b hst.1 hst.2
        obtain ⟨v, hv⟩ := hm.cell
        have hfz := hm.frz
        have hlk := hm.look
        have HN := Lib.hid (show RRel w w2.heap.size hs (numC (clearL i (hs.take (k + 1)))) (k + 1) (W.setCell ⟨w2.heap.size, 1, none⟩ (.int .i64 0)) from by
          rw [hn, setCell_putB hst.1]; exact hnr _)
        have HP := Lib.hid HR.out.pos
        clear hm hst hnr hn HR
        go_wp2
        go_roundw
        case rel => exact ⟨k + 1, by omega, HN.out⟩
        case measure => rw [HN.out.pos, HP.out]; omega
      · have hnx := hnx (by decide)
        have hm := met_c hst.1 hst.2
        obtain ⟨v, hv⟩ := hm.cell
        have hfz := hm.frz
        have hlk := hm.look
        have HN := Lib.hid (show RRel w w2.heap.size hs (numC (clearL i (hs.take (k + 1)))) (k + 1) (W.setCell ⟨w2.heap.size, 2, none⟩ (.int .i64 0)) from by
          rw [hn, setCell_putB hst.1]; exact hnr _)
        have HP := Lib.hid HR.out.pos
        clear hm hst hnr hn HR
        go_wp2
        go_roundw
        case rel => exact ⟨k + 1, by omega, HN.out⟩
        case measure => rw [HN.out.pos, HP.out]; omega
      · have hnx := hnx (by decide)
        have hm := met_n hst.1 hst.2
        obtain ⟨v, hv⟩ := hm.cell
        have hfz := hm.frz
        have hlk := hm.look
        have HN := Lib.hid (show RRel w w2.heap.size hs (numC (clearL i (hs.take (k + 1)))) (k + 1) (W.setCell ⟨w2.heap.size, 3, none⟩ (.int .i64 0)) from by
          rw [hn, setCell_putB hst.1]; exact hnr _)
        have HP := Lib.hid HR.out.pos
        clear hm hst hnr hn HR
        go_wp2
        go_roundw
        case rel => exact ⟨k + 1, by omega, HN.out⟩
        case measure => rw [HN.out.pos, HP.out]; omega
    · obtain rfl : k = hs.length := by omega
      have hnx := fun ty => next_end wr (w2.heap.size + 2) hs ty HR.out.hi
      rw [List.take_length] at HR
      generalize clearL i hs = j at *
      have heq := eq_nums j wr
      go_wp2_with (refine wpList_loadB rfl 133 _ rfl w2.heap.size (numC j) rfl 133 HR.out.hn _ Tryz.underlying133 rfl nums_info ?_)
      go_ret
      exact ⟨rfl, HR.out.hb⟩
theorem right_any (i : PIns) (w : World) (ho : HasO w) (hi : OkI i) : Calls Tryz.prog 82 #[insV i] w (AggPost w (.bool (rightL i))) := by
  rcases h : byOpL i.op with _ | o
  · have e : rightL i = false := by unfold rightL; rw [h]
    rw [e]; exact right_none i w ho hi h
  · have e : rightL i = zeroI (clearL i o.2.2) := by unfold rightL; rw [h]
    rw [e]; exact right_some i o w ho hi h
end Go.Proofs.YtapjgobkpehgfaaGreatDoor
