/-
  The contract of code's wordsOf.
  A program as it lies; the contract of mayBePrinted.
-/
import Derived.Test.YtcjhgibhenocpaaGreatDoorUAF
import Derived.Test.YtcjhgibhenocpaaGreatDoorUAG

/- The contract of code's wordsOf. -/
namespace Go.Proofs.YtcjhgibhenocpaaGreatDoor
set_option linter.unusedSimpArgs false
set_option linter.unusedVariables false
open Go.RowKit

theorem grown_keep {w w' : World} {B n : Nat} {T : TypeId} {z : Nat} {v : Value} {xs : List Value} (ho : w.ownsRow B T z v n xs) (hg : w.grownBy w' v.ownBlock) {b : Nat} {ob : Obj} (hb : w.heap[b]? = some ob) (hne : ∀ cur, ob ≠ .cells cur T (0, 0)) : w'.heap[b]? = some ob := by
  rw [hg.block b (Array.getElem?_eq_some_iff.1 hb).1 ?_]; exact hb
  rcases ho.2 with ⟨rfl, _⟩ | ⟨g, cap, cur, rfl, _, hg', _⟩
  · simp [Value.ownBlock]
  · intro e
    simp [Value.ownBlock] at e
    subst e
    rw [hg'] at hb
    exact hne cur (Option.some.inj hb).symm
theorem own_putO {w : World} {B n : Nat} {T : TypeId} {z : Nat} {v : Value} {xs : List Value} (ho : w.ownsRow B T z v n xs) {b : Nat} {ob o : Obj} (hb : w.heap[b]? = some ob) (hne : ∀ cur, ob ≠ .cells cur T (0, 0)) : (putO w b o).ownsRow B T z v n xs := by
  obtain ⟨h1, h2⟩ := ho
  refine ⟨h1, h2.imp id ?_⟩
  rintro ⟨g, cap, cur, rfl, hB, hg, rest⟩
  refine ⟨g, cap, cur, rfl, hB, ?_, rest⟩
  rw [putO_ne _ (fun e => by subst e; rw [hg] at hb; exact hne cur (Option.some.inj hb).symm)]
  exact hg

def wcells (i : PIns) (nm hs : Bs) (k : Nat) : List Value := str nm :: (hs.take k).map (fun c => str (Lib.itoa (partL i c)))
theorem wcells_next (i : PIns) (nm hs : Bs) (k : Nat) (c : UInt8) (h : hs[k]? = some c) : wcells i nm hs (k + 1) = wcells i nm hs k ++ [str (Lib.itoa (partL i c))] := by
  obtain ⟨hlt, rfl⟩ := List.getElem?_eq_some_iff.1 h
  unfold wcells
  rw [List.take_succ_eq_append_getElem hlt, List.map_append]; rfl
theorem wcells_all (i : PIns) (nm hs : Bs) : wcells i nm hs hs.length = (nm :: hs.map (fun c => Lib.itoa (partL i c))).map str := by
  unfold wcells; rw [List.take_length]; simp
/-- What a round of the words' loop finds. -/
structure WordRel (w : World) (N : Nat) (i : PIns) (hs nm : Bs) (k : Nat) (v : Value) (wr : World) : Prop where
  hn : blk wr N (numC i) 94
  hm : wr.heap[N + 1]? = some placesO
  hi : wr.heap[N + 2]? = some (.stringIter ⟨hs.toArray⟩ k)
  hb : Below w.heap.size w wr
  hN : w.heap.size ≤ N
  row : wr.ownsRow w.heap.size 9 1 v (k + 1) (wcells i nm hs k)
theorem WordRel.pos {w wr : World} {N : Nat} {i : PIns} {hs nm : Bs} {k : Nat} {v : Value} (h : WordRel w N i hs nm k v wr) : wr.iterPos (N + 2) = k := by
  unfold World.iterPos; rw [h.hi]
theorem WordRel.after {w wr : World} {N : Nat} {i : PIns} {hs nm : Bs} {k : Nat} {v : Value} (h : WordRel w N i hs nm k v wr) :
    WordRel w N i hs nm k v wr → (blk (putO wr (N + 2) (.stringIter ⟨hs.toArray⟩ (k + 1))) N (numC i) 94 ∧ (putO wr (N + 2) (.stringIter ⟨hs.toArray⟩ (k + 1))).heap[N + 1]? = some placesO ∧
      (putO wr (N + 2) (.stringIter ⟨hs.toArray⟩ (k + 1))).heap[N + 2]? = some (.stringIter ⟨hs.toArray⟩ (k + 1)) ∧ Below w.heap.size w (putO wr (N + 2) (.stringIter ⟨hs.toArray⟩ (k + 1))) ∧
      (putO wr (N + 2) (.stringIter ⟨hs.toArray⟩ (k + 1))).ownsRow w.heap.size 9 1 v (k + 1) (wcells i nm hs k)) := fun _ =>
  ⟨by unfold blk; rw [putO_ne _ (by omega)]; exact h.hn, by rw [putO_ne _ (by omega)]; exact h.hm, putO_at (Array.getElem?_eq_some_iff.1 h.hi).1 _,
    h.hb.trans (putO_below _ (by have := h.hN; omega) _), own_putO h.row h.hi (fun cur e => by cases e)⟩
theorem word_step {w W W1 W2 : World} {N : Nat} {i : PIns} {hs nm : Bs} {k : Nat} {v v' : Value} {c : UInt8} {o : Obj} (hc : hs[k]? = some c) (hN : w.heap.size ≤ N)
    (h1 : blk W N (numC i) 94) (h2 : W.heap[N + 1]? = some placesO) (h3 : W.heap[N + 2]? = some (.stringIter ⟨hs.toArray⟩ (k + 1))) (h4 : Below w.heap.size w W)
    (hrow : W.ownsRow w.heap.size 9 1 v (k + 1) (wcells i nm hs k))
    (hb : Below W.heap.size W W1) (ho : W2.ownsRow w.heap.size 9 1 v' (k + 1 + 1) (wcells i nm hs k ++ [str (Lib.itoa (partL i c))]))
    (hg : (W1.alloc o).grownBy W2 v.ownBlock) : WordRel w N i hs nm (k + 1) v' W2 := by
  have hrow1 := (own_below hrow hb).alloc o
  have hw := h4.size
  have keep : ∀ {b : Nat} {ob : Obj}, W.heap[b]? = some ob → (∀ cur, ob ≠ .cells cur 9 (0, 0)) → W2.heap[b]? = some ob := fun {b ob} hbk hne =>
    grown_keep hrow1 hg (by rw [Below.heap_alloc _ _ _ (Nat.lt_of_lt_of_le (Array.getElem?_eq_some_iff.1 hbk).1 hb.size), hb.block b (Array.getElem?_eq_some_iff.1 hbk).1]; exact hbk) hne
  refine ⟨keep h1 (fun cur e => by cases e), keep h2 (fun cur e => by cases e), keep h3 (fun cur e => by cases e), ?_, hN, ?_⟩
  · have s := hb.size
    exact ((h4.trans (hb.mono hw)).alloc (by omega) o).grown hg (by simp; omega) (fun g hg' => (hrow1.lt g hg').1)
  · rw [wcells_next i nm hs k c hc]; exact ho

theorem own_words {w wr : World} {N : Nat} {i : PIns} {hs nm : Bs} {v : Value} (h : WordRel w N i hs nm hs.length v wr) : OwnS w (nm :: hs.map (fun c => Lib.itoa (partL i c))) (.returned v) wr := by
  have hr := h.row
  rw [wcells_all] at hr
  rcases ownsRow_forms hr with ⟨_, h0⟩ | ⟨g, cap, rfl⟩
  · cases h0
  · refine ⟨some ⟨g, 0, none⟩, cap, by simp, ?_, h.hb⟩
    simpa using hr
structure MetW (W : World) (N : Nat) (p : Nat) (c x : Int) : Prop where
  look : (Instr.lookup 96 (.map (some (N + 1))) (.int .i32 c) false).run Tryz.prog W = .ok (.int .i64 p) W
  cell : W.cell? ⟨N, p, none⟩ = some (.int .i64 x)
theorem metw_a {W : World} {N : Nat} {j : PIns} (hb : blk W N (numC j) 94) (hm : W.heap[N + 1]? = some placesO) : MetW W N 0 65 j.a := ⟨map_get W (N + 1) hm 65 (by simp), blk_cell hb 0 _ rfl⟩
theorem metw_b {W : World} {N : Nat} {j : PIns} (hb : blk W N (numC j) 94) (hm : W.heap[N + 1]? = some placesO) : MetW W N 1 66 j.b := ⟨map_get W (N + 1) hm 66 (by simp), blk_cell hb 1 _ rfl⟩
theorem metw_c {W : World} {N : Nat} {j : PIns} (hb : blk W N (numC j) 94) (hm : W.heap[N + 1]? = some placesO) : MetW W N 2 67 j.c := ⟨map_get W (N + 1) hm 67 (by simp), blk_cell hb 2 _ rfl⟩
theorem metw_n {W : World} {N : Nat} {j : PIns} (hb : blk W N (numC j) 94) (hm : W.heap[N + 1]? = some placesO) : MetW W N 3 78 j.n := ⟨map_get W (N + 1) hm 78 (by simp), blk_cell hb 3 _ rfl⟩
theorem row_one (w : World) (x : Bs) : (w.alloc (.cells #[str x] 9)).ownsRow w.heap.size 9 1 (.slice (some ⟨w.heap.size, 0, none⟩) 1 1) 1 [str x] :=
  ⟨rfl, .inr ⟨w.heap.size, 1, #[str x], rfl, Nat.le_refl _, heap_alloc_new w _, Nat.le_refl _, by decide, rfl, rfl⟩⟩

set_option maxRecDepth 100000 in
set_option maxHeartbeats 4000000 in
theorem wordsOf_some (i : PIns) (o : Int × Bs × Bs) (w : World) (ho : HasO w) (ht : HasT w) (hi : OkI i) (h : byOpL i.op = some o) : Calls Tryz.prog 21 #[insV i] w (OwnS w (wordsI i)) := by
  have HOP : Hid (∀ w', Below w.heap.size w w' → Calls Tryz.prog 44 #[.int .u8 i.op] w' (OpPost w' (some o))) := Lib.hid fun w' hb => by have := byOp_any i.op w' (ho.below hb); rw [h] at this; exact this
  have HNUM : Hid (∀ w', Calls Tryz.prog 45 #[insV i] w' (AggPost w' (.agg (numC i)))) := Lib.hid fun w' => numbersOf_any i w' hi
  have H4 := Lib.hid (four_ops (byOp_mem h).1)
  have HF : Hid (∀ (x : Int), (x = i.a ∨ x = i.b ∨ x = i.c ∨ x = i.n) → ∀ w', Below w.heap.size w w' → Calls Tryz.prog 47 #[.int .i64 x, .int .i64 10] w' (StrPost w' (Lib.itoa x))) := Lib.hid fun x hx w' hb => by
    obtain ⟨o0, o1, a0, a1, b0, b1, c0, c1, n0, n1⟩ := hi
    exact format_any x (by omega) (by omega) w' (ht.below hb)
  rw [show wordsI i = o.2.1 :: o.2.2.map (fun c => Lib.itoa (partL i c)) by unfold wordsI; rw [h]]
  obtain ⟨i9, g9, z90, z91, z92⟩ := info_parts Tryz.info9
  have hl3 : o.2.2.length ≤ 3 := by
    obtain ⟨_, _, _, _, _, _, _, _, hh⟩ := ops_cases (byOp_mem h).1
    simp only [List.mem_cons, List.not_mem_nil, or_false] at hh
    rcases hh with hh | hh | hh | hh | hh | hh | hh <;> (rw [hh]; decide)
  have HL3 := Lib.hid hl3
  clear ho h hi ht hl3
  obtain ⟨x, nm, hs⟩ := o
  simp only at HOP H4 HL3 ⊢
  go_enter Tryz.func21, Tryz.ntmps21
  go_wp2_with (first
    | (go_at_call 44; refine (HOP.out _ ((Below.refl _ _).alloc (Nat.le_refl _) _)).mono ?_; rintro e w1 ⟨rfl, hb1⟩; have k1 := Lib.hid (blk_below (blk_new w (insC i) 60) hb1); have s1 := hb1.size; rw [World.size_alloc] at s1; have HB1 := Lib.hid hb1; clear hb1)
    | (refine wpList_loadB rfl 60 _ rfl w.heap.size (insC i) rfl 60 (blk_alloc (blk_alloc k1.out _) _) _ Tryz.underlying60 rfl ins_info ?_)
    | (go_at_call 45; refine (HNUM.out _).mono ?_; rintro e w2 ⟨rfl, hb2⟩; have k2 := Lib.hid (blk_below (blk_alloc (blk_new w1 (opCells (x, nm, hs)).toArray 90) _) hb2); have s2 := hb2.size; rw [World.size_alloc, World.size_alloc] at s2; have HB2 := Lib.hid hb2; have k4 := Lib.hid (own_below (row_one (w1.alloc (.cells (opCells (x, nm, hs)).toArray 90)) nm) hb2); clear hb2)
    | (go_at_call 46; refine (places_any _).mono ?_; rintro e w3 ⟨rfl, rfl⟩; have k3 : ((w2.alloc (.cells (numC i) 94)).alloc placesO).cell? ⟨w1.heap.size, 2, none⟩ = some (str hs) := blk_cell (blk_alloc (blk_alloc k2.out _) _) 2 _ rfl))
  have hNN : w.heap.size ≤ w2.heap.size := by omega
  have HS := Lib.hid (show WordRel w w2.heap.size i hs nm 0 (.slice (some ⟨w1.heap.size + 1, 0, none⟩) 1 1) (((w2.alloc (.cells (numC i) 94)).alloc placesO).iter ⟨hs.toArray⟩ 0) from
    ⟨blk_alloc (blk_alloc (blk_new _ _ _) _) _, by
      have h1 := heap_alloc_new (w2.alloc (.cells (numC i) 94)) placesO
      rw [World.size_alloc] at h1
      show (World.alloc _ _).heap[_]? = _
      rw [Below.heap_alloc _ _ _ (by simp)]; exact h1, by
      have h1 := heap_alloc_new ((w2.alloc (.cells (numC i) 94)).alloc placesO) (.stringIter ⟨hs.toArray⟩ 0)
      rw [World.size_alloc, World.size_alloc] at h1
      exact h1, by
      have h1 := HB1.out
      have h2 := HB2.out
      rw [World.size_alloc] at h1
      rw [World.size_alloc, World.size_alloc] at h2
      exact (((((((Below.refl _ _).alloc (Nat.le_refl _) _).trans (h1.mono (by omega))).alloc (by omega) _).alloc (by simp; omega) _).trans (h2.mono (by omega))).alloc (by omega) _).alloc (by simp; omega) _ |>.alloc (by simp; omega) _, hNN, by
      have h1 := k4.out
      rw [World.size_alloc] at h1
      exact ((ownsRow_le h1 (by omega)).alloc _).alloc _ |>.alloc _⟩)
  clear k1 k2 k3 k4 HB1 HB2
  go_loopw [5] (fun v wr => ∃ k : Nat, k ≤ hs.length ∧ WordRel w w2.heap.size i hs nm k v wr) (fun _ wr => hs.length - wr.iterPos (w2.heap.size + 2))
  case atStart => exact ⟨0, by omega, HS.out⟩
  case round =>
    obtain ⟨k, hk, hr⟩ := hrel
    clear HS
    have HR := Lib.hid hr
    have hl3 := HL3.out
    clear hr
    by_cases hlt : k < hs.length
    · obtain ⟨c, hc⟩ : ∃ c, hs[k]? = some c := ⟨_, List.getElem?_eq_getElem hlt⟩
      have h4 := H4.out c (List.mem_of_getElem? hc)
      have hnx := fun (h : c.toNat < 128) ty => next_l _ (w2.heap.size + 2) hs k c ty HR.out.hi hc h
      obtain ⟨g1, g2, g3, g4, g5⟩ := HR.out.after HR.out
      generalize putO _ (w2.heap.size + 2) (.stringIter ⟨hs.toArray⟩ (k + 1)) = W at *
      rcases h4 with rfl | rfl | rfl | rfl
      · have hnx := hnx (by decide)
        have hm := metw_a g1 g2
        have hv := hm.cell
        have hlk := hm.look
        have HFX := Lib.hid (HF.out i.a (by simp) W g4)
        have HP := Lib.hid HR.out.pos
        have G1 := Lib.hid g1
        have G2 := Lib.hid g2
        have G3 := Lib.hid g3
        have G4 := Lib.hid g4
        have G5 := Lib.hid g5
        have hsw := g4.size
        have HC := Lib.hid hc
        clear hm g1 g2 g3 g4 g5 HR hc
        go_wp2_with (first
          | (go_at_call 47; refine HFX.out.mono ?_; rintro e W1 ⟨rfl, hb⟩; have hs1 := hb.size; have HB := Lib.hid hb; clear hb)
          | (at_builtin; refine wpList_append_own _ rfl _ _ 22 rfl w.heap.size 9 i9 (.string ByteArray.empty) 1 16 Tryz.underlying22 g9 z90 z91 z92 rfl (by decide) _ _ _ rfl ((own_below G5.out HB.out).alloc _) ⟨W1.heap.size, 0, none⟩ 1 1 [str (Lib.itoa i.a)] rfl rfl ?c1 ?c2 ?c3 ?c4 ?c5 ?_))
        case c1 => exact one_cell W1 _ _
        case c2 => exact one_one _
        case c3 => unfold maxLen; omega
        case c4 => omega
        case c5 => simp; omega
        intro v' W2 hown hg _
        have HN := Lib.hid (word_step HC.out hNN G1.out G2.out G3.out G4.out G5.out HB.out hown hg)
        clear hown hg
        go_wp2
        go_roundw
        case rel => exact ⟨k + 1, by omega, HN.out⟩
        case measure => rw [HN.out.pos, HP.out]; omega
      · have hnx := hnx (by decide)
        have hm := metw_b g1 g2
        have hv := hm.cell
        have hlk := hm.look
        have HFX := Lib.hid (HF.out i.b (by simp) W g4)
        have HP := Lib.hid HR.out.pos
        have G1 := Lib.hid g1
        have G2 := Lib.hid g2
        have G3 := Lib.hid g3
        have G4 := Lib.hid g4
        have G5 := Lib.hid g5
        have hsw := g4.size
        have HC := Lib.hid hc
        clear hm g1 g2 g3 g4 g5 HR hc
        go_wp2_with (first
          | (go_at_call 47; refine HFX.out.mono ?_; rintro e W1 ⟨rfl, hb⟩; have hs1 := hb.size; have HB := Lib.hid hb; clear hb)
          | (at_builtin; refine wpList_append_own _ rfl _ _ 22 rfl w.heap.size 9 i9 (.string ByteArray.empty) 1 16 Tryz.underlying22 g9 z90 z91 z92 rfl (by decide) _ _ _ rfl ((own_below G5.out HB.out).alloc _) ⟨W1.heap.size, 0, none⟩ 1 1 [str (Lib.itoa i.b)] rfl rfl ?c1 ?c2 ?c3 ?c4 ?c5 ?_))
        case c1 => exact one_cell W1 _ _
        case c2 => exact one_one _
        case c3 => unfold maxLen; omega
        case c4 => omega
        case c5 => simp; omega
        intro v' W2 hown hg _
        have HN := Lib.hid (word_step HC.out hNN G1.out G2.out G3.out G4.out G5.out HB.out hown hg)
        clear hown hg
        go_wp2
        go_roundw
        case rel => exact ⟨k + 1, by omega, HN.out⟩
        case measure => rw [HN.out.pos, HP.out]; omega
      · have hnx := hnx (by decide)
        have hm := metw_c g1 g2
        have hv := hm.cell
        have hlk := hm.look
        have HFX := Lib.hid (HF.out i.c (by simp) W g4)
        have HP := Lib.hid HR.out.pos
        have G1 := Lib.hid g1
        have G2 := Lib.hid g2
        have G3 := Lib.hid g3
        have G4 := Lib.hid g4
        have G5 := Lib.hid g5
        have hsw := g4.size
        have HC := Lib.hid hc
        clear hm g1 g2 g3 g4 g5 HR hc
        go_wp2_with (first
          | (go_at_call 47; refine HFX.out.mono ?_; rintro e W1 ⟨rfl, hb⟩; have hs1 := hb.size; have HB := Lib.hid hb; clear hb)
          | (at_builtin; refine wpList_append_own _ rfl _ _ 22 rfl w.heap.size 9 i9 (.string ByteArray.empty) 1 16 Tryz.underlying22 g9 z90 z91 z92 rfl (by decide) _ _ _ rfl ((own_below G5.out HB.out).alloc _) ⟨W1.heap.size, 0, none⟩ 1 1 [str (Lib.itoa i.c)] rfl rfl ?c1 ?c2 ?c3 ?c4 ?c5 ?_))
        case c1 => exact one_cell W1 _ _
        case c2 => exact one_one _
        case c3 => unfold maxLen; omega
        case c4 => omega
        case c5 => simp; omega
        intro v' W2 hown hg _
        have HN := Lib.hid (word_step HC.out hNN G1.out G2.out G3.out G4.out G5.out HB.out hown hg)
        clear hown hg
        go_wp2
        go_roundw
        case rel => exact ⟨k + 1, by omega, HN.out⟩
        case measure => rw [HN.out.pos, HP.out]; omega
      · have hnx := hnx (by decide)
        have hm := metw_n g1 g2
        have hv := hm.cell
        have hlk := hm.look
        have HFX := Lib.hid (HF.out i.n (by simp) W g4)
        have HP := Lib.hid HR.out.pos
        have G1 := Lib.hid g1
        have G2 := Lib.hid g2
        have G3 := Lib.hid g3
        have G4 := Lib.hid g4
        have G5 := Lib.hid g5
        have hsw := g4.size
        have HC := Lib.hid hc
        clear hm g1 g2 g3 g4 g5 HR hc
        go_wp2_with (first
          | (go_at_call 47; refine HFX.out.mono ?_; rintro e W1 ⟨rfl, hb⟩; have hs1 := hb.size; have HB := Lib.hid hb; clear hb)
          | (at_builtin; refine wpList_append_own _ rfl _ _ 22 rfl w.heap.size 9 i9 (.string ByteArray.empty) 1 16 Tryz.underlying22 g9 z90 z91 z92 rfl (by decide) _ _ _ rfl ((own_below G5.out HB.out).alloc _) ⟨W1.heap.size, 0, none⟩ 1 1 [str (Lib.itoa i.n)] rfl rfl ?c1 ?c2 ?c3 ?c4 ?c5 ?_))
        case c1 => exact one_cell W1 _ _
        case c2 => exact one_one _
        case c3 => unfold maxLen; omega
        case c4 => omega
        case c5 => simp; omega
        intro v' W2 hown hg _
        have HN := Lib.hid (word_step HC.out hNN G1.out G2.out G3.out G4.out G5.out HB.out hown hg)
        clear hown hg
        go_wp2
        go_roundw
        case rel => exact ⟨k + 1, by omega, HN.out⟩
        case measure => rw [HN.out.pos, HP.out]; omega
    · obtain rfl : k = hs.length := by omega
      have hnx := fun ty => next_end _ (w2.heap.size + 2) hs ty HR.out.hi
      go_wp2
      go_ret
      exact own_words HR.out
theorem insWords_any (i : PIns) (w : World) (ho : HasO w) (ht : HasT w) (hi : OkI i) (h : rightL i = true) : Calls Tryz.prog 21 #[insV i] w (OwnS w (wordsI i)) := by
  unfold rightL at h
  rcases hb : byOpL i.op with _ | o
  · rw [hb] at h; cases h
  · exact wordsOf_some i o w ho ht hi hb
end Go.Proofs.YtcjhgibhenocpaaGreatDoor

/- A program as it lies; the contract of mayBePrinted. -/
namespace Go.Proofs.YtcjhgibhenocpaaGreatDoor
set_option linter.unusedSimpArgs false
set_option linter.unusedVariables false
open Go.RowKit

/-- A slice of instructions, wherever it lies. -/
def InsRow (w : World) (v : Value) (code : List PIns) : Prop :=
  ∃ a c, v = .slice a code.length c ∧ code.length ≤ c ∧ c ≤ maxLen ∧ ∀ j i, code[j]? = some i → ∃ b o, a = some ⟨b, o, none⟩ ∧ b < w.heap.size ∧ w.rangeAt b (o + j * 5) (insC i).toList
theorem rangeAt_below {w w' : World} {b o : Nat} {cs : List Value} (h : w.rangeAt b o cs) (hlt : b < w.heap.size) (hb : Below w.heap.size w w') : w'.rangeAt b o cs := fun j v hv => by
  rw [(bcell hb).1 b _ hlt]; exact h j v hv
theorem InsRow.below {w w' : World} {v : Value} {code : List PIns} (h : InsRow w v code) (hb : Below w.heap.size w w') : InsRow w' v code := by
  obtain ⟨a, c, rfl, h1, h2, h3⟩ := h
  refine ⟨a, c, rfl, h1, h2, fun j i hj => ?_⟩
  obtain ⟨b, o, rfl, hlt, hr⟩ := h3 j i hj
  exact ⟨b, o, rfl, Nat.lt_of_lt_of_le hlt hb.size, rangeAt_below hr hlt hb⟩
abbrev progC (vt : Value) (p : PProg) (vc : Value) : Array Value := #[vt, str p.locals, str p.globs, vc]
/-- A program, wherever it lies. -/
def ProgAt (w : World) (v : Value) (p : PProg) : Prop := ∃ vt vc, v = .agg (progC vt p vc) ∧ RowAt w vt (p.types.map str) ∧ InsRow w vc p.code
theorem ProgAt.below {w w' : World} {v : Value} {p : PProg} (h : ProgAt w v p) (hb : Below w.heap.size w w') : ProgAt w' v p := by
  obtain ⟨vt, vc, rfl, h1, h2⟩ := h
  exact ⟨vt, vc, rfl, h1.below hb, h2.below hb⟩
/-- What is so of any program. -/
structure OkP (p : PProg) : Prop where
  ty : ∀ t ∈ p.types, t.length ≤ maxLen
  lo : p.locals.length ≤ maxLen
  gl : p.globs.length ≤ maxLen
  ins : ∀ i ∈ p.code, OkI i
/-- A row of texts: its slice, and each of its cells. -/
theorem RowAt.elems {w : World} {v : Value} {xs : List Bs} (h : RowAt w v (xs.map str)) :
    ∃ a c, v = .slice a xs.length c ∧ xs.length ≤ c ∧ c ≤ maxLen ∧ ∀ j x, xs[j]? = some x → ∃ b o, a = some ⟨b, o, none⟩ ∧ b < w.heap.size ∧ w.cell? ⟨b, o + j, none⟩ = some (str x) := by
  obtain ⟨a, c, rfl, h1, h2, h3⟩ := h
  rw [List.length_map] at h1
  refine ⟨a, c, by rw [List.length_map], h1, h2, fun j x hx => ?_⟩
  rcases h3 with h3 | ⟨b, o, rfl, hb, hc⟩
  · have : xs = [] := by simpa using h3
    subst this; simp at hx
  · exact ⟨b, o, rfl, hb, hc j (str x) (by simp [hx])⟩
theorem prog_info : (Tryz.prog.info? 25).map (·.size) = some 4 := by kernel_rfl
theorem may_type {p : PProg} {k : Nat} {t : Bs} (h : p.types[k]? = some t) (hb : typeL t = false) : mayP p = false := by
  unfold mayP; rw [all_not h hb]; simp
theorem may_mid {p : PProg} (h : (areL p.locals && areL p.globs && decide (p.code.length ≤ 200)) = false) : mayP p = false := by
  unfold mayP; rw [h]; simp
theorem may_ins {p : PProg} {k : Nat} {i : PIns} (h : p.code[k]? = some i) (hb : rightL i = false) : mayP p = false := by
  unfold mayP; rw [all_not h hb]; simp
theorem may_all {p : PProg} (h1 : p.types.all typeL = true) (h2 : (areL p.locals && areL p.globs && decide (p.code.length ≤ 200)) = true) (h3 : p.code.all rightL = true) : mayP p = true := by
  unfold mayP; rw [h1, h2, h3]; rfl

set_option maxRecDepth 100000 in
set_option maxHeartbeats 1000000 in
theorem mayP_any (v : Value) (p : PProg) (w : World) (h : ProgAt w v p) (hs : OkP p) (ho : HasO w) : Calls Tryz.prog 19 #[v] w (AggPost w (.bool (mayP p))) := by
  obtain ⟨vt, vc, rfl, ht, hc⟩ := h
  have hwb : Below w.heap.size w (w.alloc (.cells (progC vt p vc) 25)) := (Below.refl _ _).alloc (Nat.le_refl _) _
  have HO := Lib.hid (ho.below hwb)
  obtain ⟨a, c, rfl, h1, h2, h3⟩ := (ht.below hwb).elems
  obtain ⟨a', c', rfl, g1, g2, g3⟩ := hc.below hwb
  have HT := Lib.hid h3
  have HI := Lib.hid g3
  have HP := Lib.hid hs
  have HWB := Lib.hid hwb
  have hmt := fun k t (h : p.types[k]? = some t) hb => may_type (p := p) h hb
  have hmm := may_mid (p := p)
  have hmi := fun k i (h : p.code[k]? = some i) hb => may_ins (p := p) h hb
  have hma := may_all (p := p)
  have HMT := Lib.hid hmt
  have HMM := Lib.hid hmm
  have HMI := Lib.hid hmi
  have HMA := Lib.hid hma
  generalize mayP p = R at *
  clear ho ht hc h3 g3 hs hwb hmt hmm hmi hma
  unfold maxLen at h2 g2
  go_enter Tryz.func19, Tryz.ntmps19
  go_wp2
  go_loop [10] (fun i => ∃ k : Nat, k ≤ p.types.length ∧ i = .int .i64 k ∧ Hid ((p.types.take k).all typeL = true)) (fun i => p.types.length - (intOf i).toNat)
  case atStart => exact ⟨0, Nat.zero_le _, rfl, Lib.hid (by simp)⟩
  case round =>
    obtain ⟨k, hk, rfl, hok⟩ := hrel
    by_cases hlt : k < p.types.length
    · obtain ⟨t, hx⟩ : ∃ t, p.types[k]? = some t := ⟨_, List.getElem?_eq_getElem hlt⟩
      obtain ⟨b, o, rfl, hb, hcell⟩ := HT.out k t hx
      have hl := HP.out.ty t (List.mem_of_getElem? hx)
      have HX := Lib.hid hx
      clear hx
      rcases hm : typeL t with _ | _
      · have HM := Lib.hid hm
        clear hm
        go_wp2_with (go_at_call 41; refine (typeL_b t false _ hl HM.out).mono ?_; rintro e w' ⟨rfl, rfl⟩)
        go_ret
        exact ⟨ret_bool (HMT.out k t HX.out HM.out).symm, HWB.out⟩
      · have HM := Lib.hid hm
        clear hm
        go_wp2_with (go_at_call 41; refine (typeL_b t true _ hl HM.out).mono ?_; rintro e w' ⟨rfl, rfl⟩)
        go_round
        case rel => exact ⟨k + 1, by omega, by go_num, Lib.hid (all_take_next hok.out HX.out HM.out)⟩
        case measure => simp [intOf]; omega
    · obtain rfl : k = p.types.length := by omega
      have hlo := HP.out.lo
      have hgl := HP.out.gl
      rcases h1 : areL p.locals with _ | _
      · have H1 := Lib.hid h1
        clear h1
        go_wp2_with (go_at_call 42; ((with_reducible refine (areL_b p.locals false _ hlo H1.out).mono ?_); rintro e w' ⟨rfl, rfl⟩))
        go_ret
        exact ⟨ret_bool (HMM.out (by rw [H1.out]; rfl)).symm, HWB.out⟩
      · have H1 := Lib.hid h1
        clear h1
        rcases h2 : areL p.globs with _ | _
        · have H2 := Lib.hid h2
          clear h2
          go_wp2_with (first | (go_at_call 42; ((with_reducible refine (areL_b p.locals true _ hlo H1.out).mono ?_); rintro e w' ⟨rfl, rfl⟩)) | (go_at_call 42; ((with_reducible refine (areL_b p.globs false _ hgl H2.out).mono ?_); rintro e w' ⟨rfl, rfl⟩)))
          go_ret
          exact ⟨ret_bool (HMM.out (by rw [H1.out, H2.out]; rfl)).symm, HWB.out⟩
        · have H2 := Lib.hid h2
          clear h2
          by_cases h200 : p.code.length ≤ 200
          · have H5 := Lib.hid h200
            have HM2 : Hid ((areL p.locals && areL p.globs && decide (p.code.length ≤ 200)) = true) := Lib.hid (by rw [H1.out, H2.out, decide_eq_true h200]; rfl)
            have HOK := Lib.hid (show p.types.all typeL = true from by have := hok.out; rwa [List.take_length] at this)
            clear hok
            go_wp2_with (first | (go_at_call 42; ((with_reducible refine (areL_b p.locals true _ hlo H1.out).mono ?_); rintro e w' ⟨rfl, rfl⟩)) | (go_at_call 42; ((with_reducible refine (areL_b p.globs true _ hgl H2.out).mono ?_); rintro e w' ⟨rfl, rfl⟩)))
            go_loopw [37] (fun i wr => ∃ k : Nat, k ≤ p.code.length ∧ i = .int .i64 k ∧ Hid ((p.code.take k).all rightL = true) ∧ Below (w.heap.size + 1) (w.alloc (.cells (progC (.slice a p.types.length c) p (.slice a' p.code.length c')) 25)) wr) (fun i _ => p.code.length - (intOf i).toNat)
            case atStart => exact ⟨0, Nat.zero_le _, rfl, Lib.hid (by simp), Below.refl _ _⟩
            case round =>
              obtain ⟨j, hj, rfl, hgo, hbel⟩ := hrel
              have hbs : w.heap.size + 1 ≤ wr.heap.size := by have := hbel.size; rw [World.size_alloc] at this; exact this
              have HBW := Lib.hid hbel
              have HO2 := Lib.hid ((HO.out.below (by rw [World.size_alloc]; exact hbel)).below ((Below.refl wr.heap.size wr).alloc (Nat.le_refl _) (.cells (insC ⟨0, 0, 0, 0, 0⟩) 60)))
              by_cases hlt : j < p.code.length
              · obtain ⟨i, hi⟩ : ∃ i, p.code[j]? = some i := ⟨_, List.getElem?_eq_getElem hlt⟩
                obtain ⟨b, o, rfl, hb, hcell⟩ := HI.out j i hi
                have hr := Lib.hid (rangeAt_below hcell hb (by rw [World.size_alloc]; exact hbel))
                have hoi := Lib.hid (HP.out.ins i (List.mem_of_getElem? hi))
                have HIx := Lib.hid hi
                have HO3 := Lib.hid ((HO.out.below (by rw [World.size_alloc]; exact hbel)).below ((Below.refl wr.heap.size wr).alloc (Nat.le_refl _) (.cells (insC i) 60)))
                clear hbel hb hcell hi HO2
                have HMX : Hid (rightL i = true ∨ rightL i = false) := Lib.hid (by cases rightL i <;> simp)
                rcases HMX.out with hm | hm
                · have HM := Lib.hid hm
                  clear hm HMX
                  go_wp2_with (first
                    | (refine wpList_load_mid rfl 60 _ rfl b (o + j * 5) rfl (insC i).toList _ hr.out Tryz.underlying60 rfl ins_info ?_)
                    | (go_at_call 43; refine (right_b i true _ HO3.out hoi.out HM.out).mono ?_; rintro e w1 ⟨rfl, hb1⟩; have HB1 := Lib.hid hb1; clear hb1))
                  go_roundw
                  case rel => exact ⟨j + 1, by omega, by go_num, Lib.hid (all_take_next hgo.out HIx.out HM.out), (HBW.out.alloc hbs _).trans (HB1.out.mono (by simp; omega))⟩
                  case measure => simp [intOf]; omega
                · have HM := Lib.hid hm
                  clear hm HMX
                  go_wp2_with (first
                    | (refine wpList_load_mid rfl 60 _ rfl b (o + j * 5) rfl (insC i).toList _ hr.out Tryz.underlying60 rfl ins_info ?_)
                    | (go_at_call 43; refine (right_b i false _ HO3.out hoi.out HM.out).mono ?_; rintro e w1 ⟨rfl, hb1⟩; have HB1 := Lib.hid hb1; clear hb1))
                  go_ret
                  exact ⟨ret_bool (HMI.out j i HIx.out HM.out).symm, HWB.out.trans ((((Below.refl _ _).trans HBW.out).alloc hbs _ |>.trans (HB1.out.mono (by simp; omega))).mono (by omega))⟩
              · obtain rfl : j = p.code.length := by omega
                go_wp2
                go_ret
                exact ⟨ret_bool (HMA.out HOK.out HM2.out (by have := hgo.out; rwa [List.take_length] at this)).symm, HWB.out.trans (HBW.out.mono (by omega))⟩
          · go_wp2_with (first | (go_at_call 42; ((with_reducible refine (areL_b p.locals true _ hlo H1.out).mono ?_); rintro e w' ⟨rfl, rfl⟩)) | (go_at_call 42; ((with_reducible refine (areL_b p.globs true _ hgl H2.out).mono ?_); rintro e w' ⟨rfl, rfl⟩)))
            go_ret
            exact ⟨ret_bool (HMM.out (by rw [H1.out, H2.out, decide_eq_false h200]; rfl)).symm, HWB.out⟩
end Go.Proofs.YtcjhgibhenocpaaGreatDoor
