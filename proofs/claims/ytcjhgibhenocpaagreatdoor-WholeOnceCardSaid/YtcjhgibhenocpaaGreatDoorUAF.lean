/-
  The contract of Right.
  Decimal numbers: what the document calls so; the contract of isDecimal.
-/
import Derived.Test.YtcjhgibhenocpaaGreatDoorUAE
import Derived.Laws.RangeAny
import Derived.Test.YtcjhgibhenocpaaGreatDoorUAA
import Derived.Test.YtcjhgibhenocpaaGreatDoorShelf

/- The contract of Right. -/
namespace Go.Proofs.YtcjhgibhenocpaaGreatDoor
set_option linter.unusedSimpArgs false
set_option linter.unusedVariables false
open Go.RowKit

/-- What a round of a range over an operation's letters finds. -/
structure RRel (w : World) (N : Nat) (hs : Bs) (cs : Array Value) (k : Nat) (wr : World) : Prop where
  hn : blk wr N cs 94
  hm : wr.heap[N + 1]? = some placesO
  hi : wr.heap[N + 2]? = some (.stringIter ⟨hs.toArray⟩ k)
  hb : Below w.heap.size w wr
  hN : w.heap.size ≤ N
theorem RRel.next {w wr : World} {N : Nat} {hs : Bs} {cs cs' : Array Value} {k : Nat} (h : RRel w N hs cs k wr) :
    RRel w N hs cs' (k + 1) (putB (putO wr (N + 2) (.stringIter ⟨hs.toArray⟩ (k + 1))) N cs' 94) := by
  have h2 : N + 2 < wr.heap.size := (Array.getElem?_eq_some_iff.1 h.hi).1
  have hn : blk (putO wr (N + 2) (.stringIter ⟨hs.toArray⟩ (k + 1))) N cs 94 := by unfold blk; rw [putO_ne _ (by omega)]; exact h.hn
  refine ⟨putB_at hn _ _, ?_, ?_, ?_, h.hN⟩
  · rw [putB_ne _ (by omega), putO_ne _ (by omega)]; exact h.hm
  · rw [putB_ne _ (by omega), putO_at h2]
  · exact (h.hb.trans (putO_below _ (by have := h.hN; omega) _)).trans (putB_below _ h.hN _ _)
theorem RRel.after {w wr : World} {N : Nat} {hs : Bs} {cs : Array Value} {k : Nat} (h : RRel w N hs cs k wr) :
    blk (putO wr (N + 2) (.stringIter ⟨hs.toArray⟩ (k + 1))) N cs 94 ∧ (putO wr (N + 2) (.stringIter ⟨hs.toArray⟩ (k + 1))).heap[N + 1]? = some placesO :=
  ⟨by unfold blk; rw [putO_ne _ (by omega)]; exact h.hn, by rw [putO_ne _ (by omega)]; exact h.hm⟩
theorem RRel.pos {w wr : World} {N : Nat} {hs : Bs} {cs : Array Value} {k : Nat} (h : RRel w N hs cs k wr) : wr.iterPos (N + 2) = k := by
  unfold World.iterPos; rw [h.hi]
/-- The four letters, as the walk meets them. -/
structure Met (W : World) (N : Nat) (p : Nat) (c : Int) : Prop where
  look : (Instr.lookup 96 (.map (some (N + 1))) (.int .i32 c) false).run Tryz.prog W = .ok (.int .i64 p) W
  cell : ∃ v, W.cell? ⟨N, p, none⟩ = some v
  frz : W.frozen? ⟨N, p, none⟩ = false
theorem met_a {W : World} {N : Nat} {j : PIns} (hb : blk W N (numC j) 94) (hm : W.heap[N + 1]? = some placesO) : Met W N 0 65 :=
  ⟨map_get W (N + 1) hm 65 (by simp), ⟨_, blk_cell hb 0 _ rfl⟩, blk_frozen hb 0⟩
theorem met_b {W : World} {N : Nat} {j : PIns} (hb : blk W N (numC j) 94) (hm : W.heap[N + 1]? = some placesO) : Met W N 1 66 :=
  ⟨map_get W (N + 1) hm 66 (by simp), ⟨_, blk_cell hb 1 _ rfl⟩, blk_frozen hb 1⟩
theorem met_c {W : World} {N : Nat} {j : PIns} (hb : blk W N (numC j) 94) (hm : W.heap[N + 1]? = some placesO) : Met W N 2 67 :=
  ⟨map_get W (N + 1) hm 67 (by simp), ⟨_, blk_cell hb 2 _ rfl⟩, blk_frozen hb 2⟩
theorem met_n {W : World} {N : Nat} {j : PIns} (hb : blk W N (numC j) 94) (hm : W.heap[N + 1]? = some placesO) : Met W N 3 78 :=
  ⟨map_get W (N + 1) hm 78 (by simp), ⟨_, blk_cell hb 3 _ rfl⟩, blk_frozen hb 3⟩
theorem clear_snoc (i : PIns) (hs : Bs) (c : UInt8) : clearL i (hs ++ [c]) = setL (clearL i hs) c 0 := by
  induction hs generalizing i with
  | nil => rfl
  | cons a r ih => show clearL (setL i a 0) (r ++ [c]) = setL (clearL (setL i a 0) r) c 0; rw [ih]
theorem clear_next (i : PIns) (hs : Bs) (k : Nat) (c : UInt8) (h : hs[k]? = some c) : clearL i (hs.take (k + 1)) = setL (clearL i (hs.take k)) c 0 := by
  obtain ⟨hlt, rfl⟩ := List.getElem?_eq_some_iff.1 h
  rw [List.take_succ_eq_append_getElem hlt, clear_snoc]
theorem eq_nums (j : PIns) (w : World) : (Op.equalIn 10000 94 (.agg (numC j)) (.agg #[.int .i64 0, .int .i64 0, .int .i64 0, .int .i64 0])).run Tryz.prog w = .ok (zeroI j) w := by
  obtain ⟨x, a, b, c, n⟩ := j
  have u3 := Tryz.underlying2
  have a3 := Tryz.isAgg2
  have z3 := Tryz.sizeOf2
  rw [show (10000 : Nat) = 9999 + 1 from rfl, Op.equalIn]
  simp only [Sem.run_bind, run_underlying Tryz.underlying94, Result.andThen_ok]
  simp only [Std.Legacy.Range.forIn_eq_forIn_range', Std.Legacy.Range.size, Nat.sub_zero, Nat.add_sub_cancel, Nat.div_one, List.range'_succ, List.range'_zero, List.forIn_cons, List.forIn_nil]
  go_simp
  unfold zeroI
  by_cases h1 : a = 0 <;> by_cases h2 : b = 0 <;> by_cases h3 : c = 0 <;> by_cases h4 : n = 0 <;> simp [h1, h2, h3, h4]

set_option maxRecDepth 100000 in
set_option maxHeartbeats 4000000 in
theorem right_none (i : PIns) (w : World) (ho : HasO w) (_hi : OkI i) (h : byOpL i.op = none) : Calls Tryz.prog 43 #[insV i] w (AggPost w (.bool false)) := by
  have HOP : Hid (∀ w', Below w.heap.size w w' → Calls Tryz.prog 44 #[.int .u8 i.op] w' (OpPost w' none)) := Lib.hid fun w' hb => by have := byOp_any i.op w' (ho.below hb); rw [h] at this; exact this
  clear ho h _hi
  obtain ⟨x, a, b, c, n⟩ := i
  simp only at *
  go_enter Tryz.func43, Tryz.ntmps43
  go_wp2_with (go_at_call 44; refine (HOP.out _ ((Below.refl _ _).alloc (Nat.le_refl _) _)).mono ?_; rintro e w1 ⟨rfl, hb1⟩)
  go_ret
  have s1 := hb1.size
  rw [World.size_alloc] at hb1 s1
  exact ⟨rfl, (((Below.refl _ _).alloc (Nat.le_refl _) _).trans (hb1.mono (by omega))).alloc (by omega) _⟩

set_option maxRecDepth 100000 in
set_option maxHeartbeats 4000000 in
theorem right_some (i : PIns) (o : Int × Bs × Bs) (w : World) (ho : HasO w) (hi : OkI i) (h : byOpL i.op = some o) : Calls Tryz.prog 43 #[insV i] w (AggPost w (.bool (zeroI (clearL i o.2.2)))) := by
  have HOP : Hid (∀ w', Below w.heap.size w w' → Calls Tryz.prog 44 #[.int .u8 i.op] w' (OpPost w' (some o))) := Lib.hid fun w' hb => by have := byOp_any i.op w' (ho.below hb); rw [h] at this; exact this
  have HNUM : Hid (∀ w', Calls Tryz.prog 45 #[insV i] w' (AggPost w' (.agg (numC i)))) := Lib.hid fun w' => numbersOf_any i w' hi
  have H4 := Lib.hid (four_ops (byOp_mem h).1)
  have HI := Lib.hid hi
  clear ho h hi
  go_enter Tryz.func43, Tryz.ntmps43
  go_wp2_with (first
    | (go_at_call 44; refine (HOP.out _ ((Below.refl _ _).alloc (Nat.le_refl _) _)).mono ?_; rintro e w1 ⟨rfl, hb1⟩; have k1 := Lib.hid (blk_below (blk_new w (insC i) 60) hb1); have s1 := hb1.size; rw [World.size_alloc] at s1; have HB1 := Lib.hid hb1; clear hb1)
    | (refine wpList_loadB rfl 60 _ rfl w.heap.size (insC i) rfl 60 (blk_alloc k1.out _) _ Tryz.underlying60 rfl ins_info ?_)
    | (go_at_call 45; refine (HNUM.out _).mono ?_; rintro e w2 ⟨rfl, hb2⟩; have k2 := Lib.hid (blk_below (blk_new w1 (opCells o).toArray 90) hb2); have s2 := hb2.size; rw [World.size_alloc] at s2; have HB2 := Lib.hid hb2; clear hb2)
    | (go_at_call 46; refine (places_any _).mono ?_; rintro e w3 ⟨rfl, rfl⟩; have k3 : ((w2.alloc (.cells (numC i) 94)).alloc placesO).cell? ⟨w1.heap.size, 2, none⟩ = some (str o.2.2) := blk_cell (blk_alloc (blk_alloc k2.out _) _) 2 _ rfl))
  have HS := Lib.hid (show RRel w w2.heap.size o.2.2 (numC (clearL i (o.2.2.take 0))) 0 (((w2.alloc (.cells (numC i) 94)).alloc placesO).iter ⟨o.2.2.toArray⟩ 0) from
    ⟨blk_alloc (blk_alloc (blk_new _ _ _) _) _, by
      have h1 := heap_alloc_new (w2.alloc (.cells (numC i) 94)) placesO
      rw [World.size_alloc] at h1
      show (World.alloc _ _).heap[_]? = _
      rw [Below.heap_alloc _ _ _ (by simp)]; exact h1, by
      have h1 := heap_alloc_new ((w2.alloc (.cells (numC i) 94)).alloc placesO) (.stringIter ⟨o.2.2.toArray⟩ 0)
      rw [World.size_alloc, World.size_alloc] at h1
      exact h1, by
      have h1 := HB1.out
      have h2 := HB2.out
      rw [World.size_alloc] at h1 h2
      exact ((((((Below.refl _ _).alloc (Nat.le_refl _) _).trans (h1.mono (by omega))).alloc (by omega) _).trans (h2.mono (by omega))).alloc (by omega) _).alloc (by simp; omega) _ |>.alloc (by simp; omega) _, by omega⟩)
  clear k1 k2 k3 HB1 HB2
  generalize o.2.2 = hs at *
  go_loopw [] (fun wr => ∃ k : Nat, k ≤ hs.length ∧ RRel w w2.heap.size hs (numC (clearL i (hs.take k))) k wr) (fun wr => hs.length - wr.iterPos (w2.heap.size + 2))
  case atStart => exact ⟨0, by omega, HS.out⟩
  case round =>
    obtain ⟨k, hk, hr⟩ := hrel
    clear HS
    have HR := Lib.hid hr
    clear hr
    by_cases hlt : k < hs.length
    · obtain ⟨c, hc⟩ : ∃ c, hs[k]? = some c := ⟨_, List.getElem?_eq_getElem hlt⟩
      have hn := clear_next i hs k c hc
      have h4 := H4.out c (List.mem_of_getElem? hc)
      have hnx := fun (h : c.toNat < 128) ty => next_l wr (w2.heap.size + 2) hs k c ty HR.out.hi hc h
      have hst := HR.out.after
      have hnr := fun cs' => HR.out.next (cs' := cs')
      generalize clearL i (hs.take k) = j at *
      generalize putO wr (w2.heap.size + 2) (.stringIter ⟨hs.toArray⟩ (k + 1)) = W at *
      rcases h4 with rfl | rfl | rfl | rfl
      · have hnx := hnx (by decide)
        have hm := met_a hst.1 hst.2
        obtain ⟨v, hv⟩ := hm.cell
        have hfz := hm.frz
        have hlk := hm.look
        have HN := Lib.hid (show RRel w w2.heap.size hs (numC (clearL i (hs.take (k + 1)))) (k + 1) (W.setCell ⟨w2.heap.size, 0, none⟩ (.int .i64 0)) from by
          rw [hn, setCell_putB hst.1]; exact hnr _)
        have HP := Lib.hid HR.out.pos
        clear hm hst hnr hn HR
        go_wp2
        go_roundw
        case rel => exact ⟨k + 1, by omega, HN.out⟩
        case measure => rw [HN.out.pos, HP.out]; omega
      · have hnx := hnx (by decide)
        have hm := met_b hst.1 hst.2
        obtain ⟨v, hv⟩ := hm.cell
        have hfz := hm.frz
        have hlk := hm.look
        have HN := Lib.hid (show RRel w w2.heap.size hs (numC (clearL i (hs.take (k + 1)))) (k + 1) (W.setCell ⟨w2.heap.size, 1, none⟩ (.int .i64 0)) from by
          rw [hn, setCell_putB hst.1]; exact hnr _)
        have HP := Lib.hid HR.out.pos
        clear hm hst hnr hn HR
        go_wp2
        go_roundw
        case rel => exact ⟨k + 1, by omega, HN.out⟩
        case measure => rw [HN.out.pos, HP.out]; omega
      · have hnx := hnx (by decide)
        have hm := met_c hst.1 hst.2
        obtain ⟨v, hv⟩ := hm.cell
        have hfz := hm.frz
        have hlk := hm.look
        have HN := Lib.hid (show RRel w w2.heap.size hs (numC (clearL i (hs.take (k + 1)))) (k + 1) (W.setCell ⟨w2.heap.size, 2, none⟩ (.int .i64 0)) from by
          rw [hn, setCell_putB hst.1]; exact hnr _)
        have HP := Lib.hid HR.out.pos
        clear hm hst hnr hn HR
        go_wp2
        go_roundw
        case rel => exact ⟨k + 1, by omega, HN.out⟩
        case measure => rw [HN.out.pos, HP.out]; omega
      · have hnx := hnx (by decide)
        have hm := met_n hst.1 hst.2
        obtain ⟨v, hv⟩ := hm.cell
        have hfz := hm.frz
        have hlk := hm.look
        have HN := Lib.hid (show RRel w w2.heap.size hs (numC (clearL i (hs.take (k + 1)))) (k + 1) (W.setCell ⟨w2.heap.size, 3, none⟩ (.int .i64 0)) from by
          rw [hn, setCell_putB hst.1]; exact hnr _)
        have HP := Lib.hid HR.out.pos
        clear hm hst hnr hn HR
        go_wp2
        go_roundw
        case rel => exact ⟨k + 1, by omega, HN.out⟩
        case measure => rw [HN.out.pos, HP.out]; omega
    · obtain rfl : k = hs.length := by omega
      have hnx := fun ty => next_end wr (w2.heap.size + 2) hs ty HR.out.hi
      rw [List.take_length] at HR
      generalize clearL i hs = j at *
      have heq := eq_nums j wr
      go_wp2_with (refine wpList_loadB rfl 94 _ rfl w2.heap.size (numC j) rfl 94 HR.out.hn _ Tryz.underlying94 rfl nums_info ?_)
      go_ret
      exact ⟨rfl, HR.out.hb⟩
theorem right_any (i : PIns) (w : World) (ho : HasO w) (hi : OkI i) : Calls Tryz.prog 43 #[insV i] w (AggPost w (.bool (rightL i))) := by
  rcases h : byOpL i.op with _ | o
  · have e : rightL i = false := by unfold rightL; rw [h]
    rw [e]; exact right_none i w ho hi h
  · have e : rightL i = zeroI (clearL i o.2.2) := by unfold rightL; rw [h]
    rw [e]; exact right_some i o w ho hi h
theorem right_b (i : PIns) (b : Bool) (w : World) (ho : HasO w) (hi : OkI i) (h : rightL i = b) : Calls Tryz.prog 43 #[insV i] w (AggPost w (.bool b)) := by
  subst h; exact right_any i w ho hi
end Go.Proofs.YtcjhgibhenocpaaGreatDoor

/- Decimal numbers: what the document calls so; the contract of isDecimal. -/
namespace Go.Proofs.YtcjhgibhenocpaaGreatDoor
set_option linter.unusedSimpArgs false
set_option linter.unusedVariables false
open Go.RowKit


theorem trim_eq (l : Bs) : Lib.trimPrefix l [45] = trimL l := by
  cases l with
  | nil => rfl
  | cons c r =>
    unfold Lib.trimPrefix trimL
    by_cases h : c = 45
    · subst h; simp [Lib.hasPrefix]
    · have e1 : Lib.hasPrefix (c :: r) [45] = false := by
        rw [Bool.eq_false_iff]; intro e; simp [Lib.hasPrefix] at e; exact h (by first | exact e | exact e.symm)
      simp only [e1, if_neg h]; rfl

theorem trim_any (s : ByteArray) (w : World) : Calls Tryz.prog 171 #[.string s, .string ⟨#[45]⟩] w fun e w' => e = .returned (str (trimL s.data.toList)) ∧ w = w' := by
  refine (Tryz.strings_TrimPrefix s ⟨#[45]⟩ w).mono ?_
  rintro e w' ⟨rfl, rfl⟩
  rw [show (⟨#[45]⟩ : ByteArray).data.toList = [45] from rfl, trim_eq]
  exact ⟨rfl, rfl⟩

/-- The first k bytes are digits. -/
def DigTo (s : ByteArray) (k : Nat) : Prop := ∀ c ∈ s.data.toList.take k, digC c = true
theorem DigTo.next {s : ByteArray} {k : Nat} (h : DigTo s k) (hk : k < s.size) (hc : digC s[k] = true) : DigTo s (k + 1) := by
  intro c hm
  rw [take_snoc s k hk] at hm
  rcases List.mem_append.1 hm with h' | h'
  · exact h c h'
  · simp at h'; subst h'; exact hc
theorem digTo_zero (s : ByteArray) : DigTo s 0 := by intro c h; simp at h
theorem DigTo.all {s : ByteArray} (h : DigTo s s.size) : s.data.toList.all digC = true := by
  have e : s.data.toList.take s.size = s.data.toList := List.take_of_length_le (by rw [len_size]; exact Nat.le_refl _)
  rw [DigTo, e] at h
  exact List.all_eq_true.2 h
theorem not_dig {s : ByteArray} {k : Nat} (hk : k < s.size) (hc : digC s[k] = false) : s.data.toList.all digC = false := by
  rw [Bool.eq_false_iff]
  intro h
  have := List.all_eq_true.1 h s[k] (by
    have : s[k] = s.data.toList[k]'(by simpa using hk) := rfl
    rw [this]; exact List.getElem_mem _)
  rw [hc] at this
  exact absurd this (by decide)
theorem digC_cases (c : UInt8) : ((48 ≤ (c.toNat : Int) ∧ (c.toNat : Int) ≤ 57) ∧ digC c = true) ∨ (((c.toNat : Int) < 48 ∨ 57 < (c.toNat : Int)) ∧ digC c = false) := by
  by_cases h2 : 48 ≤ c.toNat ∧ c.toNat ≤ 57
  · left; refine ⟨by omega, ?_⟩; simp [digC, h2.1, h2.2]
  · right; refine ⟨by omega, ?_⟩
    simp only [digC, Bool.and_eq_false_iff, decide_eq_false_iff_not]
    omega
theorem ba_empty {d : ByteArray} (h : d.size = 0) : d = ⟨#[]⟩ := by
  obtain ⟨a⟩ := d
  congr 1
  exact Array.eq_empty_of_size_eq_zero h
theorem head_of {d : ByteArray} (h : 0 < d.size) : d.data.toList.head? = some d[0] := by
  rw [List.head?_eq_getElem?, List.getElem?_eq_getElem (by rw [len_size]; exact h)]
  rfl

/-- What isDecimal answers of digits d of the text s. -/
def decOf (s d : ByteArray) : Bool := !d.data.toList.isEmpty && d.data.toList.all digC && (d.data.toList.head? != some 48 || s.data.toList == [48])

theorem not_empty {d : ByteArray} (h : 0 < d.size) : d.data.toList.isEmpty = false := by
  rw [Bool.eq_false_iff]; intro e
  have := len_size d
  rw [List.isEmpty_iff.1 e] at this
  simp at this; omega
theorem dec_zero {s d : ByteArray} (h : 0 < d.size) (ha : d.data.toList.all digC = true) (h0 : (d[0].toNat : Int) = 48) : (s.toList == [48]) = decOf s d := by
  have e : d[0] = 48 := UInt8.toNat_inj.1 (by have : d[0].toNat = 48 := by omega
                                              rw [this]; rfl)
  unfold decOf
  rw [not_empty h, ha, head_of h, e, ByteArray.toList_eq]; simp
theorem dec_more {s d : ByteArray} (h : 0 < d.size) (ha : d.data.toList.all digC = true) (h0 : ¬ (d[0].toNat : Int) = 48) : true = decOf s d := by
  have e : d[0] ≠ 48 := fun e => h0 (by rw [e]; rfl)
  unfold decOf
  rw [not_empty h, ha, head_of h]; simp [e]

set_option maxRecDepth 100000 in
set_option maxHeartbeats 2000000 in
theorem isDecimal_walk (s d : ByteArray) (w : World) (hd : d.size ≤ maxLen) (H : Calls Tryz.prog 171 #[.string s, .string ⟨#[45]⟩] w fun e w' => e = .returned (.string d) ∧ w = w') :
    Calls Tryz.prog 143 #[.string s] w fun e w' => e = .returned (.bool (decOf s d)) ∧ w = w' := by
  unfold maxLen at hd
  by_cases h0 : d.size = 0
  · have := ba_empty h0
    subst this
    clear h0
    go_enter Tryz.func143, Tryz.ntmps143
    go_wp2_with (go_at_call 171; refine H.mono ?_; rintro e w' ⟨rfl, rfl⟩)
    go_ret
    exact ⟨rfl, rfl⟩
  · have hpos : 0 < d.size := by omega
    have hl : d.toList.isEmpty = false := by
      rw [ByteArray.toList_eq, Bool.eq_false_iff]; intro e
      have := len_size d
      rw [List.isEmpty_iff.1 e] at this
      simp at this; omega
    have HL := Lib.hid hl
    go_enter Tryz.func143, Tryz.ntmps143
    go_wp2_with (go_at_call 171; refine H.mono ?_; rintro e w' ⟨rfl, rfl⟩)
    clear hl
    go_loop [11] (fun i => ∃ k : Nat, k ≤ d.size ∧ i = .int .i64 k ∧ DigTo d k) (fun i => d.size - (intOf i).toNat)
    case atStart => exact ⟨0, Nat.zero_le _, rfl, digTo_zero d⟩
    case round =>
      obtain ⟨k, hk, rfl, hok⟩ := hrel
      by_cases hlt : k < d.size
      · rcases digC_cases d[k] with ⟨⟨h1, h2⟩, hc⟩ | ⟨h1, hc⟩
        · have HC := Lib.hid hc
          clear hc
          go_wp2_with (go_at_call 142; refine (isDigit_t _ _ (by assumption) (by assumption)).mono ?_; rintro e w' ⟨rfl, rfl⟩)
          go_round
          case rel => exact ⟨k + 1, by omega, by go_num, hok.next hlt HC.out⟩
          case measure => simp [intOf]; omega
        · have HC := Lib.hid hc
          clear hc
          go_wp2_with (go_at_call 142; refine (isDigit_f _ _ (by assumption)).mono ?_; rintro e w' ⟨rfl, rfl⟩)
          go_ret
          exact ⟨ret_bool (by unfold decOf; rw [not_dig hlt HC.out]; simp), rfl⟩
      · obtain rfl : k = d.size := by omega
        have HA := Lib.hid hok.all
        have HH := Lib.hid (head_of hpos)
        go_wp2
        · go_ret
          exact ⟨ret_bool (dec_zero hpos HA.out (by assumption)), rfl⟩
        · go_ret
          exact ⟨ret_bool (dec_more hpos HA.out (by assumption)), rfl⟩

theorem trimL_le (l : Bs) : (trimL l).length ≤ l.length := by
  cases l with
  | nil => exact Nat.le_refl _
  | cons c r =>
    show (if c = 45 then r else c :: r).length ≤ _
    split <;> simp
theorem isDecimal_any (s : ByteArray) (w : World) (hs : s.size ≤ maxLen) : Calls Tryz.prog 143 #[.string s] w fun e w' => e = .returned (.bool (decL s.data.toList)) ∧ w = w' :=
  isDecimal_walk s ⟨(trimL s.data.toList).toArray⟩ w (by rw [bs_size]; have := trimL_le s.data.toList; rw [len_size] at this; omega) (trim_any s w)
theorem isDecimal_t (s : ByteArray) (w : World) (hs : s.size ≤ maxLen) (h : Hid (decL s.data.toList = true)) : Calls Tryz.prog 143 #[.string s] w fun e w' => e = .returned (.bool true) ∧ w = w' :=
  (isDecimal_any s w hs).mono fun e w' ⟨h1, h2⟩ => ⟨by rw [h1, h.out], h2⟩
theorem isDecimal_f (s : ByteArray) (w : World) (hs : s.size ≤ maxLen) (h : Hid (decL s.data.toList = false)) : Calls Tryz.prog 143 #[.string s] w fun e w' => e = .returned (.bool false) ∧ w = w' :=
  (isDecimal_any s w hs).mono fun e w' ⟨h1, h2⟩ => ⟨by rw [h1, h.out], h2⟩

/-- What Number answers. -/
def NumPost (w : World) (r : Int × Nat) (e : Ending) (w' : World) : Prop := e = .returned (.tuple #[.int .i64 r.1, .int .i64 r.2]) ∧ Below w.heap.size w w'

theorem number_form (s : ByteArray) (w : World) (hs : s.size ≤ maxLen) (h : Hid (decL s.data.toList = false)) : Calls Tryz.prog 97 #[.string s] w (NumPost w (0, 4)) := by
  go_enter Tryz.func97, Tryz.ntmps97
  go_wp2_with (go_at_call 143; refine (isDecimal_f s _ hs h).mono ?_; rintro e w' ⟨rfl, rfl⟩)
  go_ret2
  exact ⟨rfl, Below.refl _ _⟩

theorem below_bytes (w : World) (t : ByteArray) : Below w.heap.size w (Lib.bytesWorld w 5 t) := Lib.bytesWorld_below w 5 t
def IntPost (w : World) (v : Int) (e : Ending) (w' : World) : Prop := e = .returned (.tuple #[.int .i64 v, .nilIface]) ∧ Below w.heap.size w w'
theorem parse_ok (s : ByteArray) (v : Int) (w : World) (hs : s.size ≤ maxLen - 1) (hp : Lib.parseIntB 64 s.data.toList = .ok v) : Calls Tryz.prog 144 #[.string s, .int .i64 10, .int .i64 64] w (IntPost w v) := by
  unfold maxLen at hs
  refine (Tryz.strconv_ParseInt_10_at64_ok s (by omega) v hp w).mono ?_
  rintro e w' ⟨rfl, h⟩
  refine ⟨rfl, ?_⟩
  rcases h with rfl | ⟨t, rfl⟩
  · exact Below.refl _ _
  · exact below_bytes w t
theorem number_ok (s : ByteArray) (v : Int) (w : World) (hs : s.size ≤ maxLen - 1) (h : Hid (decL s.data.toList = true)) (hp : Lib.parseIntB 64 s.data.toList = .ok v) : Calls Tryz.prog 97 #[.string s] w (NumPost w (v, 0)) := by
  have HP := parse_ok s v w hs hp
  have hs' : s.size ≤ maxLen := by omega
  clear hp
  go_enter Tryz.func97, Tryz.ntmps97
  go_wp2_with (first | (go_at_call 143; refine (isDecimal_t s _ hs' h).mono ?_; rintro e w' ⟨rfl, rfl⟩) | (go_at_call 144; refine HP.mono ?_; rintro e w1 ⟨rfl, hb⟩))
  go_ret2
  exact ⟨rfl, hb⟩
end Go.Proofs.YtcjhgibhenocpaaGreatDoor
