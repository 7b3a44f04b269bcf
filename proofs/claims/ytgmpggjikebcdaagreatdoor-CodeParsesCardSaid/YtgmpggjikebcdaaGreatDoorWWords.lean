/-
  The contract of wordsOf: the words of one line, in a row of their own.
-/
import Derived.Test.YtgmpggjikebcdaaGreatDoorWRows
import Derived.Test.YtgmpggjikebcdaaGreatDoorShelf
import Derived.Deep.QuietTactic
namespace Go.Proofs.YtgmpggjikebcdaaGreatDoor
open Go.RowKit

/-- The library's variable that is read. -/
def HasM (w : World) : Prop := ∃ m : Int, w.cell? ⟨2, 0, none⟩ = some (.int .i64 m)
theorem HasM.lt {w : World} (h : HasM w) : 2 < w.heap.size := by obtain ⟨m, h⟩ := h; exact World.block_lt_of_cell? _ _ h
theorem HasM.below {w w' : World} (h : HasM w) (hb : Below w.heap.size w w') : HasM w' := by
  have := h.lt
  obtain ⟨m, h⟩ := h
  exact ⟨m, by rw [(bcell hb).1 2 0 this]; exact h⟩

theorem below_drewN (w : World) (n : Nat) : Below w.heap.size w (w.drewN n) := ⟨rfl, rfl, rfl, Nat.le_refl _, fun _ _ => rfl⟩
def CutPost (w : World) (x : Bs) (e : Ending) (w' : World) : Prop := ∃ (y : ByteArray) (z : Bool), e = .returned (.tuple #[str x, .string y, .bool z]) ∧ w'.heap = w.heap ∧ Below w.heap.size w w'
theorem cut_any (s : ByteArray) (w : World) (hs : s.size ≤ 20000) (hm : HasM w) : Calls Tryz.prog 57 #[.string s, .string ⟨#[35]⟩] w (CutPost w (s.data.toList.takeWhile (fun c => c != 35))) := by
  obtain ⟨m, hm⟩ := hm
  refine (Tryz.strings_Cut s ⟨#[35]⟩ m w (by omega) hm).mono ?_
  rintro e w' ⟨rfl, n, rfl⟩
  have := cut_hash s.data.toList
  refine ⟨⟨(Lib.cut s.data.toList [35]).2.1.toArray⟩, (Lib.cut s.data.toList [35]).2.2, ?_, by simp, below_drewN w n⟩
  rw [← this]

theorem split_any (c : UInt8) (x : Bs) (w : World) (hs : x.length ≤ 20000) (hm : HasM w) : Calls Tryz.prog 43 #[str x, .string ⟨#[c]⟩] w fun e w' =>
    e = .returned (.slice (some ⟨w.heap.size, 0, none⟩) (splitL c x).length (splitL c x).length) ∧ w' = w.alloc (.cells ((splitL c x).map str).toArray 9) := by
  obtain ⟨m, hm⟩ := hm
  refine (Tryz.strings_Split ⟨x.toArray⟩ ⟨#[c]⟩ m w (by rw [bs_size]; omega) hm (Nat.le_refl 1)).mono ?_
  rintro e w' ⟨rfl, rfl⟩
  rw [count_pieces c ⟨x.toArray⟩, split_cells c ⟨x.toArray⟩]
  exact ⟨rfl, rfl⟩

/-- The words of the first k pieces. -/
def wsTo (ps : List Bs) (k : Nat) : List Bs := (ps.take k).filter (fun w => !w.isEmpty)
theorem wsTo_keep {ps : List Bs} {k : Nat} {p : Bs} (h : ps[k]? = some p) (hp : p ≠ []) : wsTo ps (k + 1) = wsTo ps k ++ [p] := by
  obtain ⟨hlt, rfl⟩ := List.getElem?_eq_some_iff.1 h
  unfold wsTo
  rw [List.take_succ_eq_append_getElem hlt, List.filter_append]
  congr 1
  simp [hp]
theorem wsTo_drop {ps : List Bs} {k : Nat} {p : Bs} (h : ps[k]? = some p) (hp : p = []) : wsTo ps (k + 1) = wsTo ps k := by
  obtain ⟨hlt, rfl⟩ := List.getElem?_eq_some_iff.1 h
  unfold wsTo
  rw [List.take_succ_eq_append_getElem hlt, List.filter_append]
  simp [hp]
theorem wsTo_len (ps : List Bs) (k : Nat) : (wsTo ps k).length ≤ ps.length := by
  unfold wsTo
  exact Nat.le_trans (List.length_filter_le _ _) (by simp; omega)

/-- A row of texts of the call's own. -/
def OwnS (w : World) (xs : List Bs) (e : Ending) (w' : World) : Prop := ∃ a c, e = .returned (.slice a xs.length c) ∧ w'.ownsRow w.heap.size 9 1 (.slice a xs.length c) xs.length (xs.map str) ∧ Below w.heap.size w w'

theorem Tryz.info9 : (Tryz.prog.info? 9).map (fun i => (i.zero, i.size, i.bytes)) = some (some (.string ByteArray.empty), 1, 16) := by kernel_rfl
theorem Tryz.info22 : (Tryz.prog.info? 22).map (fun i => (i.zero, i.size, i.bytes)) = some (some (.slice none 0 0), 1, 24) := by kernel_rfl

/-- What is appended lies in a new block of one cell. -/
theorem one_cell (wr : World) (x : Value) (e : TypeId) : ∀ j u, [x][j]? = some u → (wr.alloc (.cells #[x] e)).cell? ((⟨wr.heap.size, 0, none⟩ : Addr).add j) = some u := by
  intro j u h
  rcases j with _ | j
  · simp at h; subst h
    simp only [Addr.add, World.cell?, if_pos, heap_alloc_new]
    simp
  · simp at h
theorem one_one (x : Bs) : ∀ u ∈ [str x], u.oneCell' = true := by
  intro u h; simp at h; subst h; rfl

/-- The loop's relation: the words so far lie in a row of the call's own, and the pieces are as they were. -/
def WRel (w1 : World) (ps : List Bs) (k : Nat) (v : Value) (wr : World) : Prop :=
  wr.ownsRow (w1.heap.size + 1) 9 1 v (wsTo ps k).length ((wsTo ps k).map str) ∧ Below (w1.heap.size + 1) (w1.alloc (.cells (ps.map str).toArray 9)) wr
theorem wrel_start (w1 : World) (ps : List Bs) : WRel w1 ps 0 (.slice none 0 0) (w1.alloc (.cells (ps.map str).toArray 9)) :=
  ⟨World.ownsRow_nil _ _ _ _, Below.refl _ _⟩
theorem WRel.cell {w1 : World} {ps : List Bs} {k : Nat} {v : Value} {wr : World} (h : WRel w1 ps k v wr) {j : Nat} {p : Bs} (hp : ps[j]? = some p) : wr.cell? ⟨w1.heap.size, j, none⟩ = some (str p) := by
  rw [h.2.cell (p := ⟨w1.heap.size, j, none⟩) (Nat.lt_succ_self _)]
  simp only [World.cell?, heap_alloc_new]
  simp [hp]
theorem WRel.size {w1 : World} {ps : List Bs} {k : Nat} {v : Value} {wr : World} (h : WRel w1 ps k v wr) : w1.heap.size + 1 ≤ wr.heap.size := by
  have := h.2.size; simpa using this
theorem WRel.drop {w1 : World} {ps : List Bs} {k : Nat} {v : Value} {wr : World} (h : WRel w1 ps k v wr) (hp : ps[k]? = some []) : WRel w1 ps (k + 1) v wr := by
  unfold WRel; rw [wsTo_drop hp rfl]; exact h
theorem WRel.keep {w1 : World} {ps : List Bs} {k : Nat} {v v' : Value} {wr w' : World} {p : Bs} {o : Obj} (h : WRel w1 ps k v wr) (hp : ps[k]? = some p) (hne : p ≠ [])
    (ho : w'.ownsRow (w1.heap.size + 1) 9 1 v' ((wsTo ps k).length + 1) ((wsTo ps k).map str ++ [str p])) (hg : (wr.alloc o).grownBy w' v.ownBlock) : WRel w1 ps (k + 1) v' w' := by
  unfold WRel; rw [wsTo_keep hp hne]
  refine ⟨by simpa using ho, ?_⟩
  have hb := h.2.alloc h.size o
  exact hb.grown hg (by have := h.size; simp; omega) (fun g hg' => ((h.1.alloc o).lt g hg').1)
theorem WRel.done {w w1 : World} {ps : List Bs} {v : Value} {wr : World} (h : WRel w1 ps ps.length v wr) (hh : w1.heap = w.heap) (hb : Below w.heap.size w w1) : OwnS w (wsTo ps ps.length) (.returned v) wr := by
  have hbw : Below w.heap.size w wr := by
    refine hb.trans ?_
    rw [← hh]
    exact ((Below.refl _ _).alloc (Nat.le_refl _) _).trans (h.2.mono (by omega))
  have ho : wr.ownsRow w.heap.size 9 1 v (wsTo ps ps.length).length ((wsTo ps ps.length).map str) := ownsRow_le h.1 (by rw [hh]; omega)
  rcases ownsRow_forms h.1 with ⟨rfl, h0⟩ | ⟨g, cap, rfl⟩
  · exact ⟨none, 0, by rw [h0], by rw [h0] at ho ⊢; exact ho, hbw⟩
  · exact ⟨_, cap, rfl, ho, hbw⟩

set_option maxHeartbeats 2000000 in
theorem wordsOf_any (s : ByteArray) (w : World) (hs : s.size ≤ 20000) (hm : HasM w) : Calls Tryz.prog 44 #[.string s] w (OwnS w (wordsL s.data.toList)) := by
  obtain ⟨i0, hi, hz0, hz1, hz2⟩ := info_parts Tryz.info9
  have hx : (s.data.toList.takeWhile (fun c => c != 35)).length ≤ 20000 := Nat.le_trans (List.takeWhile_sublist _).length_le (by rw [len_size]; exact hs)
  have hw : wordsL s.data.toList = wsTo (splitL 32 (s.data.toList.takeWhile (fun c => c != 35))) (splitL 32 (s.data.toList.takeWhile (fun c => c != 35))).length := by unfold wsTo wordsL; rw [List.take_length]
  have HCUT := cut_any s w hs hm
  rw [hw]
  clear hw
  generalize s.data.toList.takeWhile (fun c => c != 35) = x at *
  have hps : (splitL 32 x).length ≤ 20001 := by rw [splitL_length]; have := List.count_le_length (a := 32) (l := x); omega
  go_enter Tryz.func44, Tryz.ntmps44
  go_wp2_with (go_at_call 57; refine HCUT.mono ?_; rintro e w1 ⟨y, z, rfl, hh, hb1⟩; have HM := hm.below hb1; have HH := Lib.hid hh; clear hh HCUT)
  go_wp2_with (go_at_call 43; refine (split_any 32 x w1 hx HM).mono ?_; rintro e w2 ⟨rfl, rfl⟩)
  generalize splitL 32 x = ps at *
  go_loopw [6, 18] (fun v i wr => ∃ k : Nat, k ≤ ps.length ∧ i = .int .i64 k ∧ WRel w1 ps k v wr) (fun _ i _ => ps.length - (intOf i).toNat)
  case atStart => exact ⟨0, Nat.zero_le _, rfl, wrel_start w1 ps⟩
  case round =>
    obtain ⟨k, hk, rfl, hr⟩ := hrel
    by_cases hlt : k < ps.length
    · have hx : ps[k]? = some ps[k] := List.getElem?_eq_getElem hlt
      have hcx := hr.cell hx
      have hn := wsTo_len ps k
      generalize hX : ps[k] = p at hx hcx
      clear hX
      have HX := Lib.hid hx
      clear hx
      have hfit : (wsTo ps k).length + 1 ≤ maxLen := by unfold maxLen; omega
      rcases hp : p with _ | ⟨p0, pr⟩
      · subst hp
        go_wp2
        go_roundw
        case rel => exact ⟨k + 1, by omega, by go_num, hr.drop HX.out⟩
        case measure => simp [intOf]; omega
      · have HP : Hid (p ≠ []) := Lib.hid (by rw [hp]; simp)
        subst hp
        go_wp2_with (at_builtin; refine wpList_append_own _ rfl _ _ 22 rfl (w1.heap.size + 1) 9 i0 (.string ByteArray.empty) 1 16 Tryz.underlying22 hi hz0 hz1 hz2 rfl (by decide) _ _ _ rfl (hr.1.alloc _) ⟨wr.heap.size, 0, none⟩ 1 1 [str (p0 :: pr)] rfl rfl ?c1 ?c2 ?c3 ?c4 ?c5 ?_)
        case c1 => exact one_cell wr _ _
        case c2 => exact one_one _
        case c3 => exact hfit
        case c4 => omega
        case c5 => have := hr.size; simp; omega
        intro v' w' ho hg _
        have HN := Lib.hid (hr.keep HX.out HP.out ho hg)
        clear ho hg
        go_wp2
        go_roundw
        case rel => exact ⟨k + 1, by omega, by go_num, HN.out⟩
        case measure => simp [intOf]; omega
    · go_wp2
      go_ret
      obtain rfl : k = ps.length := by omega
      exact hr.done HH.out hb1
end Go.Proofs.YtgmpggjikebcdaaGreatDoor
