/-
  The table of operations, as it lies; the contracts of byOp.
-/
import Derived.Test.YtmnoohpkjgjphaaDoorCBlk
namespace Go.Proofs.YtmnoohpkjgjphaaDoor
set_option linter.unusedSimpArgs false
set_option linter.unusedVariables false
open Go.RowKit

abbrev opCells (o : Int × Bs × Bs) : List Value := [.int .u8 o.1, str o.2.1, str o.2.2]
def opsCells : List Value := OPS.flatMap opCells
def opsV : Value := .agg opsCells.toArray
/-- The table lies where it is laid. -/
def HasO (w : World) : Prop := w.rangeAt 0 0 opsCells ∧ 0 < w.heap.size
theorem HasO.below {w w' : World} (h : HasO w) (hb : Below w.heap.size w w') : HasO w' :=
  ⟨fun j v hv => by rw [(bcell hb).1 0 (0 + j) h.2]; exact h.1 j v hv, Nat.lt_of_lt_of_le h.2 hb.size⟩
theorem opers_info : (Tryd.prog.info? 120).map (·.size) = some opsCells.length := by kernel_rfl

set_option maxRecDepth 100000 in
theorem ops_index (k : Nat) (o : Int × Bs × Bs) (h : OPS[k]? = some o) (w : World) : (Instr.index 120 opsV (.int .i64 k)).run Tryd.prog w = .ok (.agg (opCells o).toArray) w := by
  have hk : k < 15 := (List.getElem?_eq_some_iff.1 h).1
  have hc : k = 0 ∨ k = 1 ∨ k = 2 ∨ k = 3 ∨ k = 4 ∨ k = 5 ∨ k = 6 ∨ k = 7 ∨ k = 8 ∨ k = 9 ∨ k = 10 ∨ k = 11 ∨ k = 12 ∨ k = 13 ∨ k = 14 := by omega
  rcases hc with rfl | rfl | rfl | rfl | rfl | rfl | rfl | rfl | rfl | rfl | rfl | rfl | rfl | rfl | rfl <;> (obtain rfl := Option.some.inj h; rfl)

/-- What is told of an operation that is there, and of none. -/
def OpPost (w : World) (r : Option (Int × Bs × Bs)) (e : Ending) (w' : World) : Prop :=
  e = .returned (match r with
    | some o => .tuple #[.agg (opCells o).toArray, .bool true]
    | none => .tuple #[.agg #[.int .u8 0, str [], str []], .bool false]) ∧ Below w.heap.size w w'

theorem find_next {p : (Int × Bs × Bs) → Bool} {k : Nat} {o : Int × Bs × Bs} (h : (OPS.take k).find? p = none) (ho : OPS[k]? = some o) (hp : p o = false) : (OPS.take (k + 1)).find? p = none := by
  obtain ⟨hlt, rfl⟩ := List.getElem?_eq_some_iff.1 ho
  rw [List.take_succ_eq_append_getElem hlt, List.find?_append, h]
  simp [hp]
theorem find_here {p : (Int × Bs × Bs) → Bool} {k : Nat} {o : Int × Bs × Bs} (h : (OPS.take k).find? p = none) (ho : OPS[k]? = some o) (hp : p o = true) : OPS.find? p = some o := by
  obtain ⟨hlt, rfl⟩ := List.getElem?_eq_some_iff.1 ho
  conv => lhs; rw [← List.take_append_drop (k + 1) OPS]
  rw [List.take_succ_eq_append_getElem hlt, List.find?_append, List.find?_append, h]
  simp [hp]

/-- What a round leaves: the block of the answer as it was made. -/
def ORel (w wr : World) : Prop := blk wr w.heap.size #[.int .u8 0, .string ⟨#[]⟩, .string ⟨#[]⟩] 104 ∧ Below w.heap.size w wr
theorem orel_start (w : World) : ORel w (w.alloc (.cells #[.int .u8 0, .string ⟨#[]⟩, .string ⟨#[]⟩] 104)) := ⟨heap_alloc_new w _, (Below.refl _ _).alloc (Nat.le_refl _) _⟩
theorem ORel.lt {w wr : World} (h : ORel w wr) : w.heap.size < wr.heap.size := (Array.getElem?_eq_some_iff.1 h.1).1
theorem ORel.alloc {w wr : World} (h : ORel w wr) (o : Obj) : ORel w (wr.alloc o) := ⟨blk_alloc h.1 o, h.2.alloc (Nat.le_of_lt h.lt) o⟩

theorem oper_info : (Tryd.prog.info? 104).map (·.size) = some 3 := by kernel_rfl

theorem oper_one (o : Int × Bs × Bs) : (opCells o).toArray.all (·.oneCell') = true := all_oneCell_toArray (by intro v h; simp [opCells] at h; rcases h with rfl | rfl | rfl <;> rfl)

set_option maxRecDepth 100000 in
set_option maxHeartbeats 1000000 in
theorem byOp_any (c : Int) (w : World) (ho : HasO w) : Calls Tryd.prog 75 #[.int .u8 c] w (OpPost w (byOpL c)) := by
  have HOP := Lib.hid ho
  have HI := Lib.hid opers_info
  have HX := Lib.hid ops_index
  clear ho
  have HR : Hid (∀ k o, (OPS.take k).find? (fun o => o.1 == c) = none → OPS[k]? = some o → (o.1 == c) = true → byOpL c = some o) := Lib.hid fun k o h1 h2 h3 => find_here h1 h2 h3
  have HN : Hid ((OPS.take 15).find? (fun o => o.1 == c) = none → byOpL c = none) := Lib.hid fun h => h
  generalize byOpL c = r at *
  unfold opsV at HX
  go_enter Tryd.func75, Tryd.ntmps75
  go_wp2_with (refine wpList_load_mid rfl 120 _ rfl 0 0 rfl opsCells _ ?c1 Tryd.underlying120 rfl HI.out ?_)
  case c1 => exact fun j v hj => by rw [Below.cell (w := w) (w' := _) (((Below.refl _ _).alloc (Nat.le_refl _) _)) (p := ⟨0, 0 + j, none⟩) HOP.out.2]; exact HOP.out.1 j v hj
  go_loopw [7] (fun i wr => ∃ k : Nat, k ≤ 15 ∧ i = .int .i64 k ∧ Hid ((OPS.take k).find? (fun o => o.1 == c) = none) ∧ ORel w wr) (fun i _ => 15 - (intOf i).toNat)
  case atStart => exact ⟨0, by omega, rfl, Lib.hid rfl, orel_start w⟩
  case round =>
    obtain ⟨k, hk, rfl, hf, hr⟩ := hrel
    by_cases hlt : k < 15
    · obtain ⟨o, ho⟩ : ∃ o, OPS[k]? = some o := ⟨_, List.getElem?_eq_getElem (show k < OPS.length from hlt)⟩
      have hidx := HX.out k o ho
      have HO := Lib.hid ho
      clear ho
      rcases htest : (o.1 == c) with _ | _
      · have HT := Lib.hid (find_next hf.out HO.out htest)
        go_wp2
        go_roundw
        case rel => exact ⟨k + 1, by omega, by go_num, HT, hr.alloc _⟩
        case measure => simp [intOf]; omega
      · have HR1 := Lib.hid (HR.out k o hf.out HO.out htest)
        have HR2 := Lib.hid (hr.alloc (.cells (opCells o).toArray 104))
        go_wp2_with (refine wpList_putB rfl 104 _ _ rfl w.heap.size (opCells o).toArray rfl rfl 104 _ HR2.out.1 oper_info rfl (oper_one o) ?_)
        refine bodyPost_ret (v := .tuple #[.agg (opCells o).toArray, .bool true]) ?_ rfl ⟨?_, ?_⟩
        · rw [res_cell1 (p := 2) (u := 3) rfl _ _ w.heap.size (opCells o).toArray 104 _ rfl (putB_at HR2.out.1 _ _) Tryd.underlying104 rfl oper_info]; rfl
        · rw [HR1.out]
        · exact HR2.out.2.trans (putB_below _ (Nat.le_refl _) _ _)
    · obtain rfl : k = 15 := by omega
      have HR1 := Lib.hid (HN.out hf.out)
      go_wp2_with (refine wpList_putB rfl 104 _ _ rfl w.heap.size #[.int .u8 0, str [], str []] rfl rfl 104 _ hr.1 oper_info rfl (oper_one (0, [], [])) ?_)
      refine bodyPost_ret (v := .tuple #[.agg #[.int .u8 0, str [], str []], .bool false]) ?_ rfl ⟨?_, ?_⟩
      · rw [res_cell1 (p := 2) (u := 3) rfl _ _ w.heap.size #[.int .u8 0, str [], str []] 104 _ rfl (putB_at hr.1 _ _) Tryd.underlying104 rfl oper_info]; rfl
      · rw [HR1.out]
      · exact hr.2.trans (putB_below _ (Nat.le_refl _) _ _)
end Go.Proofs.YtmnoohpkjgjphaaDoor
