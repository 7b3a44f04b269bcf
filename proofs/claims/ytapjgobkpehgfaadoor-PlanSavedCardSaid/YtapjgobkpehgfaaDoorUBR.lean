/-
  Contracts of the library at this program, laid in plain words (the laying of the shelf, cut to what is used).
  slices.Repeat of a row of one byte.
-/
import Derived.Shelf.Bits.Mul64
import Derived.Test.YtapjgobkpehgfaaDoorProg
import Derived.Test.YtapjgobkpehgfaaDoorUBA
import Derived.Laws.CopyOwn
import Derived.Deep.CutBlock
import Derived.Deep.RegionLaw

/- Contracts of the library at this program, laid in plain words (the laying of the shelf, cut to what is used). -/
namespace Go.Proofs
set_option linter.unusedSimpArgs false
set_option linter.unusedVariables false
open Go.Shelf
def Tryd.lays212_ren : Go.Shelf.Ren := ⟨fun | 212 => 29 | 263 => 48 | 264 => 49 | n => n, fun | 46 => 60 | 51 => 76 | 146 => 77 | 53 => 79 | 148 => 80 | n => n, fun | n => n⟩
theorem Tryd.lays212 : Go.Proofs.Lays.n212 Tryd.prog Tryd.lays212_ren := {
  mixed := by kernel_rfl
  f212 := Tryd.func29.trans (congrArg some (by kernel_rfl))
  f263 := Tryd.func48.trans (congrArg some (by kernel_rfl))
  f264 := Tryd.func49.trans (congrArg some (by kernel_rfl))
  t46 := Tryd.underlying60
  a46 := Tryd.isAgg60
  z46 := Tryd.sizeOf60
  v46 := Tryd.zeroValue60
  t51 := Tryd.underlying76
  a51 := Tryd.isAgg76
  z51 := Tryd.sizeOf76
  v51 := Tryd.zeroValue76
  t53 := Tryd.underlying79
  a53 := Tryd.isAgg79
  z53 := Tryd.sizeOf79
  v53 := Tryd.zeroValue79
  t146 := Tryd.underlying77
  a146 := Tryd.isAgg77
  z146 := Tryd.sizeOf77
  v146 := Tryd.zeroValue77
  t148 := Tryd.underlying80
  a148 := Tryd.isAgg80
  z148 := Tryd.sizeOf80
  v148 := Tryd.zeroValue80 }
open Go.RowKit Go.Lib in
theorem Tryd.bits_Mul (x y : Nat) (hx : x < 18446744073709551616) (hy : y < 18446744073709551616) (w : World) :
    Calls Tryd.prog 29 #[.int .u64 x, .int .u64 y] w fun e w' => e = .returned (.tuple #[.int .u64 ((x * y / 18446744073709551616 : Nat) : Int), .int .u64 ((x * y % 18446744073709551616 : Nat) : Int)]) ∧ w' = w := Any.bits_Mul Tryd.lays212 x y hx hy w
end Go.Proofs

/- slices.Repeat of a row of one byte. -/
namespace Go.Proofs.YtapjgobkpehgfaaDoor
set_option linter.unusedSimpArgs false
set_option linter.unusedVariables false
open Go.RowKit

theorem sizeU8 : (Tryd.prog.info? 5).map (·.size) = some 1 := by kernel_rfl
theorem rep_splice {n t m v : Nat} (h : t + m ≤ n) : splice (u8s (List.replicate t v ++ List.replicate (n - t) 0)) t (List.replicate m (Value.int .u8 (v : Int))) = u8s (List.replicate (t + m) v ++ List.replicate (n - (t + m)) 0) := by
  refine List.ext_getElem? fun j => ?_
  unfold splice u8s
  simp only [List.getElem?_append, List.getElem?_take, List.getElem?_drop, List.getElem?_map, List.getElem?_replicate, List.length_take, List.length_map, List.length_append, List.length_replicate]
  have e1 : min t (t + (n - t)) = t := by omega
  rw [e1]
  by_cases h1 : j < t
  · have h2 : j < t + m := by omega
    simp [h1, h2]
  · by_cases h2 : j < t + m
    · have h3 : j - t < m := by omega
      simp [h1, h2, h3]
    · have h3 : ¬ j - t < m := by omega
      have h4 : ¬ t + m + (j - t - m) < t := by omega
      have h5 : (t + m + (j - t - m) - t < n - t) = (j - (t + m) < n - (t + m)) := by
        apply propext; omega
      simp [h1, h2, h3, h4, h5]
set_option maxRecDepth 100000 in
set_option maxHeartbeats 2000000 in
theorem repU8_n (w : World) (G n v : Nat) (hg : w.cell? ⟨G, 0, none⟩ = some (.int .u8 (v : Int))) (h0 : 1 ≤ n) (h1 : n ≤ 100000) :
    Calls Tryd.prog 17 #[.slice (some ⟨G, 0, none⟩) 1 1, .int .i64 n] w fun e w' => e = .returned (.slice (some ⟨w.heap.size, 0, none⟩) n n) ∧ Below w.heap.size w w' ∧ blk w' w.heap.size (u8Arr (List.replicate n v)) 5 := by
  have hMul := Tryd.bits_Mul 1 n (by omega) (by omega) w
  rw [Nat.one_mul, Nat.div_eq_of_lt (by omega : n < 18446744073709551616), Nat.mod_eq_of_lt (by omega : n < 18446744073709551616)] at hMul
  have hGl : G < w.heap.size := World.block_lt_of_cell? w _ hg
  have hmk : ∀ w, (Instr.makeSlice 40 (.int .i64 (n : Int)) (.int .i64 (n : Int))).run Tryd.prog w = .ok (.slice (some ⟨w.heap.size, 0, none⟩) n n) (w.alloc (.cells (madeCells #[.int .u8 0] n) 5)) := fun w => run_make_row' _ _ _ _ Tryd.underlying40 infoU8 rfl _ _ n (by omega) (by omega) w
  obtain ⟨H, hH⟩ : ∃ H, H = w.heap.size := ⟨_, rfl⟩
  have hn0 : (0 : Int) < (n : Int) := by omega
  go_enter Tryd.func17, Tryd.ntmps17
  go_upto_region 7 with (go_at_call 29; refine hMul.mono ?_; rintro e w' ⟨rfl, hw⟩; rw [hw])
  clear hMul
  rw [u8Arr_zeros]
  have HB0 : Hid (Below w.heap.size w (w.alloc (.cells (u8Arr (List.replicate n 0)) 5))) := Lib.hid ((Below.refl _ _).alloc (Nat.le_refl _) _)
  have HA0 : Hid (blk (w.alloc (.cells (u8Arr (List.replicate n 0)) 5)) w.heap.size (u8Arr (List.replicate n 0)) 5) := Lib.hid (blk_new _ _ _)
  have HG0 : Hid ((w.alloc (.cells (u8Arr (List.replicate n 0)) 5)).cell? ⟨G, 0, none⟩ = some (.int .u8 (v : Int))) := Lib.hid (by rw [HB0.out.cell hGl]; exact hg)
  obtain ⟨wa, hwa⟩ : ∃ wa, wa = w.alloc (.cells (u8Arr (List.replicate n 0)) 5) := ⟨_, rfl⟩
  have hHl : w.heap.size ≤ H := by omega
  rw [← hwa] at HB0 HA0 HG0 ⊢
  rw [← hH] at HA0 ⊢
  have HH := Lib.hid hH
  clear hwa hg hmk hGl hH
  go_upto_block 0 with (refine wpList_copy_splice rfl (.tmp 31) (.tmp 32) 40 40 rfl 5 Tryd.underlying40 sizeU8 _ _ _ _ _ _ rfl rfl H 0 (u8s (List.replicate n 0)) 5 HA0.out [.int .u8 (v : Int)] ?b2 ?b3 ?b4 ?b5 w.heap.size w HB0.out hHl ?b6)
  case b2 => show 1 = min 1 n; omega
  case b3 =>
    intro x v1 hj
    cases x with
    | zero => simp at hj; subst hj; exact HG0.out
    | succ j => simp at hj
  case b4 => simpa using h0
  case b5 => simp [Value.oneCell']
  case b6 =>
    intro w2 HG2 hB2
    have HA2 : Hid (blk w2 H (u8Arr (List.replicate 1 v ++ List.replicate (n - 1) 0)) 5) := Lib.hid (by
      have h2 := rep_splice (n := n) (t := 0) (m := 1) (v := v) (by omega)
      have h3 := HG2.out
      simp only [List.replicate_zero, List.nil_append, Nat.sub_zero, Nat.zero_add] at h2
      rw [show [Value.int .u8 (v : Int)] = List.replicate 1 (Value.int .u8 (v : Int)) from rfl, show List.replicate n (Value.int .u8 0) = u8s (List.replicate n 0) by simp [u8s], h2] at h3
      exact h3)
    have HB2 := Lib.hid hB2
    clear HG2 hB2 HA0 HB0 HG0
    go_wp2_with (fail)
    go_loopw [8] (fun v8 wr => ∃ t : Nat, 1 ≤ t ∧ t ≤ n ∧ v8 = .int .i64 t ∧ Hid (blk wr H (u8Arr (List.replicate t v ++ List.replicate (n - t) 0)) 5) ∧ Hid (Below w.heap.size w wr)) (fun v8 _ => n - (intOf v8).toNat)
    case atStart => exact ⟨1, Nat.le_refl _, h0, rfl, HA2, HB2⟩
    case round =>
      obtain ⟨t, ht1, ht, rfl, HA, HB⟩ := hrel
      clear HA2 HB2
      by_cases htl : t < n
      · have hti : (t : Int) < (n : Int) := by omega
        have ht0 : (0 : Int) ≤ (t : Int) := by omega
        have htn : ¬ ((n : Int) ≤ (t : Int)) := by omega
        obtain ⟨m, hm⟩ : ∃ m, m = min t (n - t) := ⟨_, rfl⟩
        have HM := Lib.hid hm
        have hsrc : ∀ j x, (List.replicate m (Value.int .u8 (v : Int)))[j]? = some x → wr.drew.cell? ((⟨H, 0, none⟩ : Addr).add j) = some x := fun j x hj => by
          rw [List.getElem?_replicate] at hj
          split at hj
          · cases hj
            have e : (⟨H, 0, none⟩ : Addr).add j = ⟨H, j, none⟩ := by unfold Addr.add; split <;> simp_all
            rw [e]
            have hjt : j < t := by omega
            refine blk_cell (show blk wr.drew H (u8Arr (List.replicate t v ++ List.replicate (n - t) 0)) 5 from HA.out) j _ ?_
            rw [u8Arr_get (by simp; omega)]
            simp [List.getElem?_append, List.getElem?_replicate, hjt]
          · cases hj
        obtain ⟨w3, hcp, HA3, HB3⟩ : ∃ w3, (Builtin.copy_ #[40, 40] 3 #[.slice (some ⟨H, t, none⟩) (n - t) (n - t), .slice (some ⟨H, 0, none⟩) t n]).run Tryd.prog wr.drew = .ok (.int .i64 (m : Int)) w3 ∧ Hid (blk w3 H (u8Arr (List.replicate (t + m) v ++ List.replicate (n - (t + m)) 0)) 5) ∧ Hid (Below w.heap.size w w3) := by
          have h3 := run_copy_row (P := Tryd.prog) wr.drew 40 40 3 5 H t (n - t) (n - t) ⟨H, 0, none⟩ t n (u8Arr (List.replicate t v ++ List.replicate (n - t) 0)) 5 (List.replicate m (Value.int .u8 (v : Int))) Tryd.underlying40 sizeU8 HA.out (by rw [List.length_replicate]; exact hm) hsrc (by simp; omega) (fun x hx => by rw [List.eq_of_mem_replicate hx]; rfl)
          have h5 := rep_splice (n := n) (t := t) (m := m) (v := v) (by omega)
          unfold splice at h5
          rw [List.length_replicate, ← List.append_assoc] at h5
          rw [List.length_replicate, show (u8Arr (List.replicate t v ++ List.replicate (n - t) 0)).toList = u8s (List.replicate t v ++ List.replicate (n - t) 0) from rfl, h5] at h3
          exact ⟨_, h3, Lib.hid (setRow_heap wr.drew H _ _ 5 _ HA.out), Lib.hid (below_setRow HB.out.drew hHl _)⟩
        have hnt : ¬ (n = t) := by omega
        have hml : m ≤ n - t := by omega
        have hm1 : 1 ≤ m := by omega
        have hw1 : IntKind.i64.wrap ((t : Int) + (m : Int)) = (t : Int) + (m : Int) := by rw [IntKind.wrap_i64]; omega
        clear hm hsrc HM
        go_upto_region 9 with (fail)
        go_region_with (rw [hcp])
        go_wp2
        go_roundw
        case rel => exact ⟨t + m, by omega, by omega, by go_num, HA3⟩
        case measure => simp [intOf]; omega
      · have hte : t = n := by omega
        have htn : ¬ ((t : Int) < (n : Int)) := by omega
        have HX : Hid (Below w.heap.size w wr ∧ blk wr w.heap.size (u8Arr (List.replicate n v)) 5) := Lib.hid ⟨HB.out, by
          have h2 := HA.out
          rw [hte, Nat.sub_self, List.replicate_zero, List.append_nil, HH.out] at h2
          exact h2⟩
        have HE : Hid ((.returned (.slice (some ⟨H, 0, none⟩) n n) : Ending) = .returned (.slice (some ⟨w.heap.size, 0, none⟩) n n)) := Lib.hid (by rw [HH.out])
        clear hte HA HB HH
        go_wp2
        go_ret
        exact ⟨HE.out, HX.out⟩
end Go.Proofs.YtapjgobkpehgfaaDoor
