/-
  Contracts of the library: those of Shelf.
  slices.Repeat of a row of one byte.
  The program's fresh: its In does what it is to do.
-/
import Derived.Test.YtcjhgibhenocpaaGreatDoorShelf
import Derived.Test.YtcjhgibhenocpaaGreatDoorUBE
import Derived.Laws.CopyOwn
import Derived.Deep.CutBlock
import Derived.Deep.RegionLaw
import Derived.Test.YtcjhgibhenocpaaGreatDoorYProgO

/- Contracts of the library: those of Shelf. -/


/- slices.Repeat of a row of one byte. -/
namespace Go.Proofs.YtcjhgibhenocpaaGreatDoor
set_option linter.unusedSimpArgs false
set_option linter.unusedVariables false
open Go.RowKit

theorem sizeU8 : (Tryz.prog.info? 5).map (·.size) = some 1 := by kernel_rfl
theorem rep_splice {n t m v : Nat} (h : t + m ≤ n) : splice (u8s (List.replicate t v ++ List.replicate (n - t) 0)) t (List.replicate m (Value.int .u8 (v : Int))) = u8s (List.replicate (t + m) v ++ List.replicate (n - (t + m)) 0) := by
  refine List.ext_getElem? fun j => ?_
  unfold splice u8s
  simp only [List.getElem?_append, List.getElem?_take, List.getElem?_drop, List.getElem?_map, List.getElem?_replicate, List.length_take, List.length_map, List.length_append, List.length_replicate]
  have e1 : min t (t + (n - t)) = t := by omega
  rw [e1]
  by_cases h1 : j < t
  · have h2 : j < t + m := by omega
    simp [h1, h2]
  · by_cases h2 : j < t + m
    · have h3 : j - t < m := by omega
      simp [h1, h2, h3]
    · have h3 : ¬ j - t < m := by omega
      have h4 : ¬ t + m + (j - t - m) < t := by omega
      have h5 : (t + m + (j - t - m) - t < n - t) = (j - (t + m) < n - (t + m)) := by
        apply propext; omega
      simp [h1, h2, h3, h4, h5]
set_option maxRecDepth 100000 in
set_option maxHeartbeats 2000000 in
theorem repU8_n (w : World) (G n v : Nat) (hg : w.cell? ⟨G, 0, none⟩ = some (.int .u8 (v : Int))) (h0 : 1 ≤ n) (h1 : n ≤ 100000) :
    Calls Tryz.prog 63 #[.slice (some ⟨G, 0, none⟩) 1 1, .int .i64 n] w fun e w' => e = .returned (.slice (some ⟨w.heap.size, 0, none⟩) n n) ∧ Below w.heap.size w w' ∧ blk w' w.heap.size (u8Arr (List.replicate n v)) 5 := by
  have hMul := Tryz.bits_Mul 1 n (by omega) (by omega) w
  rw [Nat.one_mul, Nat.div_eq_of_lt (by omega : n < 18446744073709551616), Nat.mod_eq_of_lt (by omega : n < 18446744073709551616)] at hMul
  have hGl : G < w.heap.size := World.block_lt_of_cell? w _ hg
  have hmk : ∀ w, (Instr.makeSlice 68 (.int .i64 (n : Int)) (.int .i64 (n : Int))).run Tryz.prog w = .ok (.slice (some ⟨w.heap.size, 0, none⟩) n n) (w.alloc (.cells (madeCells #[.int .u8 0] n) 5)) := fun w => run_make_row' _ _ _ _ Tryz.underlying68 infoU8 rfl _ _ n (by omega) (by omega) w
  obtain ⟨H, hH⟩ : ∃ H, H = w.heap.size := ⟨_, rfl⟩
  have hn0 : (0 : Int) < (n : Int) := by omega
  go_enter Tryz.func63, Tryz.ntmps63
  go_upto_region 7 with (go_at_call 107; refine hMul.mono ?_; rintro e w' ⟨rfl, hw⟩; rw [hw])
  clear hMul
  rw [u8Arr_zeros]
  have HB0 : Hid (Below w.heap.size w (w.alloc (.cells (u8Arr (List.replicate n 0)) 5))) := Lib.hid ((Below.refl _ _).alloc (Nat.le_refl _) _)
  have HA0 : Hid (blk (w.alloc (.cells (u8Arr (List.replicate n 0)) 5)) w.heap.size (u8Arr (List.replicate n 0)) 5) := Lib.hid (blk_new _ _ _)
  have HG0 : Hid ((w.alloc (.cells (u8Arr (List.replicate n 0)) 5)).cell? ⟨G, 0, none⟩ = some (.int .u8 (v : Int))) := Lib.hid (by rw [HB0.out.cell hGl]; exact hg)
  obtain ⟨wa, hwa⟩ : ∃ wa, wa = w.alloc (.cells (u8Arr (List.replicate n 0)) 5) := ⟨_, rfl⟩
  have hHl : w.heap.size ≤ H := by omega
  rw [← hwa] at HB0 HA0 HG0 ⊢
  rw [← hH] at HA0 ⊢
  have HH := Lib.hid hH
  clear hwa hg hmk hGl hH
  go_upto_block 0 with (refine wpList_copy_splice rfl (.tmp 31) (.tmp 32) 68 68 rfl 5 Tryz.underlying68 sizeU8 _ _ _ _ _ _ rfl rfl H 0 (u8s (List.replicate n 0)) 5 HA0.out [.int .u8 (v : Int)] ?b2 ?b3 ?b4 ?b5 w.heap.size w HB0.out hHl ?b6)
  case b2 => show 1 = min 1 n; omega
  case b3 =>
    intro x v1 hj
    cases x with
    | zero => simp at hj; subst hj; exact HG0.out
    | succ j => simp at hj
  case b4 => simpa using h0
  case b5 => simp [Value.oneCell']
  case b6 =>
    intro w2 HG2 hB2
    have HA2 : Hid (blk w2 H (u8Arr (List.replicate 1 v ++ List.replicate (n - 1) 0)) 5) := Lib.hid (by
      have h2 := rep_splice (n := n) (t := 0) (m := 1) (v := v) (by omega)
      have h3 := HG2.out
      simp only [List.replicate_zero, List.nil_append, Nat.sub_zero, Nat.zero_add] at h2
      rw [show [Value.int .u8 (v : Int)] = List.replicate 1 (Value.int .u8 (v : Int)) from rfl, show List.replicate n (Value.int .u8 0) = u8s (List.replicate n 0) by simp [u8s], h2] at h3
      exact h3)
    have HB2 := Lib.hid hB2
    clear HG2 hB2 HA0 HB0 HG0
    go_wp2_with (fail)
    go_loopw [8] (fun v8 wr => ∃ t : Nat, 1 ≤ t ∧ t ≤ n ∧ v8 = .int .i64 t ∧ Hid (blk wr H (u8Arr (List.replicate t v ++ List.replicate (n - t) 0)) 5) ∧ Hid (Below w.heap.size w wr)) (fun v8 _ => n - (intOf v8).toNat)
    case atStart => exact ⟨1, Nat.le_refl _, h0, rfl, HA2, HB2⟩
    case round =>
      obtain ⟨t, ht1, ht, rfl, HA, HB⟩ := hrel
      clear HA2 HB2
      by_cases htl : t < n
      · have hti : (t : Int) < (n : Int) := by omega
        have ht0 : (0 : Int) ≤ (t : Int) := by omega
        have htn : ¬ ((n : Int) ≤ (t : Int)) := by omega
        obtain ⟨m, hm⟩ : ∃ m, m = min t (n - t) := ⟨_, rfl⟩
        have HM := Lib.hid hm
        have hsrc : ∀ j x, (List.replicate m (Value.int .u8 (v : Int)))[j]? = some x → wr.drew.cell? ((⟨H, 0, none⟩ : Addr).add j) = some x := fun j x hj => by
          rw [List.getElem?_replicate] at hj
          split at hj
          · cases hj
            have e : (⟨H, 0, none⟩ : Addr).add j = ⟨H, j, none⟩ := by unfold Addr.add; split <;> simp_all
            rw [e]
            have hjt : j < t := by omega
            refine blk_cell (show blk wr.drew H (u8Arr (List.replicate t v ++ List.replicate (n - t) 0)) 5 from HA.out) j _ ?_
            rw [u8Arr_get (by simp; omega)]
            simp [List.getElem?_append, List.getElem?_replicate, hjt]
          · cases hj
        obtain ⟨w3, hcp, HA3, HB3⟩ : ∃ w3, (Builtin.copy_ #[68, 68] 3 #[.slice (some ⟨H, t, none⟩) (n - t) (n - t), .slice (some ⟨H, 0, none⟩) t n]).run Tryz.prog wr.drew = .ok (.int .i64 (m : Int)) w3 ∧ Hid (blk w3 H (u8Arr (List.replicate (t + m) v ++ List.replicate (n - (t + m)) 0)) 5) ∧ Hid (Below w.heap.size w w3) := by
          have h3 := run_copy_row (P := Tryz.prog) wr.drew 68 68 3 5 H t (n - t) (n - t) ⟨H, 0, none⟩ t n (u8Arr (List.replicate t v ++ List.replicate (n - t) 0)) 5 (List.replicate m (Value.int .u8 (v : Int))) Tryz.underlying68 sizeU8 HA.out (by rw [List.length_replicate]; exact hm) hsrc (by simp; omega) (fun x hx => by rw [List.eq_of_mem_replicate hx]; rfl)
          have h5 := rep_splice (n := n) (t := t) (m := m) (v := v) (by omega)
          unfold splice at h5
          rw [List.length_replicate, ← List.append_assoc] at h5
          rw [List.length_replicate, show (u8Arr (List.replicate t v ++ List.replicate (n - t) 0)).toList = u8s (List.replicate t v ++ List.replicate (n - t) 0) from rfl, h5] at h3
          exact ⟨_, h3, Lib.hid (setRow_heap wr.drew H _ _ 5 _ HA.out), Lib.hid (below_setRow HB.out.drew hHl _)⟩
        have hnt : ¬ (n = t) := by omega
        have hml : m ≤ n - t := by omega
        have hm1 : 1 ≤ m := by omega
        have hw1 : IntKind.i64.wrap ((t : Int) + (m : Int)) = (t : Int) + (m : Int) := by rw [IntKind.wrap_i64]; omega
        clear hm hsrc HM
        go_upto_region 9 with (fail)
        go_region_with (rw [hcp])
        go_wp2
        go_roundw
        case rel => exact ⟨t + m, by omega, by omega, by go_num, HA3⟩
        case measure => simp [intOf]; omega
      · have hte : t = n := by omega
        have htn : ¬ ((t : Int) < (n : Int)) := by omega
        have HX : Hid (Below w.heap.size w wr ∧ blk wr w.heap.size (u8Arr (List.replicate n v)) 5) := Lib.hid ⟨HB.out, by
          have h2 := HA.out
          rw [hte, Nat.sub_self, List.replicate_zero, List.append_nil, HH.out] at h2
          exact h2⟩
        have HE : Hid ((.returned (.slice (some ⟨H, 0, none⟩) n n) : Ending) = .returned (.slice (some ⟨w.heap.size, 0, none⟩) n n)) := Lib.hid (by rw [HH.out])
        clear hte HA HB HH
        go_wp2
        go_ret
        exact ⟨HE.out, HX.out⟩
end Go.Proofs.YtcjhgibhenocpaaGreatDoor

/- The program's fresh: its In does what it is to do. -/
namespace Go.Proofs.YtcjhgibhenocpaaGreatDoor
set_option linter.unusedSimpArgs false
set_option linter.unusedVariables false
open Go.RowKit

/-! ### shrink -/
structure ShW (B : Nat) (w wr : World) (H N : Nat) (C : Array Value) (out : List Nat) : Prop where
  below : Below B w wr
  prog : blk wr N C 25
  ar : blk wr H (u8Arr out) 5
  hH : H < N
  hB : B ≤ H
theorem ShW.size {B : Nat} {w wr : World} {H N : Nat} {C : Array Value} {out : List Nat} (h : ShW B w wr H N C out) : B ≤ wr.heap.size := by
  have := blk_lt h.ar; have := h.hB; omega
theorem ShW.next {B : Nat} {w wr w' : World} {H N : Nat} {C : Array Value} {out : List Nat} (h : ShW B w wr H N C out) (hb : Below wr.heap.size wr w') : ShW B w w' H N C out :=
  ⟨h.below.trans (hb.mono h.size), blk_below h.prog hb, blk_below h.ar hb, h.hH, h.hB⟩
theorem ShW.put {B : Nat} {w wr : World} {H N : Nat} {C : Array Value} {out : List Nat} (h : ShW B w wr H N C out) (k v : Nat) : ShW B w (wr.setCell ⟨H, k, none⟩ (.int .u8 (v : Int))) H N C (out.set k v) := by
  have hH := h.hH
  rw [setCell_putB h.ar, u8Arr_set]
  exact ⟨h.below.trans (putB_below _ h.hB _ _), by unfold blk; rw [putB_ne _ (by omega)]; exact h.prog, putB_at h.ar _ _, h.hH, h.hB⟩
def ShrPost (B H : Nat) (w : World) (p : PProg) (out0 : List Nat) (e : Ending) (w' : World) : Prop := ∃ b, e = .returned (.bool b) ∧ Below B w w' ∧ blk w' H (u8Arr (turnF p out0)) 5 ∧ ShrF out0 (turnF p out0) b
set_option maxRecDepth 100000 in
set_option maxHeartbeats 8000000 in
theorem yshr_at (B H : Nat) (w W0 : World) (p : PProg) (vt' : Value) (x' : Option Addr) (k' : Nat) (out0 : List Nat) (vi : Value) (hvi : vi = .slice (some ⟨H, 0, none⟩) (p.code.length + 1) (p.code.length + 1))
    (hW0 : W0 = w.alloc (.cells (progC vt' p (.slice x' p.code.length k')) 25)) (HW0 : Hid (ShW B w W0 H w.heap.size (progC vt' p (.slice x' p.code.length k')) out0))
    (hlen : p.code.length ≤ 200) (hin : Hid (InP p)) (g1 : p.code.length ≤ k') (g2 : k' ≤ 9223372036854775807) (HP0 : Hid (PartF p out0))
    (HO : Hid (∀ (w1 : World) (k m : Nat), Below B w w1 → k < p.code.length → m < 256 → Calls Tryz.prog 108 #[.agg #[vt', str p.locals, str p.globs, .slice x' p.code.length k'], .int .i64 k, .int .u8 (m : Int)] w1 (AggPost w1 (.int .u8 ((outN p k m : Nat) : Int)))))
    (HN : Hid (∀ (w1 : World) (k : Nat), Below B w w1 → Calls Tryz.prog 109 #[.agg (progC vt' p (.slice x' p.code.length k')), .int .i64 k] w1 (RowPost w1 (nextV p k)))) :
    Calls Tryz.prog 64 #[.agg (progC vt' p (.slice x' p.code.length k')), vi] w (ShrPost B H w p out0) := by
  have p3 : W0.cell? ⟨w.heap.size, 3, none⟩ = some (.slice x' p.code.length k') := blk_cell HW0.out.prog 3 _ rfl
  subst hvi
  go_enter Tryz.func64, Tryz.ntmps64
  go_upto_region 1 with (fail)
  rw [← hW0]
  clear hW0
  obtain ⟨N, hN⟩ : ∃ N, N = w.heap.size := ⟨_, rfl⟩
  rw [← hN] at HW0 p3 ⊢
  clear hN
  go_wp2_with (fail)
  clear p3
  go_loopw [5, 13] (fun v5 v13 wr => ∃ (k : Nat) (out : List Nat) (b : Bool), k ≤ p.code.length ∧ v5 = .bool b ∧ v13 = .int .i64 k ∧ Hid (ShW B w wr H N (progC vt' p (.slice x' p.code.length k')) out) ∧ Hid (PartF p out) ∧ Hid (out = (List.range k).foldl (sweepF p) out0) ∧ Hid (ShrF out0 out b)) (fun _ v13 _ => p.code.length - (intOf v13).toNat)
  case atStart => exact ⟨0, out0, false, Nat.zero_le _, rfl, rfl, HW0, HP0, Lib.hid rfl, Lib.hid (ShrF.start _)⟩
  case round =>
    obtain ⟨k, out, bt, hk, rfl, rfl, HW, HP, HR, HT⟩ := hrel
    clear HW0 HP0
    by_cases hkl : k < p.code.length
    · have hki : (k : Int) < (p.code.length : Int) := by omega
      have hki2 : (k : Int) < (p.code.length : Int) + 1 := by omega
      have hk0 : (0 : Int) ≤ (k : Int) := by omega
      have hol : k < out.length := by have := HP.out.len; omega
      have hz := HP.out.lt k
      have ch := blk_cell HW.out.ar k _ (u8Arr_get hol)
      obtain ⟨z, hzz⟩ : ∃ z, z = out.getD k 0 := ⟨_, rfl⟩
      have HZ := Lib.hid hzz
      rw [← hzz] at hz ch
      have HCE : Hid (∀ w', ShW B w w' H N (progC vt' p (.slice x' p.code.length k')) out → w'.cell? ⟨N, 0, none⟩ = some vt' ∧ w'.cell? ⟨N, 1, none⟩ = some (str p.locals) ∧ w'.cell? ⟨N, 2, none⟩ = some (str p.globs) ∧ w'.cell? ⟨N, 3, none⟩ = some (.slice x' p.code.length k')) := Lib.hid fun w' hq => ⟨blk_cell hq.prog 0 _ rfl, blk_cell hq.prog 1 _ rfl, blk_cell hq.prog 2 _ rfl, blk_cell hq.prog 3 _ rfl⟩
      clear hzz
      go_upto_region 5 with (fail)
      obtain ⟨p0, p1, p2, p3⟩ := HCE.out _ HW.out
      go_region_held3 (fun w' => w'.cell? ⟨H, k, none⟩ = some (.int .u8 (z : Int)) ∧ w'.cell? ⟨N, 0, none⟩ = some vt' ∧ w'.cell? ⟨N, 1, none⟩ = some (str p.locals) ∧ w'.cell? ⟨N, 2, none⟩ = some (str p.globs) ∧ w'.cell? ⟨N, 3, none⟩ = some (.slice x' p.code.length k')) (go_keep) (first
        | (go_at_call 108; ((with_reducible refine (HO.out _ k z (HW.out.below.trans ((Below.refl wr.heap.size wr).drew.mono HW.out.size)) hkl hz).mono ?_); rintro e1 w4 ⟨rfl, hb4⟩; have HW4 := Lib.hid (HW.out.next ((Below.refl wr.heap.size wr).drew.trans hb4)); clear hb4 ch p0 p1 p2 p3; have ch : w4.cell? ⟨H, k, none⟩ = some (.int .u8 (z : Int)) := (by rw [HZ.out]; exact blk_cell HW4.out.ar k _ (u8Arr_get hol)); obtain ⟨p0, p1, p2, p3⟩ := HCE.out _ HW4.out)))
      all_goals
        clear ch p0 p1 p2 p3 HCE
        have hml : outN p k z < 256 := outN_lt hz
        have HSW : Hid (sweepF p out k = (nextL p k).foldl (meetN (outN p k z)) out) := Lib.hid (by unfold sweepF; rw [HZ.out])
        have HPM : Hid (∀ j, PartF p (((nextL p k).take j).foldl (meetN (outN p k z)) out)) := Lib.hid fun j => PartF.meets (m := z) hk hz (fun S hS a ha hx => by rw [HZ.out]; exact HP.out.sure S hS k hk a ha hx) _ (fun n hn => List.mem_of_mem_take hn) HP.out
        generalize outN p k z = m at hml HSW HPM
        clear HZ hz
        go_wp2_with (first
          | (refine wpList_loadB rfl 25 _ rfl N (progC vt' p (.slice x' p.code.length k')) rfl 25 HW4.out.prog _ Tryz.underlying25 rfl prog_info ?_)
          | (go_at_call 109; refine (HN.out _ k HW4.out.below).mono ?_; rintro e1 w5 ⟨v8, rfl, ho, hb5⟩; obtain ⟨ad, cap, hv8, hcp, hcp2⟩ := own_form ho; subst hv8; have HO5 := Lib.hid (ownsRow_le ho (Nat.zero_le _)); have HW5 := Lib.hid (HW4.out.next hb5); clear ho hb5))
        have hll : (nextV p k).length = (nextL p k).length := by rw [nextL_cast]; simp
        rw [hll] at hcp HO5 ⊢
        clear hll HW4 HW
        have hl2 := (next_sorted (q := p) k).1
        go_loopw [5, 27] (fun v5 v27 wr => ∃ (j : Nat) (hc : List Nat) (b : Bool), j ≤ (nextL p k).length ∧ v5 = .bool b ∧ v27 = .int .i64 j ∧ Hid (ShW B w wr H N (progC vt' p (.slice x' p.code.length k')) hc) ∧ Hid (wr.ownsRow 0 3 1 (.slice ad (nextL p k).length cap) (nextL p k).length (i64s (nextV p k))) ∧
          Hid (hc = ((nextL p k).take j).foldl (meetN m) out) ∧ Hid (ShrF out0 hc b)) (fun _ v27 _ => (nextL p k).length - (intOf v27).toNat)
        case atStart => exact ⟨0, out, bt, Nat.zero_le _, rfl, rfl, HW5, HO5, Lib.hid rfl, HT⟩
        case round =>
          obtain ⟨j, hc, b, hj, rfl, rfl, HW, HO, HS, HT2⟩ := hrel
          clear HW5 HO5 HT
          have hpc : PartF p hc := by rw [HS.out]; exact HPM.out j
          by_cases hjl : j < (nextL p k).length
          · have hji : (j : Int) < ((nextL p k).length : Int) := by omega
            obtain ⟨n, hn⟩ : ∃ n, (nextL p k)[j]? = some n := ⟨_, List.getElem?_eq_getElem hjl⟩
            have hnl := (next_le hin.out (List.mem_of_getElem? hn)).1
            have hni : (n : Int) < (p.code.length : Int) + 1 := by omega
            have hn0 : (0 : Int) ≤ (n : Int) := by omega
            have hnv : (nextV p k)[j]? = some (n : Int) := by rw [nextL_cast]; simp [hn]
            obtain ⟨g, hg, cn⟩ : ∃ g, ad = some ⟨g, 0, none⟩ ∧ wr.cell? ⟨g, j, none⟩ = some (.int .i64 (n : Int)) := by
              obtain ⟨a0, c0, e0, -, -, h3⟩ := RowAt.of_own HO.out
              simp only [Value.slice.injEq] at e0
              obtain ⟨rfl, -, -⟩ := e0
              rcases h3 with h3 | ⟨b1, o1, rfl, -, hc1⟩
              · have := congrArg List.length h3; simp at this; rw [nextL_cast] at this; simp at this; rw [this] at hn; simp at hn
              · rcases HO.out.2 with ⟨hv, _⟩ | ⟨g, cp, cr, hv, _⟩
                · simp at hv
                · simp only [Value.slice.injEq, Option.some.injEq, Addr.mk.injEq] at hv
                  obtain ⟨⟨rfl, rfl, -⟩, -, -⟩ := hv
                  exact ⟨b1, rfl, by have := hc1 j _ (i64s_get hnv); rw [Nat.zero_add] at this; exact this⟩
            subst hg
            have hcl : n < hc.length := by have := hpc.len; omega
            have hyl := hpc.lt n
            have ch := blk_cell HW.out.ar n _ (u8Arr_get hcl)
            have fh := blk_frozen HW.out.ar n
            have HS2 : Hid (meetN m hc n = ((nextL p k).take (j + 1)).foldl (meetN m) out) := Lib.hid (by rw [meets_next hn, ← HS.out])
            have hpc2 : PartF p (meetN m hc n) := by rw [HS2.out]; exact HPM.out (j + 1)
            by_cases hz : butN (hc.getD n 0) m = 0
            · have hq : (bits .andNot .u8 ((hc.getD n 0 : Nat) : Int) (m : Int) != 0) = false := by rw [but_u8 hyl hml, hz]; rfl
              have HS3 : Hid (hc = ((nextL p k).take (j + 1)).foldl (meetN m) out) := Lib.hid (by rw [← HS2.out, meet_keep hz])
              generalize hc.getD n 0 = y at ch hq
              clear hn hnv hpc hpc2 hyl hz HS HS2 hcl
              go_wp2
              go_roundw
              case rel => exact ⟨j + 1, _, b, by omega, rfl, by go_num, HW, HO, HS3, HT2⟩
              case measure => simp [intOf]; omega
            · have hq : (bits .andNot .u8 ((hc.getD n 0 : Nat) : Int) (m : Int) != 0) = true := by rw [but_u8 hyl hml]; simpa using hz
              have HT3 := Lib.hid (HT2.out.took hpc hpc2 hnl hz)
              have HAN := Lib.hid (and9_u8 hyl hml)
              have HW2 : Hid (ShW B w (wr.setCell ⟨H, n, none⟩ (.int .u8 (bits .and .u8 ((hc.getD n 0 : Nat) : Int) (m : Int)))) H N (progC vt' p (.slice x' p.code.length k')) (meetN m hc n)) := Lib.hid (by rw [HAN.out]; exact HW.out.put n _)
              have HOn : Hid ((wr.setCell ⟨H, n, none⟩ (.int .u8 (bits .and .u8 ((hc.getD n 0 : Nat) : Int) (m : Int)))).ownsRow 0 3 1 (.slice (some ⟨g, 0, none⟩) (nextL p k).length cap) (nextL p k).length (i64s (nextV p k))) := Lib.hid (by
                rw [setCell_putB HW.out.ar]
                exact own_same HO.out (fun g' hg' _ => putB_ne wr (own_ne HO.out HW.out.ar (by decide) g' hg') _ _))
              generalize hc.getD n 0 = y at ch HW2 HOn hq
              clear hn hnv hpc hpc2 hyl hz HAN HW HO HS HT2 hcl
              go_wp2
              go_roundw
              case rel => exact ⟨j + 1, _, true, by omega, rfl, by go_num, HW2, HOn, HS2, HT3⟩
              case measure => simp [intOf]; omega
          · have hje : j = (nextL p k).length := by omega
            have HE : Hid (hc = (List.range (k + 1)).foldl (sweepF p) out0) := Lib.hid (by
              have h1 := HS.out
              rw [hje, List.take_length] at h1
              rw [sweepsF_next, ← HR.out, HSW.out, h1])
            have HP2 := Lib.hid hpc
            have hjn : ¬ ((j : Int) < ((nextL p k).length : Int)) := by omega
            clear hje HS HO hpc HPM HSW HR HP
            go_wp2
            go_roundw
            case rel => exact ⟨k + 1, hc, b, by omega, rfl, by go_num, HW, HP2, HE, HT2⟩
            case measure => simp [intOf]; omega
    · have hke : k = p.code.length := by omega
      have HX : Hid (ShrPost B H w p out0 (.returned (.bool bt)) wr) := Lib.hid (by
        have e : out = turnF p out0 := by
          have h1 := HR.out
          rw [hke] at h1
          exact h1
        refine ⟨bt, rfl, HW.out.below, ?_, ?_⟩
        · rw [← e]; exact HW.out.ar
        · rw [← e]; exact HT.out)
      have hkn : ¬ ((k : Int) < (p.code.length : Int)) := by omega
      clear hke HR HW HP HT
      go_wp2
      go_ret
      exact HX.out
theorem yshr_n (B H : Nat) (w : World) (p : PProg) (vt' : Value) (x' : Option Addr) (k' : Nat) (out0 : List Nat) (h : ProgAt w (.agg (progC vt' p (.slice x' p.code.length k'))) p) (hB : ∀ w1, Below B w w1 → ProgAt w1 (.agg (progC vt' p (.slice x' p.code.length k'))) p) (hs : OkP p) (hin : InP p) (hlen : p.code.length ≤ 200) (hBH : B ≤ H) (ha : blk w H (u8Arr out0) 5) (hp : PartF p out0) :
    Calls Tryz.prog 64 #[.agg (progC vt' p (.slice x' p.code.length k')), .slice (some ⟨H, 0, none⟩) (p.code.length + 1) (p.code.length + 1)] w (ShrPost B H w p out0) := by
  obtain ⟨vt2, vc, e2, htl, hc⟩ := id h
  obtain ⟨x2, kx2, e3, g1, g2, g3⟩ := id hc
  simp only [Value.agg.injEq, progC] at e2
  subst e3
  have e4 : x' = x2 ∧ k' = kx2 := by
    have := congrArg (fun a : Array Value => a[3]?) e2
    simpa using this
  obtain ⟨rfl, rfl⟩ := e4
  unfold maxLen at g2
  have hHl := blk_lt ha
  have hwb : Below w.heap.size w (w.alloc (.cells (progC vt' p (.slice x' p.code.length k')) 25)) := (Below.refl _ _).alloc (Nat.le_refl _) _
  exact yshr_at B H w _ p vt' x' k' out0 _ rfl rfl (Lib.hid ⟨hwb.mono (by omega), blk_new _ _ _, blk_below ha hwb, hHl, hBH⟩) hlen (Lib.hid hin) g1 (by omega) (Lib.hid hp) (Lib.hid fun w1 k m hb hk hm => by rw [← outV_nat hk]; exact yout_n _ p w1 k m (hB w1 hb) hs.ins hm) (Lib.hid fun w1 k hb => pnext_n _ p w1 k (hB w1 hb) hin (by omega))

/-! ### In -/
set_option maxRecDepth 100000 in
set_option maxHeartbeats 4000000 in
theorem yin_at (w W0 : World) (p : PProg) (vt' : Value) (x' : Option Addr) (k' : Nat)
    (hW0 : W0 = w.alloc (.cells (progC vt' p (.slice x' p.code.length k')) 25)) (HS : Hid (Below w.heap.size w W0)) (KP : Hid (blk W0 w.heap.size (progC vt' p (.slice x' p.code.length k')) 25))
    (hlen : p.code.length ≤ 200) (g1 : p.code.length ≤ k') (g2 : k' ≤ 9223372036854775807)
    (HREP : Hid (∀ (w1 : World) (G : Nat), w1.cell? ⟨G, 0, none⟩ = some (.int .u8 255) → Calls Tryz.prog 63 #[.slice (some ⟨G, 0, none⟩) 1 1, .int .i64 ((p.code.length : Int) + 1)] w1 fun e w' => e = .returned (.slice (some ⟨w1.heap.size, 0, none⟩) (p.code.length + 1) (p.code.length + 1)) ∧ Below w1.heap.size w1 w' ∧ blk w' w1.heap.size (u8Arr (List.replicate (p.code.length + 1) 255)) 5))
    (HSH : Hid (∀ (w1 : World) (H : Nat) (out : List Nat), LvW w w1 H (progC vt' p (.slice x' p.code.length k')) out → PartF p out → Calls Tryz.prog 64 #[.agg (progC vt' p (.slice x' p.code.length k')), .slice (some ⟨H, 0, none⟩) (p.code.length + 1) (p.code.length + 1)] w1 (ShrPost (w.heap.size + 1) H w1 p out))) :
    Calls Tryz.prog 28 #[.agg (progC vt' p (.slice x' p.code.length k'))] w (U8sPost w (freshL p)) := by
  have p3 : W0.cell? ⟨w.heap.size, 3, none⟩ = some (.slice x' p.code.length k') := blk_cell KP.out 3 _ rfl
  go_enter Tryz.func28, Tryz.ntmps28
  go_upto_region 1 with (fail)
  rw [← hW0]
  clear hW0
  have KP1 : Hid (blk (W0.alloc (.cells #[.int .u8 255] 5)) w.heap.size (progC vt' p (.slice x' p.code.length k')) 25) := Lib.hid (blk_alloc KP.out _)
  have HS1 : Hid (Below w.heap.size w (W0.alloc (.cells #[.int .u8 255] 5))) := Lib.hid (HS.out.trans (((Below.refl _ _).alloc (Nat.le_refl _) _).mono HS.out.size))
  have HC1 : Hid ((W0.alloc (.cells #[.int .u8 255] 5)).cell? ⟨W0.heap.size, 0, none⟩ = some (.int .u8 255)) := Lib.hid (blk_cell (blk_new _ _ _) 0 _ rfl)
  have HSZ : Hid (w.heap.size < (W0.alloc (.cells #[.int .u8 255] 5)).heap.size) := Lib.hid (by
    have := blk_lt KP1.out; exact this)
  have p4 : (W0.alloc (.cells #[.int .u8 255] 5)).cell? ⟨w.heap.size, 3, none⟩ = some (.slice x' p.code.length k') := blk_cell KP1.out 3 _ rfl
  clear p3
  go_upto_block 0 with (go_at_call 63; refine (HREP.out _ _ HC1.out).mono ?_; rintro e1 w1 ⟨rfl, hb1, ha1⟩; have HB1 := Lib.hid hb1; have HA1 := Lib.hid ha1; clear hb1 ha1 p4)
  have HW0 : Hid (LvW w w1 (W0.alloc (.cells #[.int .u8 255] 5)).heap.size (progC vt' p (.slice x' p.code.length k')) (List.replicate (p.code.length + 1) 255)) := Lib.hid ⟨HS1.out.trans (HB1.out.mono HS1.out.size), blk_below KP1.out HB1.out, HA1.out, HSZ.out⟩
  have he : (W0.alloc (.cells #[.int .u8 255] 5)).heap.size = W0.heap.size + 1 := Array.size_push _
  rw [he] at HW0
  generalize W0.heap.size + 1 = H at HW0 ⊢
  have HP0 := Lib.hid (PartF.start (q := p))
  clear he HB1 HA1 KP1 HS1 HC1 HSZ HS KP HREP
  go_wp2_with (fail)
  go_loopg [12] (8 * (p.code.length + 1) + 1) (fun gk v12 wr => ∃ out : List Nat, Hid (LvW w wr H (progC vt' p (.slice x' p.code.length k')) out) ∧ Hid (PartF p out) ∧ Hid (totN out < gk))
  case atStart => exact ⟨_, HW0, HP0, Lib.hid (Nat.lt_succ_of_le (tot_most HP0.out))⟩
  case round =>
    obtain ⟨out, HW, HP, HG⟩ := hrel
    clear HW0 HP0
    go_upto_if 12 with (first
      | (refine wpList_loadB rfl 25 _ rfl w.heap.size (progC vt' p (.slice x' p.code.length k')) rfl 25 HW.out.prog _ Tryz.underlying25 rfl prog_info ?_)
      | (go_at_call 64; refine (HSH.out _ H out HW.out HP.out).mono ?_; rintro e1 w2 ⟨b, rfl, hb2, ha2, ht2⟩; have HW2 : Hid (LvW w w2 H (progC vt' p (.slice x' p.code.length k')) (turnF p out)) := Lib.hid ⟨HW.out.below.trans (hb2.mono (by omega)), by unfold blk; rw [hb2.block _ (by omega)]; exact HW.out.prog, ha2, HW.out.hH⟩; have HT := Lib.hid ht2; clear hb2 ha2 ht2))
    have HP2 := Lib.hid HP.out.turn
    cases b with
    | true =>
      have HL := Lib.hid (HT.out.less rfl)
      have HM : Hid (totN out < gk) := HG
      go_wp2
      go_roundg (totN out)
      case measure => exact HM.out
      case rel => exact ⟨_, HW2, HP2, HL⟩
    | false =>
      have HE := Lib.hid (shr_done HT.out HP.out rfl)
      have HX : Hid (U8sPost w (freshL p) (.returned (.slice (some ⟨H, 0, none⟩) (p.code.length + 1) (p.code.length + 1))) w2) := Lib.hid (by
        have h1 := HW2.out.post HP2.out.len (by omega)
        rw [HE.out] at h1
        exact h1)
      clear HE HT HW HP HG HW2 HP2
      go_wp2
      go_ret
      exact HX.out
theorem yin_n (v : Value) (p : PProg) (w : World) (h : ProgAt w v p) (hs : OkP p) (hin : InP p) (hlen : p.code.length ≤ 200) : Calls Tryz.prog 28 #[v] w (U8sPost w (freshL p)) := by
  obtain ⟨vt', vc, rfl, htl, hc⟩ := id h
  obtain ⟨x', kx', rfl, g1, g2, g3⟩ := id hc
  unfold maxLen at g2
  have hwb : Below w.heap.size w (w.alloc (.cells (progC vt' p (.slice x' p.code.length kx')) 25)) := (Below.refl _ _).alloc (Nat.le_refl _) _
  refine yin_at w _ p vt' x' kx' rfl (Lib.hid hwb) (Lib.hid (blk_new _ _ _)) hlen g1 (by omega) (Lib.hid fun w1 G hg => ?_) (Lib.hid fun w1 H out hq hp => ?_)
  · have h1 := repU8_n w1 G (p.code.length + 1) 255 hg (by omega) (by omega)
    rwa [Int.natCast_add] at h1
  · exact yshr_n (w.heap.size + 1) H w1 p vt' x' kx' out (h.below hq.below) (fun w2 hb => h.below (hq.below.trans (hb.mono (by omega)))) hs hin hlen (by have := hq.hH; omega) hq.ar hp
end Go.Proofs.YtcjhgibhenocpaaGreatDoor
