/-
  The contract of meets: what all ways to a place have.
-/
import Derived.Test.YtfnoldopjnegfaaDoorVPU
import Derived.Deep.LoopGhost
import Derived.Deep.RegionHeld3
import Derived.Deep.CutRange
import Derived.Deep.CutBlock
import Derived.Deep.QuietTactic
namespace Go.Proofs.YtfnoldopjnegfaaDoor
set_option linter.unusedSimpArgs false
set_option linter.unusedVariables false
open Go.RowKit

set_option maxRecDepth 100000 in
set_option maxHeartbeats 8000000 in
theorem lmeets_at (w W0 : World) (p : PProg) (x x' : Option Addr) (kx kx' b4 o4 c4 a : Nat) (l : List Nat)
    (hW0 : W0 = w.alloc (.cells (progC (.slice x p.types.length kx) p (.slice x' p.code.length kx')) 25)) (HK : Hid (OneK w W0 b4 o4 l x x' kx kx' p)) (hlen : p.code.length ≤ 200) (hin : Hid (InP p)) (g2 : kx' ≤ 9223372036854775807) (g1 : p.code.length ≤ kx') (hc4 : p.code.length + 1 ≤ c4) (hd4 : c4 ≤ 9223372036854775807) (ha : a ≤ p.code.length) (HL : Hid (∀ k, l.getD k 0 < 256))
    (HOU : Hid (∀ (w1 : World) (k m : Nat), ProgAt w1 (.agg (progC (.slice x p.types.length kx) p (.slice x' p.code.length kx'))) p → k < p.code.length → m < 256 → Calls Tryd.prog 14 #[.agg #[.slice x p.types.length kx, str p.locals, str p.globs, .slice x' p.code.length kx'], .int .i64 k, .int .u8 (m : Int)] w1 (AggPost w1 (.int .u8 ((outN p k m : Nat) : Int)))))
    (HNX : Hid (∀ (w1 : World) (k : Nat), ProgAt w1 (.agg (progC (.slice x p.types.length kx) p (.slice x' p.code.length kx'))) p → Calls Tryd.prog 19 #[.agg (progC (.slice x p.types.length kx) p (.slice x' p.code.length kx')), .int .i64 k] w1 (RowPost w1 (nextV p k)))) :
    Calls Tryd.prog 18 #[.agg (progC (.slice x p.types.length kx) p (.slice x' p.code.length kx')), .slice (some ⟨b4, o4, none⟩) (p.code.length + 1) c4, .int .i64 a] w (AggPost w (.int .u8 ((meetsN p l a : Nat) : Int))) := by
  have p3 := HK.out.keep.cells.2.2.2
  go_enter Tryd.func18, Tryd.ntmps18
  go_upto_region 1 with (fail)
  rw [← hW0]
  clear hW0
  go_wp2_with (fail)
  clear p3
  go_loopw [7, 14] (fun v7 v14 wr => ∃ (k m : Nat), k ≤ p.code.length ∧ v14 = .int .i64 k ∧ v7 = .int .u8 (m : Int) ∧ Hid (OneK w wr b4 o4 l x x' kx kx' p) ∧ Hid (m = (List.range k).foldl (meetK p l a) 255)) (fun _ v14 _ => p.code.length - (intOf v14).toNat)
  case atStart => exact ⟨0, 255, Nat.zero_le _, rfl, rfl, HK, Lib.hid rfl⟩
  case round =>
    obtain ⟨k, m0, hk, rfl, rfl, HK, HM⟩ := hrel
    by_cases hkl : k < p.code.length
    · have hki : (k : Int) < (p.code.length : Int) := by omega
      have hki2 : (k : Int) < (p.code.length : Int) + 1 := by omega
      have hk0 : (0 : Int) ≤ (k : Int) := by omega
      go_wp2_with (first
        | (refine wpList_loadB rfl 25 _ rfl w.heap.size (progC (.slice x p.types.length kx) p (.slice x' p.code.length kx')) rfl 25 HK.out.keep.blk _ Tryd.underlying25 rfl prog_info ?_)
        | (go_at_call 19; refine (HNX.out _ k HK.out.keep.at').mono ?_; rintro e1 w5 ⟨v8, rfl, ho, hb⟩; obtain ⟨ad, cap, hv8, hcp, hcp2⟩ := own_form ho; subst hv8; have HRA := Lib.hid (RowAt.of_own ho); have HK := Lib.hid (HK.out.next hb); clear ho hb))
      have hll : (nextV p k).length = (nextL p k).length := by rw [nextL_cast]; simp
      rw [hll] at hcp HRA ⊢
      clear hll
      have hl2 := (next_sorted (q := p) k).1
      have hm0 : m0 < 256 := by rw [HM.out]; exact meetKs_lt _ (by omega)
      go_loopw [7, 21] (fun v7 v21 wx => ∃ (j m : Nat), j ≤ (nextL p k).length ∧ v21 = .int .i64 j ∧ v7 = .int .u8 (m : Int) ∧ Hid (OneK w wx b4 o4 l x x' kx kx' p) ∧ Hid (RowAt wx (.slice ad (nextL p k).length cap) (i64s (nextV p k))) ∧ Hid (m = ((nextL p k).take j).foldl (meetI p l a k) m0)) (fun _ v21 _ => (nextL p k).length - (intOf v21).toNat)
      case atStart => exact ⟨0, m0, Nat.zero_le _, rfl, rfl, HK, HRA, Lib.hid rfl⟩
      case round =>
        obtain ⟨j, m, hj, rfl, rfl, HK, HRA, HMM⟩ := hrel
        have hm : m < 256 := by rw [HMM.out]; exact meetIs_lt _ hm0
        by_cases hjl : j < (nextL p k).length
        · have hji : (j : Int) < ((nextL p k).length : Int) := by omega
          obtain ⟨n, hn⟩ : ∃ n, (nextL p k)[j]? = some n := ⟨_, List.getElem?_eq_getElem hjl⟩
          obtain ⟨b9, o9, hb9, c9⟩ : ∃ b9 o9, ad = some ⟨b9, o9, none⟩ ∧ wr.cell? ⟨b9, o9 + j, none⟩ = some (.int .i64 (n : Int)) := by
            obtain ⟨a0, c0, e1, -, -, h3⟩ := rowA_form HRA.out
            simp only [Value.slice.injEq] at e1
            obtain ⟨rfl, -, -⟩ := e1
            obtain ⟨b, o, e2, -, h4⟩ := h3 j (n : Int) (by rw [nextL_cast]; simp [hn])
            exact ⟨b, o, e2, h4⟩
          subst hb9
          by_cases hna : n = a
          · subst hna
            have HZ : Hid (l.getD k 0 = l.getD k 0) := Lib.hid rfl
            have hz := HL.out k
            have HM2 : Hid (m &&& outN p k (l.getD k 0) = ((nextL p k).take (j + 1)).foldl (meetI p l n k) m0) := Lib.hid (by
              rw [List.take_add_one, hn, List.foldl_append, ← HMM.out]
              show _ = meetI p l n k m n
              unfold meetI; rw [if_pos rfl])
            have hzl := outN_lt (q := p) (k := k) hz
            have HAN := Lib.hid (and9_u8 hm hzl)
            have HO1 : Hid (∀ w1, ProgAt w1 (.agg (progC (.slice x p.types.length kx) p (.slice x' p.code.length kx'))) p → Calls Tryd.prog 14 #[.agg #[.slice x p.types.length kx, str p.locals, str p.globs, .slice x' p.code.length kx'], .int .i64 k, .int .u8 ((l.getD k 0 : Nat) : Int)] w1 (AggPost w1 (.int .u8 ((outN p k (l.getD k 0) : Nat) : Int)))) := Lib.hid fun w1 h1 => HOU.out w1 k _ h1 hkl hz
            have HFA : Hid (∀ w', OneK w w' b4 o4 l x x' kx kx' p → w'.cell? ⟨b4, o4 + k, none⟩ = some (.int .u8 ((l.getD k 0 : Nat) : Int)) ∧ w'.cell? ⟨w.heap.size, 0, none⟩ = some (.slice x p.types.length kx) ∧ w'.cell? ⟨w.heap.size, 1, none⟩ = some (str p.locals) ∧ w'.cell? ⟨w.heap.size, 2, none⟩ = some (str p.globs) ∧ w'.cell? ⟨w.heap.size, 3, none⟩ = some (.slice x' p.code.length kx')) := Lib.hid fun w' hq => hq.facts hk rfl
            generalize outN p k (l.getD k 0) = y at HM2 HAN HO1
            generalize l.getD k 0 = z at HO1 HFA
            obtain ⟨qk, p0, p1, p2, p3⟩ := HFA.out _ HK.out
            have HK := Lib.hid (HK.out.next (Below.refl _ _).drew)
            have HRA : Hid (RowAt wr.drew (.slice (some ⟨b9, o9, none⟩) (nextL p k).length cap) (i64s (nextV p k))) := Lib.hid (HRA.out.below (Below.refl _ _).drew)
            clear hn hz hzl HMM
            go_upto_region 9 with (fail)
            go_region_held3 (fun w' => w'.cell? ⟨b4, o4 + k, none⟩ = some (.int .u8 (z : Int)) ∧ w'.cell? ⟨w.heap.size, 0, none⟩ = some (.slice x p.types.length kx) ∧ w'.cell? ⟨w.heap.size, 1, none⟩ = some (str p.locals) ∧ w'.cell? ⟨w.heap.size, 2, none⟩ = some (str p.globs) ∧ w'.cell? ⟨w.heap.size, 3, none⟩ = some (.slice x' p.code.length kx')) (go_keep) (first
              | (go_at_call 14; ((with_reducible refine (HO1.out _ HK.out.keep.at').mono ?_); rintro e wq ⟨rfl, hb⟩; have HK := Lib.hid (HK.out.next hb); have HRA := Lib.hid (HRA.out.below hb); clear hb qk p0 p1 p2 p3 c9; obtain ⟨qk, p0, p1, p2, p3⟩ := HFA.out _ HK.out)))
            all_goals
              clear qk p0 p1 p2 p3
              go_wp2
              go_roundw
              case rel => exact ⟨j + 1, _, by omega, by go_num, by rw [HAN.out], HK, HRA, HM2⟩
              case measure => simp [intOf]; omega
          · have hne : ¬ ((n : Int) = (a : Int)) := by omega
            have HM2 : Hid (m = ((nextL p k).take (j + 1)).foldl (meetI p l a k) m0) := Lib.hid (by
              rw [List.take_add_one, hn, List.foldl_append, ← HMM.out]
              show _ = meetI p l a k m n
              unfold meetI; rw [if_neg hna])
            clear hn HMM hna
            go_wp2
            go_roundw
            case rel => exact ⟨j + 1, _, by omega, by go_num, rfl, HK, HRA, HM2⟩
            case measure => simp [intOf]; omega
        · have hje : j = (nextL p k).length := by omega
          have HE : Hid (m = (List.range (k + 1)).foldl (meetK p l a) 255) := Lib.hid (by
            have h1 := HMM.out
            rw [hje, List.take_length] at h1
            rw [List.range_succ, List.foldl_append, ← HM.out]
            exact h1)
          have hjn : ¬ ((j : Int) < ((nextL p k).length : Int)) := by omega
          clear hje HMM HRA HM
          go_wp2
          go_roundw
          case rel => exact ⟨k + 1, m, by omega, by go_num, rfl, HK, HE⟩
          case measure => simp [intOf]; omega
    · have hke : k = p.code.length := by omega
      have HX : Hid (AggPost w (.int .u8 ((meetsN p l a : Nat) : Int)) (.returned (.int .u8 (m0 : Int))) wr) := Lib.hid (by
        refine ⟨?_, HK.out.below⟩
        have h1 := HM.out
        rw [hke] at h1
        rw [h1]; rfl)
      have hkn : ¬ ((k : Int) < (p.code.length : Int)) := by omega
      clear hke HM HK
      go_wp2
      go_ret
      exact HX.out
theorem lmeets_n (p : PProg) (w : World) (x x' : Option Addr) (kx kx' b4 o4 c4 a : Nat) (l : List Nat) (h : ProgAt w (.agg (progC (.slice x p.types.length kx) p (.slice x' p.code.length kx'))) p) (hs : OkP p) (hin : InP p) (hlen : p.code.length ≤ 200) (hu : U8At w b4 o4 p.code.length l) (hl : ∀ k, l.getD k 0 < 256) (g1 : p.code.length ≤ kx') (g2 : kx' ≤ 9223372036854775807) (hc4 : p.code.length + 1 ≤ c4) (hd4 : c4 ≤ 9223372036854775807) (ha : a ≤ p.code.length) :
    Calls Tryd.prog 18 #[.agg (progC (.slice x p.types.length kx) p (.slice x' p.code.length kx')), .slice (some ⟨b4, o4, none⟩) (p.code.length + 1) c4, .int .i64 a] w (AggPost w (.int .u8 ((meetsN p l a : Nat) : Int))) := by
  have hwb : Below w.heap.size w (w.alloc (.cells (progC (.slice x p.types.length kx) p (.slice x' p.code.length kx')) 25)) := (Below.refl _ _).alloc (Nat.le_refl _) _
  exact lmeets_at w _ p x x' kx kx' b4 o4 c4 a l rfl (Lib.hid ⟨keep_new h, hwb, hu.next hwb⟩) hlen (Lib.hid hin) g2 g1 hc4 hd4 ha (Lib.hid hl) (Lib.hid fun w1 k m h1 hk hm => by rw [← outV_nat hk]; exact yout_n _ p w1 k m h1 hs.ins hm) (Lib.hid fun w1 k h1 => rnext_n _ p w1 k h1 hs hin (by omega))
end Go.Proofs.YtfnoldopjnegfaaDoor
