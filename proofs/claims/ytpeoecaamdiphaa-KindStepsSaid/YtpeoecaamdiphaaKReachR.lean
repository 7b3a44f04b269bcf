/-
  The contract of Reach (the document's).
-/
import Derived.Test.YtpeoecaamdiphaaKReachQ
import Derived.Test.YtpeoecaamdiphaaKMask
namespace Go.Proofs.Ytpeoecaamdiphaa
open Go.RowKit

/-- The last loop's relation: the answer so far. -/
def ORel (w : World) (e : TypeId) (bs : List Bool) (ts : List ByteArray) (n k : Nat) (v : Value) (wr : World) : Prop :=
  wr.ownsRow (w.heap.size + 1) 3 1 v (outL ts n k).length (ints (outL ts n k)) ∧ Below (w.heap.size + 1) (hadW w e bs) wr
theorem orel_start (w : World) (e : TypeId) (bs : List Bool) (ts : List ByteArray) (n : Nat) : ORel w e bs ts n 0 (.slice (some ⟨w.heap.size + 1, 0, none⟩) 1 1) ((hadW w e bs).alloc (.cells #[int1 n] 3)) := by
  have h := own_new (hadW w e bs) (w.heap.size + 1) (by rw [had_size]; omega) n
  rw [had_size] at h
  refine ⟨by simpa [outL] using h, (Below.refl _ _).alloc (by rw [had_size]; omega) _⟩
theorem ORel.size {w : World} {e : TypeId} {bs : List Bool} {ts : List ByteArray} {n k : Nat} {v : Value} {wr : World} (h : ORel w e bs ts n k v wr) : w.heap.size + 1 ≤ wr.heap.size := by
  have := h.2.size; rw [had_size] at this; exact this
theorem ORel.cell {w : World} {e : TypeId} {bs : List Bool} {ts : List ByteArray} {n k j : Nat} {v : Value} {wr : World} {x : Bool} (h : ORel w e bs ts n k v wr) (hx : bs[j]? = some x) : wr.cell? ⟨w.heap.size, j, none⟩ = some (.bool x) := by
  rw [h.2.cell (p := ⟨w.heap.size, j, none⟩) (Nat.lt_succ_self _)]
  exact had_cell w e hx
theorem ORel.more {w : World} {e : TypeId} {bs : List Bool} {ts : List ByteArray} {n k : Nat} {v v' : Value} {wr w' : World} {ob : Obj} (h : ORel w e bs ts n k v wr) (ho : w'.ownsRow (w.heap.size + 1) 3 1 v' ((outL ts n k).length + 1) (ints (outL ts n k) ++ [int1 k])) (hg : (wr.alloc ob).grownBy w' v.ownBlock) (hn : outL ts n (k + 1) = outL ts n k ++ [k]) : ORel w e bs ts n (k + 1) v' w' := by
  unfold ORel; rw [hn]
  refine ⟨by simpa using ho, ?_⟩
  have hb := h.2.alloc h.size ob
  exact hb.grown hg (by have := h.size; simp; omega) (fun g hg' => ((h.1.alloc ob).lt g hg').1)
theorem ORel.done {w : World} {e : TypeId} {bs : List Bool} {ts : List ByteArray} {n : Nat} {v : Value} {wr : World} (h : ORel w e bs ts n ts.length v wr) : OwnI w (reachL ts n) (.returned v) wr := by
  have hbw : Below w.heap.size w wr := (had_below w e bs).trans (h.2.mono (by omega))
  have ho := ownsRow_le h.1 (base' := w.heap.size) (by omega)
  have e1 : outL ts n ts.length = reachL ts n := rfl
  rw [e1] at ho
  obtain ⟨g, cap, rfl, _⟩ := own_shape ho (by unfold reachL; simp)
  exact ⟨_, cap, rfl, ho, hbw⟩

theorem had_start (ts : List ByteArray) {n : Nat} (h : n < 8) : Had ts n ((List.replicate 8 false).set n true) := by
  refine ⟨by simp, fun j hj => ?_, by simp [h]⟩
  rw [List.getElem?_set] at hj
  split at hj
  · next e => subst e; exact .here
  · rw [List.getElem?_replicate] at hj
    split at hj <;> simp at hj
theorem had_one {n : Nat} (h : n < 8) : 0 + 1 ≤ ((List.replicate 8 false).set n true).count true := by
  have : true ∈ (List.replicate 8 false).set n true := List.mem_of_getElem? (i := n) (by simp [h])
  have := List.count_pos_iff.2 this
  omega

set_option maxHeartbeats 4000000 in
theorem rreach_any (v : Value) (ts : List ByteArray) (t : Int) (w : World) (h : TsAt w v ts) : Calls Try.prog 24 #[v, .int .i64 t] w (OwnI w (reachD ts t)) := by
  have H := Lib.hid h
  rcases hr : oneB ts t with _ | _
  · have HR := Lib.hid hr
    rw [reach_not hr]
    clear hr h
    go_enter Try.func24, Try.ntmps24
    go_wp2_with (go_at_call 30; refine (ris_f _ ts _ _ H.out HR).mono ?_; rintro e w' ⟨rfl, rfl⟩)
    go_ret
    exact own_none _
  have HR := Lib.hid hr
  obtain ⟨n, rfl, hn, hri⟩ := one_lt hr
  rw [reach_one hr]
  obtain ⟨i0, hi, hz0, hz1, hz2⟩ := info_parts Try.infoI
  have HI := Lib.hid (And.intro hi (And.intro hz0 (And.intro hz1 hz2)))
  have HE := Lib.hid hri
  obtain ⟨a, c, rfl, h1, h2, h3⟩ := h.cases
  rcases h3 with rfl | ⟨b, o, rfl, hb, hc⟩
  · exact absurd hn (by simp)
  have HC := Lib.hid hc
  have h8 := (right_len hri).2
  have hn8 : n < 8 := by omega
  clear hr h hri hc hi hz0 hz1 hz2
  go_enter Try.func24, Try.ntmps24
  go_wp2_with (go_at_call 30; refine (ris_t _ ts _ _ H.out HR).mono ?_; rintro e w' ⟨rfl, rfl⟩)
  have e0 : (w.alloc (.cells ([Value.bool false, Value.bool false, Value.bool false, Value.bool false, Value.bool false, Value.bool false, Value.bool false, Value.bool false].set n (Value.bool true)).toArray 43)) = hadW w 43 ((List.replicate 8 false).set n true) := by
    unfold hadW; rw [List.map_set]; rfl
  rw [e0]
  go_loopw [6] (fun i wr => ∃ (k : Nat) (bs : List Bool), i = .int .i64 k ∧ k ≤ ts.length ∧ Hid (wr = hadW w 43 bs ∧ Had ts n bs ∧ (Whole ts n bs ∨ k + 1 ≤ bs.count true))) (fun i _ => ts.length - (intOf i).toNat)
  case atStart => exact ⟨0, _, rfl, Nat.zero_le _, Lib.hid ⟨rfl, had_start ts hn8, .inr (had_one hn8)⟩⟩
  case round =>
    obtain ⟨i, bs, rfl, hi, hI⟩ := hrel
    by_cases hil : i < ts.length
    · go_wp2
      go_loopw [7] (fun v wr => ∃ (k : Nat) (cs : List Bool), v = .int .i64 k ∧ k ≤ ts.length ∧ Hid (wr = hadW w 43 cs ∧ Had ts n cs ∧ Incl bs cs ∧ Upto ts k 0 bs cs)) (fun v _ => ts.length - (intOf v).toNat)
      case atStart => exact ⟨0, bs, rfl, Nat.zero_le _, Lib.hid ⟨hI.out.1, hI.out.2.1, ext_refl _, upto_start _ _⟩⟩
      case round =>
        obtain ⟨k, cs, rfl, hk, hK⟩ := hrel
        by_cases hkl : k < ts.length
        · obtain ⟨hcb, hsk⟩ := HC.out k hkl
          have h6 := (right_ty HE.out hkl).2
          have HO : Hid (oneB ts k = true) := Lib.hid (one_t (by omega) (by omega) HE.out)
          generalize hs : ty ts k = s at hcb hsk h6
          have HS := Lib.hid hs
          have HCB := Lib.hid hcb
          clear hs hcb
          go_wp2
          go_loopw [8] (fun v wr => ∃ (f : Nat) (ds : List Bool), v = .int .i64 f ∧ f ≤ s.size ∧ Hid (wr = hadW w 43 ds ∧ Had ts n ds ∧ Incl bs ds ∧ Upto ts k f bs ds)) (fun v _ => s.size - (intOf v).toNat)
          case atStart => exact ⟨0, cs, rfl, Nat.zero_le _, hK⟩
          case round =>
            obtain ⟨f, ds, rfl, hf, hF⟩ := hrel
            have hcw : wr.cell? ⟨b, o + k, none⟩ = some (.string s) := by rw [hF.out.1, (bcell (had_below w _ ds)).1 b _ hb]; exact HCB.out
            by_cases hfs : f < s.size
            · have hfs' : f < (ty ts k).size := by rw [HS.out]; exact hfs
              have hl := right_let HE.out hkl hfs'
              have hTs : TsAt wr (.slice (some ⟨b, o, none⟩) ts.length c) ts := by rw [hF.out.1]; exact H.out.below (had_below w _ ds)
              have HT := Lib.hid hTs
              have hd8 := hF.out.2.1.len
              obtain ⟨x, hx⟩ : ∃ x, ds[k]? = some x := ⟨ds[k]'(by omega), List.getElem?_eq_getElem _⟩
              have hck : wr.cell? ⟨w.heap.size, k, none⟩ = some (.bool x) := by rw [hF.out.1]; exact had_cell w _ hx
              have HX := Lib.hid hx
              clear hTs hd8 hx
              by_cases hc5 : byt (ty ts k) f = 105
              · have HTo : Hid (toI ts k f = -1) := Lib.hid (to_i HO.out hfs' hc5)
                have HN := Lib.hid (hF.out.2.2.2.field (f := f) fun _ h => absurd hc5 h)
                clear hl hc5
                cases x
                · go_wp2_with (go_at_call 21; refine (rto_n _ ts _ _ _ _ HT.out HTo).mono ?_; rintro e w' ⟨rfl, rfl⟩)
                  go_roundw
                  case rel => exact ⟨f + 1, ds, by go_num, by omega, Lib.hid ⟨hF.out.1, hF.out.2.1, hF.out.2.2.1, HN.out⟩⟩
                  case measure => simp [intOf]; omega
                · go_wp2_with (go_at_call 21; refine (rto_n _ ts _ _ _ _ HT.out HTo).mono ?_; rintro e w' ⟨rfl, rfl⟩)
                  go_roundw
                  case rel => exact ⟨f + 1, ds, by go_num, by omega, Lib.hid ⟨hF.out.1, hF.out.2.1, hF.out.2.2.1, HN.out⟩⟩
                  case measure => simp [intOf]; omega
              · have hd := dig_iff.1 (hl.resolve_left hc5)
                obtain ⟨m, hm⟩ : ∃ m, byt (ty ts k) f = m + 48 := ⟨byt (ty ts k) f - 48, by omega⟩
                have HTo : Hid (toI ts k f = (m : Int)) := Lib.hid (by rw [to_d HO.out hfs' hc5, hm]; omega)
                have hm8 : m < 8 := by omega
                have HE1 : Hid (Edge ts k m) := Lib.hid ⟨hkl, f, hfs', hc5, hm⟩
                have HM := Lib.hid hm
                clear hl hc5 hd hm
                cases x
                · have HN := Lib.hid (hF.out.2.2.2.field (f := f) fun h1 => by
                    have := hF.out.2.2.1 k h1
                    rw [HX.out] at this
                    cases this)
                  go_wp2_with (go_at_call 21; refine (rto_n _ ts _ _ _ _ HT.out HTo).mono ?_; rintro e w' ⟨rfl, rfl⟩)
                  go_roundw
                  case rel => exact ⟨f + 1, ds, by go_num, by omega, Lib.hid ⟨hF.out.1, hF.out.2.1, hF.out.2.2.1, HN.out⟩⟩
                  case measure => simp [intOf]; omega
                · have hm2 : m < ds.length := by rw [hF.out.2.1.len]; exact hm8
                  have hcm : wr.cell? ⟨w.heap.size, m, none⟩ = some (.bool ds[m]) := by rw [hF.out.1]; exact had_cell w _ (List.getElem?_eq_getElem hm2)
                  have hfm : wr.frozen? ⟨w.heap.size, m, none⟩ = false := by rw [hF.out.1]; exact had_frozen w _ _ _
                  have HN := Lib.hid ((hF.out.2.2.2.set (m := m)).field (f := f) fun _ _ b' hb' => by
                    have e2 := HM.out
                    obtain rfl : b' = m := by omega
                    simp [hm2])
                  have HW : Hid (wr.setCell ⟨w.heap.size, m, none⟩ (.bool true) = hadW w 43 (ds.set m true)) := Lib.hid (by rw [hF.out.1]; exact had_set w _ ds m)
                  have HD := Lib.hid (hF.out.2.1.set HX.out HE1.out)
                  generalize ds[m] = y at hcm
                  clear hm2
                  go_wp2_with (go_at_call 21; refine (rto_n _ ts _ _ _ _ HT.out HTo).mono ?_; rintro e w' ⟨rfl, rfl⟩)
                  go_roundw
                  case rel => exact ⟨f + 1, ds.set m true, by go_num, by omega, Lib.hid ⟨HW.out, HD.out, set_ext hF.out.2.2.1, HN.out⟩⟩
                  case measure => simp [intOf]; omega
            · obtain rfl : f = s.size := by omega
              go_wp2
              go_roundw
              case rel => exact ⟨k + 1, ds, by go_num, by omega, Lib.hid ⟨hF.out.1, hF.out.2.1, hF.out.2.2.1, Upto.type (by rw [HS.out]; exact hF.out.2.2.2)⟩⟩
              case measure => simp [intOf]; omega
        · obtain rfl : k = ts.length := by omega
          go_wp2
          go_roundw
          case rel => exact ⟨i + 1, cs, by go_num, by omega, Lib.hid ⟨hK.out.1, hK.out.2.1, Had.round hI.out.2.1 hK.out.2.1 hK.out.2.2.1 hK.out.2.2.2 hI.out.2.2⟩⟩
          case measure => simp [intOf]; omega
    · obtain rfl : i = ts.length := by omega
      have HW := Lib.hid (hI.out.2.1.whole HE.out hn hI.out.2.2)
      have hwr := hI.out.1
      subst hwr
      have HB := Lib.hid hI.out.2.1
      clear hI hil hi
      go_wp2
      go_loopw [10, 11] (fun v u wr => ∃ k : Nat, u = .int .i64 k ∧ k ≤ ts.length ∧ Hid (ORel w 43 bs ts n k v wr)) (fun _ u _ => ts.length - (intOf u).toNat)
      case atStart => exact ⟨0, rfl, Nat.zero_le _, Lib.hid (by rw [had_size]; exact orel_start w _ bs ts n)⟩
      case round =>
        obtain ⟨k, rfl, hk, hR⟩ := hrel
        have hL1 := out_len ts n k
        by_cases hkl : k < ts.length
        · have hd8 := HB.out.len
          obtain ⟨x, hx⟩ : ∃ x, bs[k]? = some x := ⟨bs[k]'(by omega), List.getElem?_eq_getElem _⟩
          have hck := hR.out.cell hx
          have HX := Lib.hid hx
          clear hd8 hx
          cases x
          · have HN := Lib.hid (out_drop (ts := ts) (t := n) (i := k) fun h => by
              have := (HB.out.iff HW.out k).2 h.2
              rw [HX.out] at this
              cases this)
            go_wp2
            go_roundw
            case rel => exact ⟨k + 1, by go_num, by omega, Lib.hid (by unfold ORel; rw [HN.out]; exact hR.out)⟩
            case measure => simp [intOf]; omega
          · by_cases hkn : k = n
            · have e1 : (((k : Nat) : Int) != ((n : Nat) : Int)) = false := by rw [hkn]; simp
              have HN := Lib.hid (out_drop (ts := ts) (t := n) (i := k) fun h => h.1 hkn)
              clear hkn
              go_wp2
              go_roundw
              case rel => exact ⟨k + 1, by go_num, by omega, Lib.hid (by unfold ORel; rw [HN.out]; exact hR.out)⟩
              case measure => simp [intOf]; omega
            · have e1 : (((k : Nat) : Int) != ((n : Nat) : Int)) = true := by simp; omega
              have HN := Lib.hid (out_keep (ts := ts) (t := n) (i := k) ⟨hkn, (HB.out.iff HW.out k).1 HX.out⟩)
              have hfit : (outL ts n k).length + 1 ≤ maxLen := by unfold maxLen; omega
              have hsz := hR.out.size
              clear hkn
              go_wp2_with (at_builtin; refine wpList_append_own _ rfl _ _ 32 rfl (w.heap.size + 1) 3 i0 (.int .i64 0) 1 8 Try.underlying32 HI.out.1 HI.out.2.1 HI.out.2.2.1 HI.out.2.2.2 rfl (by decide) _ _ _ rfl (hR.out.1.alloc _) ⟨wr.heap.size, 0, none⟩ 1 1 [int1 k] rfl rfl ?c1 ?c2 ?c3 ?c4 ?c5 ?_)
              case c1 => exact one_cell wr _ _
              case c2 => exact int_one k
              case c3 => exact hfit
              case c4 => omega
              case c5 => simp; omega
              intro v' w' ho hgr _
              have HN2 := Lib.hid (hR.out.more ho hgr HN.out)
              clear ho hgr
              go_wp2
              go_roundw
              case rel => exact ⟨k + 1, by go_num, by omega, HN2⟩
              case measure => simp [intOf]; omega
        · obtain rfl : k = ts.length := by omega
          go_wp2
          go_ret
          exact hR.out.done
end Go.Proofs.Ytpeoecaamdiphaa
