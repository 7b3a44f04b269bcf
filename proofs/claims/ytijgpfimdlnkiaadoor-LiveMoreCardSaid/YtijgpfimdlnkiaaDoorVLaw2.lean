/-
  LiveFlows: the walk.
-/
import Derived.Test.YtijgpfimdlnkiaaDoorVPA
import Derived.Deep.LoopGhost
import Derived.Test.YtijgpfimdlnkiaaDoorVLaw1
import Derived.Test.YtijgpfimdlnkiaaDoorVPure3
namespace Go.Proofs.YtijgpfimdlnkiaaDoor
set_option linter.unusedSimpArgs false
set_option linter.unusedVariables false
open Go.RowKit

theorem shr_none {z m : Nat} (h : z < 2 ^ m) (h8 : z < 256) : (((z : Int) / 2 ^ min m 8) != 0) = false := by
  have e : ((z : Int) / 2 ^ min m 8) = ((z / 2 ^ min m 8 : Nat) : Int) := by simp
  rw [e, Nat.div_eq_of_lt]
  · rfl
  · rcases Nat.le_total m 8 with h9 | h9
    · rw [Nat.min_eq_left h9]; exact h
    · rw [Nat.min_eq_right h9]; exact h8
/-- What is kept in a round. -/
structure FlF (w wx : World) (b4 o4 k I : Nat) (l : List Nat) (x x' : Option Addr) (kx kx' : Nat) (p : PProg) (op a b c n : Int) : Prop where
  keep : Keep wx w.heap.size (.slice x p.types.length kx) (.slice x' p.code.length kx') p
  below : Below w.heap.size w wx
  row : U8At wx b4 o4 p.code.length l
  ins : blk wx I (insC ⟨op, a, b, c, n⟩) 27
theorem FlF.next {w wx w' : World} {b4 o4 k I : Nat} {l : List Nat} {x x' : Option Addr} {kx kx' : Nat} {p : PProg} {op a b c n : Int} (h : FlF w wx b4 o4 k I l x x' kx kx' p op a b c n) (hb : Below wx.heap.size wx w') : FlF w w' b4 o4 k I l x x' kx kx' p op a b c n :=
  ⟨h.keep.below hb, h.below.trans (hb.mono h.below.size), h.row.next hb, blk_below h.ins hb⟩
theorem FlF.cells {w wx : World} {b4 o4 k I z : Nat} {l : List Nat} {x x' : Option Addr} {kx kx' : Nat} {p : PProg} {op a b c n : Int} (h : FlF w wx b4 o4 k I l x x' kx kx' p op a b c n) (hk : k ≤ p.code.length) (hz : l.getD k 0 = z) :
    wx.cell? ⟨b4, o4 + k, none⟩ = some (.int .u8 (z : Int)) ∧ wx.cell? ⟨I, 0, none⟩ = some (.int .u8 op) ∧ wx.cell? ⟨I, 1, none⟩ = some (.int .u8 a) ∧ wx.cell? ⟨I, 2, none⟩ = some (.int .u8 b) ∧ wx.cell? ⟨I, 3, none⟩ = some (.int .u8 c) ∧ wx.cell? ⟨I, 4, none⟩ = some (.int .i64 n) ∧ wx.cell? ⟨w.heap.size, 1, none⟩ = some (str p.locals) := by
  obtain ⟨c0, c1, c2, c3, c4⟩ := ins_cells h.ins
  exact ⟨by rw [← hz]; exact h.row.c k hk, c0, c1, c2, c3, c4, h.keep.cells.2.1⟩
set_option maxRecDepth 100000 in
set_option maxHeartbeats 8000000 in
theorem lflows_at (w W0 : World) (p : PProg) (x x' : Option Addr) (kx kx' : Nat)
    (hW0 : W0 = w.alloc (.cells (progC (.slice x p.types.length kx) p (.slice x' p.code.length kx')) 25)) (KP : Hid (Keep W0 w.heap.size (.slice x p.types.length kx) (.slice x' p.code.length kx') p)) (HB : Hid (Below w.heap.size w W0))
    (HAL : Hid (∀ w1, Calls Tryd.prog 9 #[] w1 (AggPost w1 (.bool true))))
    (HSO : Hid (∀ w1, ProgAt w1 (.agg (progC (.slice x p.types.length kx) p (.slice x' p.code.length kx'))) p → Below w.heap.size w w1 → Calls Tryd.prog 14 #[.agg (progC (.slice x p.types.length kx) p (.slice x' p.code.length kx'))] w1 (AggPost w1 (.bool (soundB p)))))
    (g2 : kx' ≤ 9223372036854775807) (g1 : p.code.length ≤ kx')
    (HLI : Hid (soundB p = true → ∀ w1, ProgAt w1 (.agg (progC (.slice x p.types.length kx) p (.slice x' p.code.length kx'))) p → Calls Tryd.prog 15 #[.agg #[.slice x p.types.length kx, str p.locals, str p.globs, .slice x' p.code.length kx']] w1 (U8sPost w1 (liveL p))))
    (hok : Hid (∀ i ∈ p.code, OkI i)) (HNX : Hid (soundB p = true → ∀ (w1 : World) (k : Nat), ProgAt w1 (.agg (progC (.slice x p.types.length kx) p (.slice x' p.code.length kx'))) p → Calls Tryd.prog 17 #[.agg (progC (.slice x p.types.length kx) p (.slice x' p.code.length kx')), .int .i64 k] w1 (RowPost w1 (nextV p k)))) :
    Calls Tryd.prog 4 #[.agg (progC (.slice x p.types.length kx) p (.slice x' p.code.length kx'))] w (AggPost w (.bool true)) := by
  go_enter Tryd.func4, Tryd.ntmps4
  go_upto_region 1 with (fail)
  rw [← hW0]
  clear hW0
  rcases hsd : soundB p with _ | _
  · rw [hsd] at HSO
    go_wp2_with (first
      | (refine wpList_loadB rfl 25 _ rfl w.heap.size (progC (.slice x p.types.length kx) p (.slice x' p.code.length kx')) rfl 25 KP.out.blk _ Tryd.underlying25 rfl prog_info ?_)
      | (go_at_call 9; ((with_reducible refine (HAL.out _).mono ?_); rintro e w1 ⟨rfl, hb⟩; have KP := Lib.hid (KP.out.below hb); have HB := Lib.hid (HB.out.trans (hb.mono HB.out.size)); clear hb))
      | (go_at_call 14; ((with_reducible refine (HSO.out _ KP.out.at' HB.out).mono ?_); rintro e w2 ⟨rfl, hb⟩; have KP := Lib.hid (KP.out.below hb); have HB := Lib.hid (HB.out.trans (hb.mono HB.out.size)); clear hb)))
    go_ret
    exact ⟨rfl, HB.out⟩
  have HLI : Hid (∀ w1, ProgAt w1 (.agg (progC (.slice x p.types.length kx) p (.slice x' p.code.length kx'))) p → Calls Tryd.prog 15 #[.agg (progC (.slice x p.types.length kx) p (.slice x' p.code.length kx'))] w1 (U8sPost w1 (liveL p))) := Lib.hid (HLI.out hsd)
  have HNX := Lib.hid (HNX.out hsd)
  obtain ⟨hfw, hl60, hck, hin0, hl1⟩ := sound_parts hsd
  have HIN := Lib.hid hin0
  have HCK := Lib.hid hck
  rw [hsd] at HSO
  clear hin0 hck hsd
  go_upto_region 6 with (first
    | (refine wpList_loadB rfl 25 _ rfl w.heap.size (progC (.slice x p.types.length kx) p (.slice x' p.code.length kx')) rfl 25 KP.out.blk _ Tryd.underlying25 rfl prog_info ?_)
    | (go_at_call 9; ((with_reducible refine (HAL.out _).mono ?_); rintro e w1 ⟨rfl, hb⟩; have KP := Lib.hid (KP.out.below hb); have HB := Lib.hid (HB.out.trans (hb.mono HB.out.size)); clear hb))
    | (go_at_call 14; ((with_reducible refine (HSO.out _ KP.out.at' HB.out).mono ?_); rintro e w2 ⟨rfl, hb⟩; have KP := Lib.hid (KP.out.below hb); have HB := Lib.hid (HB.out.trans (hb.mono HB.out.size)); clear hb))
    | (go_at_call 15; ((with_reducible refine (HLI.out _ KP.out.at').mono ?_); rintro e w3 ⟨v3, rfl, hr, hb⟩; obtain ⟨b4, o4, c4, hv3, hc4, hd4, hbx, hcell⟩ := u8A_cells hr live_n1; subst hv3; have KP := Lib.hid (KP.out.below hb); have HB := Lib.hid (HB.out.trans (hb.mono HB.out.size)); clear hb; have HL := Lib.hid (U8At.mk hbx hcell); clear hr hbx hcell)))
  have p3 := KP.out.cells.2.2.2
  have e1 : (((p.code.length + 1 : Nat) : Int) != (p.code.length : Int) + 1) = false := by simp
  have qe : w3.cell? ⟨b4, o4 + p.code.length, none⟩ = some (.int .u8 0) := by have := HL.out.c p.code.length (Nat.le_refl _); rw [live_end _ (Nat.le_refl _)] at this; exact this
  have hl0 : (0 : Int) ≤ (p.code.length : Int) := by omega
  have hll : (p.code.length : Int) < ((p.code.length + 1 : Nat) : Int) := by omega
  clear HSO HAL HLI
  go_wp2_with (fail)
  go_loopw [35] (fun v35 wr => ∃ k : Nat, k ≤ p.code.length ∧ v35 = .int .i64 k ∧ Hid (Keep wr w.heap.size (.slice x p.types.length kx) (.slice x' p.code.length kx') p) ∧ Hid (Below w.heap.size w wr) ∧ Hid (U8At wr b4 o4 p.code.length (liveL p))) (fun v35 _ => p.code.length - (intOf v35).toNat)
  case atStart => exact ⟨0, Nat.zero_le _, rfl, KP, HB, HL⟩
  case round =>
    obtain ⟨k, hk, rfl, KR, HBR, HLR⟩ := hrel
    clear KP HB HL p3 qe
    by_cases hkl : k < p.code.length
    · have hki : (k : Int) < (p.code.length : Int) := by omega
      have hk0 : (0 : Int) ≤ (k : Int) := by omega
      obtain ⟨i, hi⟩ : ∃ i, p.code[k]? = some i := ⟨_, List.getElem?_eq_getElem hkl⟩
      obtain ⟨bb, o, rfl, hbb, hrg⟩ := prog_ins KR.out.at' hi
      have hoki := hok.out i (List.mem_of_getElem? hi)
      have HLV := Lib.hid (live_at' hi)
      obtain ⟨op, a, b, c, n⟩ := i
      have HUS : Hid (∀ w1, Calls Tryd.prog 11 #[.agg #[.int .u8 op, .int .u8 a, .int .u8 b, .int .u8 c, .int .i64 n]] w1 (AggPost w1 (.int .u8 ((usesN ⟨op, a, b, c, n⟩ : Nat) : Int)))) := Lib.hid fun w1 => ruses_n _ w1 hoki
      have HSE : Hid (∀ w1, Calls Tryd.prog 13 #[.agg #[.int .u8 op, .int .u8 a, .int .u8 b, .int .u8 c, .int .i64 n]] w1 (AggPost w1 (.int .u8 ((setsN ⟨op, a, b, c, n⟩ : Nat) : Int)))) := Lib.hid fun w1 => rsets_n _ w1 hoki
      have HUL := Lib.hid (uses_lt ⟨op, a, b, c, n⟩)
      have HSL := Lib.hid (sets_lt ⟨op, a, b, c, n⟩)
      generalize setsN ⟨op, a, b, c, n⟩ = sN at HLV HSE HSL
      generalize usesN ⟨op, a, b, c, n⟩ = uN at HLV HUS HUL
      obtain ⟨d0, d1, d2, d3, d4⟩ : (wr.cell? ⟨bb, o + k * 5, none⟩ = some (.int .u8 op)) ∧ wr.cell? ⟨bb, o + k * 5 + 1, none⟩ = some (.int .u8 a) ∧ wr.cell? ⟨bb, o + k * 5 + 2, none⟩ = some (.int .u8 b) ∧ wr.cell? ⟨bb, o + k * 5 + 3, none⟩ = some (.int .u8 c) ∧ wr.cell? ⟨bb, o + k * 5 + 4, none⟩ = some (.int .i64 n) := ⟨hrg 0 _ rfl, hrg 1 _ rfl, hrg 2 _ rfl, hrg 3 _ rfl, hrg 4 _ rfl⟩
      have p3 := KR.out.cells.2.2.2
      clear hrg hoki
      go_upto_region 12 with (fail)
      have hab : Below wr.heap.size wr (wr.alloc (.cells (insC ⟨op, a, b, c, n⟩) 27)) := (Below.refl _ _).alloc (Nat.le_refl _) _
      have KA : Hid (Keep (wr.alloc (.cells (insC ⟨op, a, b, c, n⟩) 27)) w.heap.size (.slice x p.types.length kx) (.slice (some ⟨bb, o, none⟩) p.code.length kx') p) := Lib.hid (KR.out.below hab)
      have HBA : Hid (Below w.heap.size w (wr.alloc (.cells (insC ⟨op, a, b, c, n⟩) 27))) := Lib.hid (HBR.out.trans (hab.mono HBR.out.size))
      have HLA : Hid (U8At (wr.alloc (.cells (insC ⟨op, a, b, c, n⟩) 27)) b4 o4 p.code.length (liveL p)) := Lib.hid (HLR.out.next hab)
      have HIA : Hid (blk (wr.alloc (.cells (insC ⟨op, a, b, c, n⟩) 27)) wr.heap.size (insC ⟨op, a, b, c, n⟩) 27) := Lib.hid (blk_new _ _ _)
      obtain ⟨I, hI⟩ : ∃ I, I = wr.heap.size := ⟨_, rfl⟩
      obtain ⟨wa, hwa⟩ : ∃ wa, wa = wr.alloc (.cells (insC ⟨op, a, b, c, n⟩) 27) := ⟨_, rfl⟩
      rw [← hwa] at KA HBA HLA HIA ⊢
      rw [← hI] at HIA ⊢
      clear hab hwa hI d0 d1 d2 d3 d4 p3 KR HBR HLR
      go_wp2_with (first
        | (refine wpList_loadB rfl 25 _ rfl w.heap.size (progC (.slice x p.types.length kx) p (.slice (some ⟨bb, o, none⟩) p.code.length kx')) rfl 25 KA.out.blk _ Tryd.underlying25 rfl prog_info ?_)
        | (go_at_call 17; refine (HNX.out _ k KA.out.at').mono ?_; rintro e1 w5 ⟨v8, rfl, ho, hb⟩; obtain ⟨ad, cap, hv8, hcp, hcp2⟩ := own_form ho; subst hv8; have HLF := Lib.hid (rowA_form (RowAt.of_own ho)); have KA := Lib.hid (KA.out.below hb); have HBA := Lib.hid (HBA.out.trans (hb.mono HBA.out.size)); have HLA := Lib.hid (HLA.out.next hb); have HIA := Lib.hid (blk_below HIA.out hb); clear ho hb))
      have hll2 : (nextV p k).length = (nextL p k).length := by rw [nextL_cast]; simp
      have HLC : Hid (∀ (j n : Nat), (nextL p k)[j]? = some n → ∃ b o, ad = some ⟨b, o, none⟩ ∧ w5.cell? ⟨b, o + j, none⟩ = some (.int .i64 (n : Int))) := Lib.hid (by
        obtain ⟨a0, c0, e1, -, -, h3⟩ := HLF.out
        simp only [Value.slice.injEq] at e1
        obtain ⟨rfl, -, -⟩ := e1
        intro j n hn
        obtain ⟨b, o, e2, -, h4⟩ := h3 j (n : Int) (by rw [nextL_cast]; simp [hn])
        exact ⟨b, o, e2, h4⟩)
      rw [hll2] at hcp ⊢
      clear HLF hll2
      have hl2 := (next_sorted (q := p) k).1
      go_loopw [6, 44] (fun v6 v44 wx => ∃ (j m : Nat), j ≤ (nextL p k).length ∧ v44 = .int .i64 j ∧ v6 = .int .u8 (m : Int) ∧ Hid (m = behN (liveL p) ((nextL p k).take j)) ∧ wx = w5) (fun _ v44 _ => (nextL p k).length - (intOf v44).toNat)
      case atStart => exact ⟨0, 0, Nat.zero_le _, rfl, rfl, Lib.hid rfl, rfl⟩
      case round =>
        obtain ⟨j, m, hj, rfl, rfl, HM, hwx⟩ := hrel
        subst hwx
        by_cases hjl : j < (nextL p k).length
        · have hji : (j : Int) < ((nextL p k).length : Int) := by omega
          obtain ⟨n', hn⟩ : ∃ n', (nextL p k)[j]? = some n' := ⟨_, List.getElem?_eq_getElem hjl⟩
          have hnl := (next_le HIN.out (List.mem_of_getElem? hn)).1
          have hni : (n' : Int) < (p.code.length : Int) + 1 := by omega
          have hn0 : (0 : Int) ≤ (n' : Int) := by omega
          obtain ⟨b9, o9, rfl, c9⟩ := HLC.out j n' hn
          have ch := HLA.out.c n' hnl
          have hm : m < 256 := by rw [HM.out]; exact beh_lt live_lt _
          have HOR := Lib.hid (or_u8 hm (live_lt (q := p) n'))
          have HM2 : Hid (m ||| (liveL p).getD n' 0 = behN (liveL p) ((nextL p k).take (j + 1))) := Lib.hid (by rw [beh_next hn, HM.out])
          generalize (liveL p).getD n' 0 = z at ch HOR HM2
          clear hn HM
          go_wp2
          go_roundw
          case rel => exact ⟨j + 1, _, by omega, by go_num, by rw [HOR.out], HM2, trivial⟩
          case measure => simp [intOf]; omega
        · have hje : j = (nextL p k).length := by omega
          have HM2 : Hid (m = behN (liveL p) (nextL p k)) := Lib.hid (by have := HM.out; rwa [hje, List.take_length] at this)
          have hjn : ¬ ((j : Int) < ((nextL p k).length : Int)) := by omega
          have hm : m < 256 := by rw [HM2.out]; exact beh_lt live_lt _
          have HLK : Hid ((liveL p).getD k 0 = uN ||| butN m sN) := Lib.hid (by rw [HLV.out, HM2.out])
          have HBU := Lib.hid (but_u8 hm HSL.out)
          have HOU := Lib.hid (or_u8 HUL.out (but_lt sN hm))
          have HSM := Lib.hid (live_small HCK.out hok.out k)
          have qk := HLA.out.c k (by omega)
          rw [HLK.out] at qk HSM
          clear hje HM HLC HLV hm
          obtain ⟨z, hz⟩ : ∃ z, z = uN ||| butN m sN := ⟨_, rfl⟩
          rw [← hz] at qk HSM HLK HOU
          have e7 : ((z : Int) != bits .or .u8 (uN : Int) (bits .andNot .u8 (m : Int) (sN : Int))) = false := by rw [HBU.out, HOU.out]; simp
          have e8 := shr_none HSM.out (show z < 256 by rw [← HLK.out]; exact live_lt k)
          clear hz HBU HOU HUL HSL HM2
          have HF : Hid (FlF w wr.drew b4 o4 k I (liveL p) x (some ⟨bb, o, none⟩) kx kx' p op a b c n) := Lib.hid ⟨KA.out.below (Below.refl _ _).drew, HBA.out.drew, HLA.out.next (Below.refl _ _).drew, blk_below HIA.out (Below.refl _ _).drew⟩
          obtain ⟨c0, c1, c2, c3, c4⟩ := ins_cells HIA.out
          have p1 := KA.out.cells.2.1
          have hkl' : k ≤ p.code.length := by omega
          have hki3 : (k : Int) < (p.code.length : Int) + 1 := by omega
          clear KA HBA HLA HIA
          go_upto_region 17 with (fail)
          go_region_held3 (fun w' => w'.cell? ⟨b4, o4 + k, none⟩ = some (.int .u8 (z : Int)) ∧ w'.cell? ⟨I, 0, none⟩ = some (.int .u8 op) ∧ w'.cell? ⟨I, 1, none⟩ = some (.int .u8 a) ∧ w'.cell? ⟨I, 2, none⟩ = some (.int .u8 b) ∧ w'.cell? ⟨I, 3, none⟩ = some (.int .u8 c) ∧ w'.cell? ⟨I, 4, none⟩ = some (.int .i64 n) ∧ w'.cell? ⟨w.heap.size, 1, none⟩ = some (str p.locals)) (go_keep) (first
            | (go_at_call 11; ((with_reducible refine (HUS.out _).mono ?_); rintro e wq ⟨rfl, hb⟩; have HF := Lib.hid (HF.out.next hb); clear hb qk c0 c1 c2 c3 c4 p1; obtain ⟨qk, c0, c1, c2, c3, c4, p1⟩ := HF.out.cells hkl' HLK.out))
            | (go_at_call 13; ((with_reducible refine (HSE.out _).mono ?_); rintro e wq ⟨rfl, hb⟩; have HF := Lib.hid (HF.out.next hb); clear hb qk c0 c1 c2 c3 c4 p1; obtain ⟨qk, c0, c1, c2, c3, c4, p1⟩ := HF.out.cells hkl' HLK.out)))
          all_goals
            clear qk c0 c1 c2 c3 c4 p1
            go_wp2
            go_roundw
            case rel => exact ⟨k + 1, by omega, by go_num, Lib.hid HF.out.keep, Lib.hid HF.out.below, Lib.hid HF.out.row⟩
            case measure => simp [intOf]; omega
    · have hkn : ¬ ((k : Int) < (p.code.length : Int)) := by omega
      go_wp2
      go_ret
      exact ⟨rfl, HBR.out⟩
theorem lflows_walk (v : Value) (p : PProg) (w : World) (h : ProgAt w v p) (hs : OkP p) (ht' : HasT w) : Calls Tryd.prog 4 #[v] w fun e w' => e = .returned (.bool true) ∧ Below w.heap.size w w' := by
  obtain ⟨vt, vc, rfl, ht, hc⟩ := id h
  have hwb : Below w.heap.size w (w.alloc (.cells (progC vt p vc) 25)) := (Below.refl _ _).alloc (Nat.le_refl _) _
  have HK := keep_new h
  obtain ⟨x, c, rfl, -, -, -⟩ := id ht.elems
  obtain ⟨x', c', rfl, q1, q2, -⟩ := id hc
  unfold maxLen at q2
  exact lflows_at w _ p x x' c c' rfl (Lib.hid HK) (Lib.hid hwb) (Lib.hid fun w1 => valive_n w1) (Lib.hid fun w1 h1 hb1 => sound_n _ p w1 _ h1 hs (ht'.below hb1) rfl) (by omega) q1 (Lib.hid fun hsd w1 h1 => lin_n _ p w1 h1 hs (sound_parts hsd).2.2.2.1 (by have := (sound_parts hsd).2.1; omega)) (Lib.hid hs.ins) (Lib.hid fun hsd w1 k h1 => rnext_n _ p w1 k h1 hs (sound_parts hsd).2.2.2.1 (by have := (sound_parts hsd).2.1; omega))
end Go.Proofs.YtijgpfimdlnkiaaDoor
