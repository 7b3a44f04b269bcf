/-
  The document's Reach and Loops: contracts.
  The document's Safe: its contract.
  The document's at, Local, Glob, number, to, one: contracts.
-/
import Derived.Test.YtapjgobkpehgfaaGreatDoorFNext
import Derived.Test.YtapjgobkpehgfaaGreatDoorUAQ
import Derived.Deep.LoopGhost
import Derived.Test.YtapjgobkpehgfaaGreatDoorUAL

/- The document's Reach and Loops: contracts. -/
namespace Go.Proofs.YtapjgobkpehgfaaGreatDoor
set_option linter.unusedSimpArgs false
set_option linter.unusedVariables false
open Go.RowKit

abbrev boolsV (l : List Bool) : List Value := l.map Value.bool
abbrev bArr (l : List Bool) : Array Value := (boolsV l).toArray
theorem infoBool : (Tryz.prog.info? 4).map (fun i => (i.zero, i.size, i.bytes)) = some (some (.bool false), 1, 1) := by kernel_rfl
theorem bArr_get {l : List Bool} {k : Nat} (h : k < l.length) : (bArr l)[k]? = some (.bool (l.getD k false)) := by
  have e : l[k]? = some (l.getD k false) := by rw [List.getD_eq_getElem?_getD, List.getElem?_eq_getElem h]; rfl
  show ((boolsV l).toArray)[k]? = _
  rw [List.getElem?_toArray, List.getElem?_map, e]; rfl
theorem bArr_set (l : List Bool) (k : Nat) (v : Bool) : (bArr l).setIfInBounds k (.bool v) = bArr (l.set k v) := by simp [boolsV]
theorem bArr_zeros (n : Nat) : madeCells #[.bool false] n = bArr (List.replicate n false) := by
  rw [made_rep]
  apply Array.ext'
  simp
/-- What is left of a round. -/
def fromK (q : PProg) (a k : Nat) (had : List Bool) : List Bool := ((List.range (q.code.length + 1)).drop k).foldl (stepK q a) had
theorem fromK_next {q : PProg} {a k : Nat} (h : k ≤ q.code.length) (had : List Bool) : fromK q a k had = fromK q a (k + 1) (stepK q a had k) := by
  unfold fromK
  rw [List.drop_eq_getElem_cons (by simp; omega)]
  simp
theorem fromK_end (q : PProg) (a : Nat) (had : List Bool) : fromK q a (q.code.length + 1) had = had := by
  unfold fromK
  rw [List.drop_eq_nil_of_le (by simp)]; rfl
/-- The world in Reach. -/
structure RcW (w wr : World) (H : Nat) (C : Array Value) (had : List Bool) : Prop where
  below : Below w.heap.size w wr
  prog : blk wr w.heap.size C 25
  hd : blk wr H (bArr had) 4
  hH : w.heap.size < H
theorem RcW.next {w wr w' : World} {H : Nat} {C : Array Value} {had : List Bool} (h : RcW w wr H C had) (hb : Below wr.heap.size wr w') : RcW w w' H C had :=
  ⟨h.below.trans (hb.mono h.below.size), blk_below h.prog hb, blk_below h.hd hb, h.hH⟩
theorem RcW.mark {w wr : World} {H : Nat} {C : Array Value} {had : List Bool} (h : RcW w wr H C had) (n : Nat) : RcW w (wr.setCell ⟨H, n, none⟩ (.bool true)) H C (markK had n) := by
  have hH := h.hH
  rw [setCell_putB h.hd, bArr_set]
  exact ⟨h.below.trans (putB_below _ (by omega) _ _), by unfold blk; rw [putB_ne _ (by omega)]; exact h.prog, putB_at h.hd _ _, h.hH⟩
def BoolsPost (w : World) (l : List Bool) (e : Ending) (w' : World) : Prop := ∃ v, e = .returned v ∧ w'.ownsRow w.heap.size 4 1 v l.length (boolsV l) ∧ Below w.heap.size w w'
theorem RcW.post {w wr : World} {H : Nat} {C : Array Value} {had : List Bool} (h : RcW w wr H C had) (hl : had.length ≤ 1000000) : BoolsPost w had (.returned (.slice (some ⟨H, 0, none⟩) had.length had.length)) wr :=
  ⟨_, rfl, ⟨by simp, .inr ⟨H, had.length, bArr had, rfl, by have := h.hH; omega, h.hd, Nat.le_refl _, by unfold maxLen; omega, by simp, by rw [Nat.mul_one]; exact List.take_of_length_le (by simp)⟩⟩, h.below⟩
theorem nextL_cast (q : PProg) (k : Nat) : nextV q k = (nextL q k).map (fun n : Nat => (n : Int)) := by unfold nextV; rw [if_pos (by omega), Int.toNat_natCast]
theorem mark_len (had : List Bool) (n : Nat) : (markK had n).length = had.length := by unfold markK; simp
set_option maxRecDepth 100000 in
set_option maxHeartbeats 8000000 in
theorem rreach_at (w W0 : World) (p : PProg) (vt' : Value) (x' : Option Addr) (k' : Nat) (a : Nat)
    (hW0 : W0 = w.alloc (.cells (progC vt' p (.slice x' p.code.length k')) 25)) (HS : Hid (Below w.heap.size w W0)) (KP : Hid (blk W0 w.heap.size (progC vt' p (.slice x' p.code.length k')) 25))
    (ha : a ≤ p.code.length) (hlen : p.code.length ≤ 200) (hin : Hid (InP p))
    (HN : Hid (∀ (w1 : World) (k : Nat), Below w.heap.size w w1 → Calls Tryz.prog 56 #[.agg (progC vt' p (.slice x' p.code.length k')), .int .i64 k] w1 (RowPost w1 (nextV p k)))) :
    Calls Tryz.prog 31 #[.agg (progC vt' p (.slice x' p.code.length k')), .int .i64 a] w (BoolsPost w (wayL p a)) := by
  have p3 : W0.cell? ⟨w.heap.size, 3, none⟩ = some (.slice x' p.code.length k') := blk_cell KP.out 3 _ rfl
  have hmk : ∀ w, (Instr.makeSlice 68 (.int .i64 ((p.code.length : Int) + 1)) (.int .i64 ((p.code.length : Int) + 1))).run Tryz.prog w = .ok (.slice (some ⟨w.heap.size, 0, none⟩) (p.code.length + 1) (p.code.length + 1)) (w.alloc (.cells (madeCells #[.bool false] (p.code.length + 1)) 4)) := fun w => run_make_row' _ _ _ _ Tryz.underlying68 infoBool rfl _ _ (p.code.length + 1) (by omega) (by omega) w
  have hal : ¬ ((p.code.length : Int) < (a : Int)) := by omega
  go_enter Tryz.func31, Tryz.ntmps31
  go_upto_region 1 with (fail)
  rw [← hW0]
  clear hW0
  go_upto_region 4 with (fail)
  rw [bArr_zeros]
  have HW0 : Hid (RcW w (W0.alloc (.cells (bArr (List.replicate (p.code.length + 1) false)) 4)) W0.heap.size (progC vt' p (.slice x' p.code.length k')) (List.replicate (p.code.length + 1) false)) := Lib.hid
    ⟨HS.out.trans (((Below.refl _ _).alloc (Nat.le_refl _) _).mono HS.out.size), blk_alloc KP.out _, blk_new _ _ _, blk_lt KP.out⟩
  obtain ⟨H, hH⟩ : ∃ H, H = W0.heap.size := ⟨_, rfl⟩
  obtain ⟨wb, hwb⟩ : ∃ wb, wb = W0.alloc (.cells (bArr (List.replicate (p.code.length + 1) false)) 4) := ⟨_, rfl⟩
  rw [← hwb] at HW0 ⊢
  rw [← hH] at HW0 ⊢
  clear hwb hH p3 hmk KP HS
  go_wp2_with (fail)
  go_loopw [6] (fun v6 wr => ∃ (r : Nat) (had : List Bool), r ≤ p.code.length + 1 ∧ v6 = .int .i64 r ∧ Hid (RcW w wr H (progC vt' p (.slice x' p.code.length k')) had) ∧ Hid (had.length = p.code.length + 1 ∧ roundsK p a (p.code.length + 1 - r) had = wayL p a)) (fun v6 _ => p.code.length + 1 - (intOf v6).toNat)
  case atStart => exact ⟨0, _, Nat.zero_le _, rfl, HW0, Lib.hid ⟨by simp, rfl⟩⟩
  case round =>
    obtain ⟨r, had, hr, rfl, HW, HQ⟩ := hrel
    clear HW0
    have p3 : wr.cell? ⟨w.heap.size, 3, none⟩ = some (.slice x' p.code.length k') := blk_cell HW.out.prog 3 _ rfl
    by_cases hrl : r ≤ p.code.length
    · have hri : (r : Int) ≤ (p.code.length : Int) := by omega
      go_wp2_with (fail)
      obtain ⟨wo, hwo⟩ : ∃ wo : World, wo = wr := ⟨_, rfl⟩
      rw [← hwo] at HW ⊢
      clear p3 hwo
      go_loopw [7] (fun v7 wr => ∃ (k : Nat) (hb : List Bool), k ≤ p.code.length + 1 ∧ v7 = .int .i64 k ∧ Hid (RcW w wr H (progC vt' p (.slice x' p.code.length k')) hb) ∧ Hid (hb.length = p.code.length + 1 ∧ fromK p a k hb = roundK p a had)) (fun v7 _ => p.code.length + 1 - (intOf v7).toNat)
      case atStart => exact ⟨0, had, Nat.zero_le _, rfl, HW, Lib.hid ⟨HQ.out.1, rfl⟩⟩
      case round =>
        obtain ⟨k, hb, hk, rfl, HW, HR⟩ := hrel
        have p3 : wr.cell? ⟨w.heap.size, 3, none⟩ = some (.slice x' p.code.length k') := blk_cell HW.out.prog 3 _ rfl
        by_cases hkl : k ≤ p.code.length
        · have hki : (k : Int) ≤ (p.code.length : Int) := by omega
          go_wp2_with (first
            | (refine wpList_loadB rfl 25 _ rfl w.heap.size (progC vt' p (.slice x' p.code.length k')) rfl 25 HW.out.prog _ Tryz.underlying25 rfl prog_info ?_)
            | (go_at_call 56; refine (HN.out _ k HW.out.below).mono ?_; rintro e1 w4 ⟨v8, rfl, ho, hb4⟩; obtain ⟨ad, cap, hv8, hcp, hcp2⟩ := own_form ho; subst hv8; have HO4 := Lib.hid (ownsRow_le ho (Nat.zero_le _)); have HW4 := Lib.hid (HW.out.next hb4); clear ho hb4 p3))
          have hll : (nextV p k).length = (nextL p k).length := by rw [nextL_cast]; simp
          rw [hll] at hcp HO4 ⊢
          clear hll
          have hl2 := (next_sorted (q := p) k).1
          go_loopw [9] (fun v9 wr => ∃ (j : Nat) (hc : List Bool), j ≤ (nextL p k).length ∧ v9 = .int .i64 j ∧ Hid (RcW w wr H (progC vt' p (.slice x' p.code.length k')) hc) ∧ Hid (wr.ownsRow 0 3 1 (.slice ad (nextL p k).length cap) (nextL p k).length (i64s (nextV p k))) ∧
            Hid (hc.length = p.code.length + 1 ∧ (if k = a ∨ hc.getD k false = true then ((nextL p k).drop j).foldl markK hc else hc) = stepK p a hb k)) (fun v9 _ => (nextL p k).length - (intOf v9).toNat)
          case atStart => exact ⟨0, hb, Nat.zero_le _, rfl, HW4, HO4, Lib.hid ⟨HR.out.1, rfl⟩⟩
          case round =>
            obtain ⟨j, hc, hj, rfl, HW, HO, HS⟩ := hrel
            clear HW4 HO4
            by_cases hjl : j < (nextL p k).length
            · have hji : (j : Int) < ((nextL p k).length : Int) := by omega
              obtain ⟨n, hn⟩ : ∃ n, (nextL p k)[j]? = some n := ⟨_, List.getElem?_eq_getElem hjl⟩
              have hnl := (next_le hin.out (List.mem_of_getElem? hn)).1
              have hni : (n : Int) < (p.code.length : Int) + 1 := by omega
              have hn0 : (0 : Int) ≤ (n : Int) := by omega
              have hnv : (nextV p k)[j]? = some (n : Int) := by rw [nextL_cast]; simp [hn]
              obtain ⟨g, hg, cn⟩ : ∃ g, ad = some ⟨g, 0, none⟩ ∧ wr.cell? ⟨g, j, none⟩ = some (.int .i64 (n : Int)) := by
                obtain ⟨a0, c0, e0, -, -, h3⟩ := RowAt.of_own HO.out
                simp only [Value.slice.injEq] at e0
                obtain ⟨rfl, -, -⟩ := e0
                rcases h3 with h3 | ⟨b1, o1, rfl, -, hc1⟩
                · have := congrArg List.length h3; simp at this; rw [nextL_cast] at this; simp at this; rw [this] at hn; simp at hn
                · rcases HO.out.2 with ⟨hv, _⟩ | ⟨g, cp, cr, hv, _⟩
                  · simp at hv
                  · simp only [Value.slice.injEq, Option.some.injEq, Addr.mk.injEq] at hv
                    obtain ⟨⟨rfl, rfl, -⟩, -, -⟩ := hv
                    exact ⟨b1, rfl, by have := hc1 j _ (i64s_get hnv); rw [Nat.zero_add] at this; exact this⟩
              subst hg
              have hdrop : (nextL p k).drop j = n :: (nextL p k).drop (j + 1) := by
                rw [List.drop_eq_getElem_cons hjl]
                congr 1
                rw [List.getElem?_eq_getElem hjl] at hn
                exact Option.some.inj hn
              have HD := Lib.hid hdrop
              have HOn : Hid ((wr.setCell ⟨H, n, none⟩ (.bool true)).ownsRow 0 3 1 (.slice (some ⟨g, 0, none⟩) (nextL p k).length cap) (nextL p k).length (i64s (nextV p k))) := Lib.hid (by
                rw [setCell_putB HW.out.hd]
                exact own_same HO.out (fun g' hg' _ => putB_ne wr (own_ne HO.out HW.out.hd (by decide) g' hg') _ _))
              clear hdrop hn hnv
              have ch : wr.cell? ⟨H, n, none⟩ = some (.bool (hc.getD n false)) := blk_cell HW.out.hd n _ (bArr_get (by have := HS.out.1; omega))
              have fh := blk_frozen HW.out.hd n
              by_cases hka : k = a
              · have e50 : ((k : Int) == (a : Int)) = true := by simp; omega
                have HW2 := Lib.hid (HW.out.mark n)
                have HS2 : Hid ((markK hc n).length = p.code.length + 1 ∧ (if k = a ∨ (markK hc n).getD k false = true then ((nextL p k).drop (j + 1)).foldl markK (markK hc n) else markK hc n) = stepK p a hb k) := Lib.hid ⟨by rw [mark_len]; exact HS.out.1, by
                  have := HS.out.2
                  rw [if_pos (.inl hka), HD.out] at this
                  rw [if_pos (.inl hka)]; exact this⟩
                have HK := Lib.hid hka
                clear hka HW HO HS
                go_wp2
                go_roundw
                case rel => exact ⟨j + 1, _, by omega, by go_num, HW2, HOn, HS2⟩
                case measure => simp [intOf]; omega
              · have e50 : ((k : Int) == (a : Int)) = false := by simp; omega
                have ck : wr.cell? ⟨H, k, none⟩ = some (.bool (hc.getD k false)) := blk_cell HW.out.hd k _ (bArr_get (by have := HS.out.1; omega))
                have hkc : (k : Int) < (p.code.length : Int) + 1 := by omega
                by_cases hbk : hc.getD k false = true
                · have HW2 := Lib.hid (HW.out.mark n)
                  have HS2 : Hid ((markK hc n).length = p.code.length + 1 ∧ (if k = a ∨ (markK hc n).getD k false = true then ((nextL p k).drop (j + 1)).foldl markK (markK hc n) else markK hc n) = stepK p a hb k) := Lib.hid ⟨by rw [mark_len]; exact HS.out.1, by
                    have := HS.out.2
                    rw [if_pos (.inr hbk), HD.out] at this
                    rw [if_pos (.inr ((mark_le hc n).2 k hbk))]; exact this⟩
                  rw [hbk] at ck
                  clear hka hbk HW HO HS
                  go_wp2
                  go_roundw
                  case rel => exact ⟨j + 1, _, by omega, by go_num, HW2, HOn, HS2⟩
                  case measure => simp [intOf]; omega
                · have HS2 : Hid (hc.length = p.code.length + 1 ∧ (if k = a ∨ hc.getD k false = true then ((nextL p k).drop (j + 1)).foldl markK hc else hc) = stepK p a hb k) := Lib.hid ⟨HS.out.1, by
                    have := HS.out.2
                    rw [if_neg (by rintro (h | h); exact hka h; exact hbk h)] at this
                    rw [if_neg (by rintro (h | h); exact hka h; exact hbk h)]; exact this⟩
                  have hbf : hc.getD k false = false := by simpa using hbk
                  rw [hbf] at ck
                  clear hka hbk hbf HS HOn
                  go_wp2
                  go_roundw
                  case rel => exact ⟨j + 1, _, by omega, by go_num, HW, HO, HS2⟩
                  case measure => simp [intOf]; omega
            · have hje : j = (nextL p k).length := by omega
              have hend : hc.length = p.code.length + 1 ∧ fromK p a (k + 1) hc = roundK p a had := by
                have h1 := HS.out.2
                rw [hje, List.drop_eq_nil_of_le (Nat.le_refl _)] at h1
                have h2 : hc = stepK p a hb k := by
                  rw [← h1]; split <;> rfl
                refine ⟨HS.out.1, ?_⟩
                rw [h2, ← fromK_next hkl, HR.out.2]
              have HE := Lib.hid hend
              have hjn : ¬ ((j : Int) < ((nextL p k).length : Int)) := by omega
              clear hend hje HS HO
              go_wp2
              go_roundw
              case rel => exact ⟨k + 1, hc, by omega, by go_num, HW, HE⟩
              case measure => simp [intOf]; omega
        · have hke : k = p.code.length + 1 := by omega
          have HE : Hid (hb.length = p.code.length + 1 ∧ roundsK p a (p.code.length + 1 - (r + 1)) hb = wayL p a) := Lib.hid ⟨HR.out.1, by
            have h1 := HR.out.2
            rw [hke, fromK_end] at h1
            have h2 := HQ.out.2
            rw [show p.code.length + 1 - r = (p.code.length + 1 - (r + 1)) + 1 by omega] at h2
            unfold roundsK at h2
            rw [← h1] at h2
            exact h2⟩
          have hkn : ¬ ((k : Int) ≤ (p.code.length : Int)) := by omega
          clear hke HR HQ
          go_wp2
          go_roundw
          case rel => exact ⟨r + 1, hb, by omega, by go_num, HW, HE⟩
          case measure => simp [intOf]; omega
    · have hre : r = p.code.length + 1 := by omega
      have HE : Hid (had = wayL p a ∧ had.length = p.code.length + 1) := Lib.hid ⟨by
        have h2 := HQ.out.2
        rw [hre, Nat.sub_self] at h2
        exact h2, HQ.out.1⟩
      have hrn : ¬ ((r : Int) ≤ (p.code.length : Int)) := by omega
      clear hre HQ
      go_wp2
      go_ret
      have := HW.out.post (by rw [HE.out.2]; omega)
      rw [HE.out.2] at this
      rw [← HE.out.1]
      exact this
end Go.Proofs.YtapjgobkpehgfaaGreatDoor

/- The document's Safe: its contract. -/
namespace Go.Proofs.YtapjgobkpehgfaaGreatDoor
set_option linter.unusedSimpArgs false
set_option linter.unusedVariables false
open Go.RowKit

set_option maxRecDepth 100000 in
set_option maxHeartbeats 4000000 in
theorem rsafe_at (w W0 : World) (p : PProg) (vt' : Value) (bb o k' : Nat) (k : Nat) (op a b c n : Int) (r : Bool)
    (hW0 : W0 = w.alloc (.cells (progC vt' p (.slice (some ⟨bb, o, none⟩) p.code.length k')) 25)) (HS : Hid (Below w.heap.size w W0)) (KP : Hid (blk W0 w.heap.size (progC vt' p (.slice (some ⟨bb, o, none⟩) p.code.length k')) 25))
    (hk : k < p.code.length) (g1 : p.code.length ≤ k') (g2 : k' ≤ 9223372036854775807) (HR : Hid (W0.rangeAt bb (o + k * 5) (insC ⟨op, a, b, c, n⟩).toList))
    (hc : (op = 5 ∧ r = true) ∨ (op = 3 ∧ n ≤ (k : Int) ∧ r = true) ∨ (op = 3 ∧ (k : Int) < n ∧ r = false) ∨ (op = 4 ∧ n ≤ (k : Int) ∧ r = true) ∨ (op = 4 ∧ (k : Int) < n ∧ r = false) ∨ ((op == 5) = false ∧ (op == 3) = false ∧ (op == 4) = false ∧ r = false)) :
    Calls Tryz.prog 11 #[.agg (progC vt' p (.slice (some ⟨bb, o, none⟩) p.code.length k')), .int .i64 k] w (AggPost w (.bool r)) := by
  have p3 := blk_cell KP.out 3 _ rfl
  obtain ⟨d0, d1, d2, d3, d4⟩ : (W0.cell? ⟨bb, o + k * 5, none⟩ = some (.int .u8 op)) ∧ W0.cell? ⟨bb, o + k * 5 + 1, none⟩ = some (.int .u8 a) ∧ W0.cell? ⟨bb, o + k * 5 + 2, none⟩ = some (.int .u8 b) ∧ W0.cell? ⟨bb, o + k * 5 + 3, none⟩ = some (.int .u8 c) ∧ W0.cell? ⟨bb, o + k * 5 + 4, none⟩ = some (.int .i64 n) := ⟨HR.out 0 _ rfl, HR.out 1 _ rfl, HR.out 2 _ rfl, HR.out 3 _ rfl, HR.out 4 _ rfl⟩
  have hki : (k : Int) < (p.code.length : Int) := by omega
  have hk0 : (0 : Int) ≤ (k : Int) := by omega
  have hkn : ¬ ((p.code.length : Int) ≤ (k : Int)) := by omega
  go_enter Tryz.func11, Tryz.ntmps11
  go_upto_region 1 with (fail)
  rw [← hW0]
  clear hW0
  go_upto_region 4 with (fail)
  have HB1 : Hid (Below w.heap.size w (W0.alloc (.cells (insC ⟨op, a, b, c, n⟩) 46))) := Lib.hid (HS.out.trans (((Below.refl _ _).alloc (Nat.le_refl _) _).mono HS.out.size))
  have HI : Hid (blk (W0.alloc (.cells (insC ⟨op, a, b, c, n⟩) 46)) W0.heap.size (insC ⟨op, a, b, c, n⟩) 46) := Lib.hid (blk_new _ _ _)
  obtain ⟨w1, hw1⟩ : ∃ w1, w1 = W0.alloc (.cells (insC ⟨op, a, b, c, n⟩) 46) := ⟨_, rfl⟩
  obtain ⟨I, hI⟩ : ∃ I, I = W0.heap.size := ⟨_, rfl⟩
  rw [← hw1] at HB1 HI ⊢
  rw [← hI] at HI ⊢
  clear hw1 hI p3 d0 d1 d2 d3 d4 KP HS HR
  have e0 : w1.cell? ⟨I, 0, none⟩ = some (.int .u8 op) := blk_cell HI.out 0 _ rfl
  have e4 : w1.cell? ⟨I, 4, none⟩ = some (.int .i64 n) := blk_cell HI.out 4 _ rfl
  rcases hc with ⟨rfl, rfl⟩ | ⟨rfl, h5, rfl⟩ | ⟨rfl, h5, rfl⟩ | ⟨rfl, h5, rfl⟩ | ⟨rfl, h5, rfl⟩ | ⟨h5, h3, h4, rfl⟩
  · go_wp2
    go_ret
    exact ⟨rfl, HB1.out⟩
  · go_wp2
    go_ret
    exact ⟨rfl, HB1.out⟩
  · have h6 : ¬ (n ≤ (k : Int)) := by omega
    go_wp2
    go_ret
    exact ⟨rfl, HB1.out⟩
  · go_wp2
    go_ret
    exact ⟨rfl, HB1.out⟩
  · have h6 : ¬ (n ≤ (k : Int)) := by omega
    go_wp2
    go_ret
    exact ⟨rfl, HB1.out⟩
  · go_wp2
    go_ret
    exact ⟨rfl, HB1.out⟩
set_option maxRecDepth 100000 in
set_option maxHeartbeats 4000000 in
theorem rsafe_bad (w W0 : World) (p : PProg) (vt' : Value) (x' : Option Addr) (k' : Nat) (k : Int)
    (hW0 : W0 = w.alloc (.cells (progC vt' p (.slice x' p.code.length k')) 25)) (HS : Hid (Below w.heap.size w W0)) (KP : Hid (blk W0 w.heap.size (progC vt' p (.slice x' p.code.length k')) 25))
    (hk : k < 0 ∨ (0 ≤ k ∧ (p.code.length : Int) ≤ k)) :
    Calls Tryz.prog 11 #[.agg (progC vt' p (.slice x' p.code.length k')), .int .i64 k] w (AggPost w (.bool false)) := by
  have p3 : W0.cell? ⟨w.heap.size, 3, none⟩ = some (.slice x' p.code.length k') := blk_cell KP.out 3 _ rfl
  go_enter Tryz.func11, Tryz.ntmps11
  go_upto_region 1 with (fail)
  rw [← hW0]
  clear hW0
  rcases hk with hk | ⟨hk0, hk⟩
  · go_wp2
    go_ret
    exact ⟨rfl, HS.out⟩
  · go_wp2
    go_ret
    exact ⟨rfl, HS.out⟩
theorem rsafe_n (v : Value) (p : PProg) (w : World) (k : Int) (r : Bool) (h : ProgAt w v p) (hr : safeV p k = r) : Calls Tryz.prog 11 #[v, .int .i64 k] w (AggPost w (.bool r)) := by
  obtain ⟨vt', vc, rfl, htl, hc⟩ := id h
  obtain ⟨x', kx', rfl, g1, g2, g3⟩ := id hc
  unfold maxLen at g2
  have hwb : Below w.heap.size w (w.alloc (.cells (progC vt' p (.slice x' p.code.length kx')) 25)) := (Below.refl _ _).alloc (Nat.le_refl _) _
  by_cases hk : k < 0 ∨ (p.code.length : Int) ≤ k
  · have : r = false := by
      rw [← hr]; unfold safeV
      rcases Int.lt_or_le k 0 with h0 | h0
      · simp; omega
      · unfold safeL; rw [List.getElem?_eq_none (by omega)]; simp
    rw [this]
    exact rsafe_bad w _ p vt' x' kx' k rfl (Lib.hid hwb) (Lib.hid (blk_new _ _ _)) (by omega)
  · obtain ⟨m, rfl⟩ : ∃ m : Nat, k = m := ⟨k.toNat, by omega⟩
    have hi : p.code[m]? = some (p.code[m]'(by omega)) := List.getElem?_eq_getElem (by omega)
    generalize p.code[m]'(by omega) = i at hi
    obtain ⟨bb, o, rfl, hbb, hrng⟩ := g3 m i hi
    have hr' : r = (decide (i.op = 5) || (decide (i.op = 3) || decide (i.op = 4)) && decide (i.n ≤ (m : Int))) := by
      rw [← hr]; unfold safeV safeL; rw [Int.toNat_natCast, hi]; simp
    obtain ⟨op, a, b, c, n⟩ := i
    simp only at hr'
    refine rsafe_at w _ p vt' bb o kx' m op a b c n r rfl (Lib.hid hwb) (Lib.hid (blk_new _ _ _)) (by omega) g1 (by omega) (Lib.hid (rangeAt_below hrng hbb hwb)) ?_
    by_cases h5 : op = 5
    · exact .inl ⟨h5, by rw [hr']; simp [h5]⟩
    by_cases h3 : op = 3
    · by_cases hn : n ≤ (m : Int)
      · exact .inr (.inl ⟨h3, hn, by rw [hr']; simp [h3, hn]⟩)
      · exact .inr (.inr (.inl ⟨h3, by omega, by rw [hr']; simp [h3, hn]⟩))
    by_cases h4 : op = 4
    · by_cases hn : n ≤ (m : Int)
      · exact .inr (.inr (.inr (.inl ⟨h4, hn, by rw [hr']; simp [h4, hn]⟩)))
      · exact .inr (.inr (.inr (.inr (.inl ⟨h4, by omega, by rw [hr']; simp [h4, hn]⟩))))
    · exact .inr (.inr (.inr (.inr (.inr ⟨by simpa using h5, by simpa using h3, by simpa using h4, by rw [hr']; simp [h3, h4, h5]⟩))))
end Go.Proofs.YtapjgobkpehgfaaGreatDoor

/- The document's at, Local, Glob, number, to, one: contracts. -/
namespace Go.Proofs.YtapjgobkpehgfaaGreatDoor
set_option linter.unusedSimpArgs false
set_option linter.unusedVariables false
open Go.RowKit

theorem rrefs_b (v : Value) (ts : List ByteArray) (s : ByteArray) (b : Bool) (w : World) (h : TsAt w v ts) (hs : s.size ≤ 9223372036854775807) (hr : Hid (refsB ts s = b)) : Calls Tryz.prog 27 #[v, .string s] w fun e w' => e = .returned (.bool b) ∧ w = w' :=
  (rrefs_any v ts s w h hs).mono fun e w' ⟨h1, h2⟩ => ⟨by rw [h1, hr.out], h2⟩
theorem rsize_n (v : Value) (ts : List ByteArray) (t z : Int) (w : World) (h : TsAt w v ts) (hz : Hid (sizeI ts t = z)) : Calls Tryz.prog 44 #[v, .int .i64 t] w fun e w' => e = .returned (.int .i64 z) ∧ w = w' :=
  (rsize_any v ts t w h).mono fun e w' ⟨h1, h2⟩ => ⟨by rw [h1, hz.out], h2⟩
theorem rto_n (v : Value) (ts : List ByteArray) (t f z : Int) (w : World) (h : TsAt w v ts) (hz : Hid (toI ts t f = z)) : Calls Tryz.prog 79 #[v, .int .i64 t, .int .i64 f] w fun e w' => e = .returned (.int .i64 z) ∧ w = w' :=
  (rto_any v ts t f w h).mono fun e w' ⟨h1, h2⟩ => ⟨by rw [h1, hz.out], h2⟩
theorem at_out (v : Value) (s : ByteArray) (a : Nat) (w : World) (hs : s.size ≤ 9223372036854775807) (ha : a ≤ 255) (h : s.size ≤ a) (hv : ∃ x n c, v = .slice x n c) :
    Calls Tryz.prog 73 #[v, .string s, .int .u8 a] w fun e w' => e = .returned (.int .i64 (-1)) ∧ w = w' := by
  obtain ⟨x, n, c, rfl⟩ := hv
  go_enter Tryz.func73, Tryz.ntmps73
  go_wp2
  go_ret
  exact ⟨rfl, rfl⟩
theorem at_f (v : Value) (ts : List ByteArray) (s d : ByteArray) (a : Nat) (w : World) (h : TsAt w v ts) (hs : s.size ≤ 9223372036854775807) (hd : d.size ≤ 9223372036854775807) (ha : a ≤ 254) (hlt : a < s.size)
    (h1 : ∀ w, (Instr.slice 9 (.string s) (some (.int .u8 (a : Int))) (some (.int .u8 ((a : Int) + 1))) none).run Tryz.prog w = .ok (.string d) w)
    (hr : Hid (refsB ts d = false)) :
    Calls Tryz.prog 73 #[v, .string s, .int .u8 a] w fun e w' => e = .returned (.int .i64 (-1)) ∧ w = w' := by
  have H := Lib.hid h
  obtain ⟨x, c, rfl, -, -⟩ := h.shape
  clear h
  go_enter Tryz.func73, Tryz.ntmps73
  go_wp2_with (go_at_call 27; refine (rrefs_b _ ts d false _ H.out hd hr).mono ?_; rintro e w' ⟨rfl, rfl⟩)
  go_ret
  exact ⟨rfl, rfl⟩
theorem at_t (v : Value) (ts : List ByteArray) (s d : ByteArray) (a : Nat) (w : World) (h : TsAt w v ts) (hs : s.size ≤ 9223372036854775807) (hd : d.size ≤ 9223372036854775807) (ha : a ≤ 254) (hlt : a < s.size)
    (h1 : ∀ w, (Instr.slice 9 (.string s) (some (.int .u8 (a : Int))) (some (.int .u8 ((a : Int) + 1))) none).run Tryz.prog w = .ok (.string d) w)
    (hr : Hid (refsB ts d = true)) (h48 : 48 ≤ s[a].toNat) (h256 : s[a].toNat < 256) :
    Calls Tryz.prog 73 #[v, .string s, .int .u8 a] w fun e w' => e = .returned (.int .i64 ((s[a].toNat : Int) - 48)) ∧ w = w' := by
  have H := Lib.hid h
  obtain ⟨x, c, rfl, -, -⟩ := h.shape
  clear h
  go_enter Tryz.func73, Tryz.ntmps73
  go_wp2_with (go_at_call 27; refine (rrefs_b _ ts d true _ H.out hd hr).mono ?_; rintro e w' ⟨rfl, rfl⟩)
  go_ret
  exact ⟨rfl, rfl⟩
theorem slice_at1 (s : ByteArray) (a : Nat) (h : a < s.size) (w : World) : (Instr.slice 9 (.string s) (some (.int .u8 (a : Int))) (some (.int .u8 ((a : Int) + 1))) none).run Tryz.prog w = .ok (.string (s.extract a (a + 1))) w := by
  have := run_slice_string (P := Tryz.prog) (w := w) 9 s .u8 .u8 (a : Int) ((a : Int) + 1) Tryz.underlying9 (by omega) (by omega) (by omega)
  simpa using this
theorem one_letter' (s : Bs) (a : Nat) (h : a < s.length) : (⟨s.toArray⟩ : ByteArray).extract a (a + 1) = baL [s.getD a 0] := by
  rw [ByteArray.ext_iff]
  apply Array.ext'
  have e : s.getD a 0 = s[a] := by rw [List.getD_eq_getElem?_getD, List.getElem?_eq_getElem h]; rfl
  rw [e]
  simp [baL, ByteArray.data_extract]
  rw [List.drop_eq_getElem_cons h]
  rfl
theorem at_any (v : Value) (ts : List Bs) (s : Bs) (a : Int) (w : World) (h : TsAt w v (tsP ts)) (hs : s.length ≤ 200) (h0 : 0 ≤ a) (ha : a ≤ 255) :
    Calls Tryz.prog 73 #[v, str s, .int .u8 a] w fun e w' => e = .returned (.int .i64 (namesI ts s a)) ∧ w = w' := by
  obtain ⟨a, rfl⟩ : ∃ n : Nat, a = n := ⟨a.toNat, by omega⟩
  have hs' : (⟨s.toArray⟩ : ByteArray).size ≤ 9223372036854775807 := by show s.length ≤ _; omega
  by_cases hlt : a < s.length
  · have e1 := slice_at1 ⟨s.toArray⟩ a hlt
    rw [one_letter' s a hlt] at e1
    have hd : (baL [s.getD a 0]).size ≤ 9223372036854775807 := by show 1 ≤ _; omega
    have e4 : namesI ts s a = if refsB (tsP ts) (baL [s.getD a 0]) = true then ((s.getD a 0).toNat : Int) - 48 else -1 := by
      unfold namesI
      simp only [Int.toNat_natCast]
      by_cases hr : refsB (tsP ts) (baL [s.getD a 0]) = true
      · rw [if_pos ⟨by omega, by omega, hr⟩, if_pos hr]
      · rw [if_neg (fun h => hr h.2.2), if_neg hr]
    have e5 : (⟨s.toArray⟩ : ByteArray)[a]'hlt = s.getD a 0 := by
      rw [List.getD_eq_getElem?_getD, List.getElem?_eq_getElem hlt]; rfl
    rw [e4]
    rcases hr : refsB (tsP ts) (baL [s.getD a 0]) with _ | _
    · rw [if_neg (by simp)]
      exact at_f v (tsP ts) ⟨s.toArray⟩ _ a w h hs' hd (by omega) hlt e1 (Lib.hid hr)
    · rw [if_pos rfl]
      have h48 := ((refs_list.1 hr).2 (s.getD a 0) (by simp)).1
      have := at_t v (tsP ts) ⟨s.toArray⟩ _ a w h hs' hd (by omega) hlt e1 (Lib.hid hr) (by rw [e5]; exact h48) (UInt8.toNat_lt _)
      rw [e5] at this
      exact this
  · rw [names_no (by omega)]
    obtain ⟨x, c, rfl, -, -⟩ := h.shape
    exact at_out _ ⟨s.toArray⟩ a w hs' (by omega) (by show s.length ≤ a; omega) ⟨_, _, _, rfl⟩
theorem rlocal_n (v : Value) (p : PProg) (a z : Int) (w : World) (h : ProgAt w v p) (hs : OkP p) (hl : p.locals.length ≤ 200) (h0 : 0 ≤ a) (ha : a ≤ 255) (hz : localI p a = z) : Calls Tryz.prog 45 #[v, .int .u8 a] w (AggPost w (.int .i64 z)) := by
  obtain ⟨vt, vc, rfl, ht, hc⟩ := h
  have hwb : Below w.heap.size w (w.alloc (.cells (progC vt p vc) 25)) := (Below.refl _ _).alloc (Nat.le_refl _) _
  have HN := Lib.hid (at_any vt p.types p.locals a _ (ts_of (ht.below hwb) hs.ty) hl h0 ha)
  have HW := Lib.hid hwb
  obtain ⟨x, c, rfl, -, -, -⟩ := id ht.elems
  obtain ⟨x', c', rfl, -, -, -⟩ := id hc
  have HZ := Lib.hid hz
  clear ht hc hs hwb hz
  go_enter Tryz.func45, Tryz.ntmps45
  go_wp2_with (go_at_call 73; refine HN.out.mono ?_; rintro e w' ⟨rfl, rfl⟩)
  go_ret
  exact ⟨by rw [← HZ.out]; rfl, HW.out⟩
theorem rglob_n (v : Value) (p : PProg) (a z : Int) (w : World) (h : ProgAt w v p) (hs : OkP p) (hl : p.globs.length ≤ 200) (h0 : 0 ≤ a) (ha : a ≤ 255) (hz : globI p a = z) : Calls Tryz.prog 55 #[v, .int .u8 a] w (AggPost w (.int .i64 z)) := by
  obtain ⟨vt, vc, rfl, ht, hc⟩ := h
  have hwb : Below w.heap.size w (w.alloc (.cells (progC vt p vc) 25)) := (Below.refl _ _).alloc (Nat.le_refl _) _
  have HN := Lib.hid (at_any vt p.types p.globs a _ (ts_of (ht.below hwb) hs.ty) hl h0 ha)
  have HW := Lib.hid hwb
  obtain ⟨x, c, rfl, -, -, -⟩ := id ht.elems
  obtain ⟨x', c', rfl, -, -, -⟩ := id hc
  have HZ := Lib.hid hz
  clear ht hc hs hwb hz
  go_enter Tryz.func55, Tryz.ntmps55
  go_wp2_with (go_at_call 73; refine HN.out.mono ?_; rintro e w' ⟨rfl, rfl⟩)
  go_ret
  exact ⟨by rw [← HZ.out]; rfl, HW.out⟩
theorem one_n (s t : Int) (b : Bool) (w : World) (hb : sameT s t = b) : Calls Tryz.prog 52 #[.int .i64 s, .int .i64 t] w fun e w' => e = .returned (.bool b) ∧ w = w' := by
  unfold sameT at hb
  have HB := Lib.hid hb
  clear hb
  by_cases h : 0 ≤ s
  · by_cases h2 : s = t
    · have e1 : (s == t) = true := by simp [h2]
      have HS := Lib.hid h2
      clear h2
      go_enter Tryz.func52, Tryz.ntmps52
      go_wp2
      go_ret
      exact ⟨ret_bool (by rw [← HB.out]; have := HS.out; simp; omega), rfl⟩
    · have e1 : (s == t) = false := by simp [h2]
      have HS := Lib.hid h2
      clear h2
      go_enter Tryz.func52, Tryz.ntmps52
      go_wp2
      go_ret
      exact ⟨ret_bool (by rw [← HB.out]; have := HS.out; simp; omega), rfl⟩
  · go_enter Tryz.func52, Tryz.ntmps52
    go_wp2
    go_ret
    exact ⟨ret_bool (by rw [← HB.out]; simp; omega), rfl⟩
theorem rnum_n (v : Value) (p : PProg) (t n : Int) (b : Bool) (w : World) (h : ProgAt w v p) (hs : OkP p) (hb : numF p.types t n = b) : Calls Tryz.prog 53 #[v, .int .i64 t, .int .i64 n] w (AggPost w (.bool b)) := by
  obtain ⟨vt, vc, rfl, ht, hc⟩ := h
  have hwb : Below w.heap.size w (w.alloc (.cells (progC vt p vc) 25)) := (Below.refl _ _).alloc (Nat.le_refl _) _
  have HT := Lib.hid (ts_of (ht.below hwb) hs.ty)
  have HW := Lib.hid hwb
  obtain ⟨x, c, rfl, -, -, -⟩ := id ht.elems
  obtain ⟨x', c', rfl, -, -, -⟩ := id hc
  obtain ⟨z0, z1⟩ := sizeI_le (ts := tsP p.types) (t := t)
  obtain ⟨y0, y1⟩ := toI_le (ts := tsP p.types) (t := t) (f := n)
  have hnum : numF p.types t n = (decide (0 ≤ n) && decide (n < sizeI (tsP p.types) t) && decide (toI (tsP p.types) t n < 0)) := rfl
  rw [hnum] at hb
  generalize hzz : sizeI (tsP p.types) t = z at *
  generalize hyy : toI (tsP p.types) t n = y at *
  have HZ := Lib.hid hzz
  have HY := Lib.hid hyy
  have HB := Lib.hid hb
  clear ht hc hs hwb hb hzz hyy hnum
  by_cases h0 : 0 ≤ n
  · by_cases h1 : n < z
    all_goals
      go_enter Tryz.func53, Tryz.ntmps53
      go_wp2_with (first
        | (go_at_call 44; refine (rsize_n _ (tsP p.types) t z _ HT.out HZ).mono ?_; rintro e w' ⟨rfl, rfl⟩)
        | (go_at_call 79; refine (rto_n _ (tsP p.types) t n y _ HT.out HY).mono ?_; rintro e w' ⟨rfl, rfl⟩))
      go_ret
      exact ⟨ret_bool (by rw [← HB.out]; simp; omega), HW.out⟩
  · go_enter Tryz.func53, Tryz.ntmps53
    go_wp2
    go_ret
    exact ⟨ret_bool (by rw [← HB.out]; simp; omega), HW.out⟩
theorem toP_out {ts : List Bs} {t n : Int} (h : n < 0 ∨ 6 < n) : toP ts t n = -1 := by
  have h2 := (sizeI_le (ts := tsP ts) (t := t)).2
  unfold sizeI at h2
  unfold toP toI
  rw [if_neg]
  rintro ⟨h1, h3, h4⟩
  rw [if_pos h1] at h2
  omega
theorem rpts_n (v : Value) (p : PProg) (t n z : Int) (w : World) (h : ProgAt w v p) (hs : OkP p) (hz : toP p.types t n = z) : Calls Tryz.prog 54 #[v, .int .i64 t, .int .i64 n] w (AggPost w (.int .i64 z)) := by
  obtain ⟨vt, vc, rfl, ht, hc⟩ := h
  have hwb : Below w.heap.size w (w.alloc (.cells (progC vt p vc) 25)) := (Below.refl _ _).alloc (Nat.le_refl _) _
  have HT := Lib.hid (ts_of (ht.below hwb) hs.ty)
  have HW := Lib.hid hwb
  obtain ⟨x, c, rfl, -, -, -⟩ := id ht.elems
  obtain ⟨x', c', rfl, -, -, -⟩ := id hc
  by_cases hn : n < 0 ∨ 6 < n
  · obtain rfl : z = -1 := by rw [← hz]; exact toP_out hn
    clear ht hc hs hwb hz
    rcases hn with hn | hn
    all_goals
      go_enter Tryz.func54, Tryz.ntmps54
      go_wp2
      go_ret
      exact ⟨rfl, HW.out⟩
  · have HY : Hid (toI (tsP p.types) t n = z) := Lib.hid hz
    have h0 : 0 ≤ n := by omega
    have h6 : n ≤ 6 := by omega
    clear ht hc hs hwb hz hn
    go_enter Tryz.func54, Tryz.ntmps54
    go_wp2_with (go_at_call 79; refine (rto_n _ (tsP p.types) t n z _ HT.out HY).mono ?_; rintro e w' ⟨rfl, rfl⟩)
    go_ret
    exact ⟨rfl, HW.out⟩
end Go.Proofs.YtapjgobkpehgfaaGreatDoor
