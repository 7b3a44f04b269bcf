/-
  The document's Reach and Loops: contracts.
-/
import Derived.Test.YtcenjphpdgadmaaDoorFNext
import Derived.Test.YtcenjphpdgadmaaDoorPNew
import Derived.Deep.LoopGhost
namespace Go.Proofs.YtcenjphpdgadmaaDoor
set_option linter.unusedSimpArgs false
set_option linter.unusedVariables false
open Go.RowKit

abbrev boolsV (l : List Bool) : List Value := l.map Value.bool
abbrev bArr (l : List Bool) : Array Value := (boolsV l).toArray
theorem infoBool : (Tryd.prog.info? 4).map (fun i => (i.zero, i.size, i.bytes)) = some (some (.bool false), 1, 1) := by kernel_rfl
theorem bArr_get {l : List Bool} {k : Nat} (h : k < l.length) : (bArr l)[k]? = some (.bool (l.getD k false)) := by
  have e : l[k]? = some (l.getD k false) := by rw [List.getD_eq_getElem?_getD, List.getElem?_eq_getElem h]; rfl
  show ((boolsV l).toArray)[k]? = _
  rw [List.getElem?_toArray, List.getElem?_map, e]; rfl
theorem bArr_set (l : List Bool) (k : Nat) (v : Bool) : (bArr l).setIfInBounds k (.bool v) = bArr (l.set k v) := by simp [boolsV]
theorem bArr_zeros (n : Nat) : madeCells #[.bool false] n = bArr (List.replicate n false) := by
  rw [made_rep]
  apply Array.ext'
  simp
/-- What is left of a round. -/
def fromK (q : PProg) (a k : Nat) (had : List Bool) : List Bool := ((List.range (q.code.length + 1)).drop k).foldl (stepK q a) had
theorem fromK_0 (q : PProg) (a : Nat) (had : List Bool) : fromK q a 0 had = roundK q a had := rfl
theorem fromK_next {q : PProg} {a k : Nat} (h : k ≤ q.code.length) (had : List Bool) : fromK q a k had = fromK q a (k + 1) (stepK q a had k) := by
  unfold fromK
  rw [List.drop_eq_getElem_cons (by simp; omega)]
  simp
theorem fromK_end (q : PProg) (a : Nat) (had : List Bool) : fromK q a (q.code.length + 1) had = had := by
  unfold fromK
  rw [List.drop_eq_nil_of_le (by simp)]; rfl
/-- The world in Reach. -/
structure RcW (w wr : World) (H : Nat) (C : Array Value) (had : List Bool) : Prop where
  below : Below w.heap.size w wr
  prog : blk wr w.heap.size C 25
  hd : blk wr H (bArr had) 4
  hH : w.heap.size < H
theorem RcW.next {w wr w' : World} {H : Nat} {C : Array Value} {had : List Bool} (h : RcW w wr H C had) (hb : Below wr.heap.size wr w') : RcW w w' H C had :=
  ⟨h.below.trans (hb.mono h.below.size), blk_below h.prog hb, blk_below h.hd hb, h.hH⟩
theorem RcW.mark {w wr : World} {H : Nat} {C : Array Value} {had : List Bool} (h : RcW w wr H C had) (n : Nat) : RcW w (wr.setCell ⟨H, n, none⟩ (.bool true)) H C (markK had n) := by
  have hH := h.hH
  rw [setCell_putB h.hd, bArr_set]
  exact ⟨h.below.trans (putB_below _ (by omega) _ _), by unfold blk; rw [putB_ne _ (by omega)]; exact h.prog, putB_at h.hd _ _, h.hH⟩
def BoolsPost (w : World) (l : List Bool) (e : Ending) (w' : World) : Prop := ∃ v, e = .returned v ∧ w'.ownsRow w.heap.size 4 1 v l.length (boolsV l) ∧ Below w.heap.size w w'
theorem RcW.post {w wr : World} {H : Nat} {C : Array Value} {had : List Bool} (h : RcW w wr H C had) (hl : had.length ≤ 1000000) : BoolsPost w had (.returned (.slice (some ⟨H, 0, none⟩) had.length had.length)) wr :=
  ⟨_, rfl, ⟨by simp, .inr ⟨H, had.length, bArr had, rfl, by have := h.hH; omega, h.hd, Nat.le_refl _, by unfold maxLen; omega, by simp, by rw [Nat.mul_one]; exact List.take_of_length_le (by simp)⟩⟩, h.below⟩
theorem nextL_cast (q : PProg) (k : Nat) : nextV q k = (nextL q k).map (fun n : Nat => (n : Int)) := by unfold nextV; rw [if_pos (by omega), Int.toNat_natCast]
theorem mark_len (had : List Bool) (n : Nat) : (markK had n).length = had.length := by unfold markK; simp
set_option maxRecDepth 100000 in
set_option maxHeartbeats 8000000 in
theorem rreach_at (w W0 : World) (p : PProg) (vt' : Value) (x' : Option Addr) (k' : Nat) (a : Nat)
    (hW0 : W0 = w.alloc (.cells (progC vt' p (.slice x' p.code.length k')) 25)) (HS : Hid (Below w.heap.size w W0)) (KP : Hid (blk W0 w.heap.size (progC vt' p (.slice x' p.code.length k')) 25))
    (ha : a ≤ p.code.length) (hlen : p.code.length ≤ 200) (hin : Hid (InP p))
    (HN : Hid (∀ (w1 : World) (k : Nat), Below w.heap.size w w1 → Calls Tryd.prog 15 #[.agg (progC vt' p (.slice x' p.code.length k')), .int .i64 k] w1 (RowPost w1 (nextV p k)))) :
    Calls Tryd.prog 12 #[.agg (progC vt' p (.slice x' p.code.length k')), .int .i64 a] w (BoolsPost w (wayL p a)) := by
  have p3 : W0.cell? ⟨w.heap.size, 3, none⟩ = some (.slice x' p.code.length k') := blk_cell KP.out 3 _ rfl
  have hmk : ∀ w, (Instr.makeSlice 28 (.int .i64 ((p.code.length : Int) + 1)) (.int .i64 ((p.code.length : Int) + 1))).run Tryd.prog w = .ok (.slice (some ⟨w.heap.size, 0, none⟩) (p.code.length + 1) (p.code.length + 1)) (w.alloc (.cells (madeCells #[.bool false] (p.code.length + 1)) 4)) := fun w => run_make_row' _ _ _ _ Tryd.underlying28 infoBool rfl _ _ (p.code.length + 1) (by omega) (by omega) w
  have hal : ¬ ((p.code.length : Int) < (a : Int)) := by omega
  go_enter Tryd.func12, Tryd.ntmps12
  go_upto_region 1 with (fail)
  rw [← hW0]
  clear hW0
  go_upto_region 4 with (fail)
  rw [bArr_zeros]
  have HW0 : Hid (RcW w (W0.alloc (.cells (bArr (List.replicate (p.code.length + 1) false)) 4)) W0.heap.size (progC vt' p (.slice x' p.code.length k')) (List.replicate (p.code.length + 1) false)) := Lib.hid
    ⟨HS.out.trans (((Below.refl _ _).alloc (Nat.le_refl _) _).mono HS.out.size), blk_alloc KP.out _, blk_new _ _ _, blk_lt KP.out⟩
  obtain ⟨H, hH⟩ : ∃ H, H = W0.heap.size := ⟨_, rfl⟩
  obtain ⟨wb, hwb⟩ : ∃ wb, wb = W0.alloc (.cells (bArr (List.replicate (p.code.length + 1) false)) 4) := ⟨_, rfl⟩
  rw [← hwb] at HW0 ⊢
  rw [← hH] at HW0 ⊢
  clear hwb hH p3 hmk KP HS
  go_wp2_with (fail)
  go_loopw [6] (fun v6 wr => ∃ (r : Nat) (had : List Bool), r ≤ p.code.length + 1 ∧ v6 = .int .i64 r ∧ Hid (RcW w wr H (progC vt' p (.slice x' p.code.length k')) had) ∧ Hid (had.length = p.code.length + 1 ∧ roundsK p a (p.code.length + 1 - r) had = wayL p a)) (fun v6 _ => p.code.length + 1 - (intOf v6).toNat)
  case atStart => exact ⟨0, _, Nat.zero_le _, rfl, HW0, Lib.hid ⟨by simp, rfl⟩⟩
  case round =>
    obtain ⟨r, had, hr, rfl, HW, HQ⟩ := hrel
    clear HW0
    have p3 : wr.cell? ⟨w.heap.size, 3, none⟩ = some (.slice x' p.code.length k') := blk_cell HW.out.prog 3 _ rfl
    by_cases hrl : r ≤ p.code.length
    · have hri : (r : Int) ≤ (p.code.length : Int) := by omega
      go_wp2_with (fail)
      obtain ⟨wo, hwo⟩ : ∃ wo : World, wo = wr := ⟨_, rfl⟩
      rw [← hwo] at HW ⊢
      clear p3 hwo
      go_loopw [7] (fun v7 wr => ∃ (k : Nat) (hb : List Bool), k ≤ p.code.length + 1 ∧ v7 = .int .i64 k ∧ Hid (RcW w wr H (progC vt' p (.slice x' p.code.length k')) hb) ∧ Hid (hb.length = p.code.length + 1 ∧ fromK p a k hb = roundK p a had)) (fun v7 _ => p.code.length + 1 - (intOf v7).toNat)
      case atStart => exact ⟨0, had, Nat.zero_le _, rfl, HW, Lib.hid ⟨HQ.out.1, rfl⟩⟩
      case round =>
        obtain ⟨k, hb, hk, rfl, HW, HR⟩ := hrel
        have p3 : wr.cell? ⟨w.heap.size, 3, none⟩ = some (.slice x' p.code.length k') := blk_cell HW.out.prog 3 _ rfl
        by_cases hkl : k ≤ p.code.length
        · have hki : (k : Int) ≤ (p.code.length : Int) := by omega
          go_wp2_with (first
            | (refine wpList_loadB rfl 25 _ rfl w.heap.size (progC vt' p (.slice x' p.code.length k')) rfl 25 HW.out.prog _ Tryd.underlying25 rfl prog_info ?_)
            | (go_at_call 15; refine (HN.out _ k HW.out.below).mono ?_; rintro e1 w4 ⟨v8, rfl, ho, hb4⟩; obtain ⟨ad, cap, hv8, hcp, hcp2⟩ := own_form ho; subst hv8; have HO4 := Lib.hid (ownsRow_le ho (Nat.zero_le _)); have HW4 := Lib.hid (HW.out.next hb4); clear ho hb4 p3))
          have hll : (nextV p k).length = (nextL p k).length := by rw [nextL_cast]; simp
          rw [hll] at hcp HO4 ⊢
          clear hll
          have hl2 := (next_sorted (q := p) k).1
          go_loopw [9] (fun v9 wr => ∃ (j : Nat) (hc : List Bool), j ≤ (nextL p k).length ∧ v9 = .int .i64 j ∧ Hid (RcW w wr H (progC vt' p (.slice x' p.code.length k')) hc) ∧ Hid (wr.ownsRow 0 3 1 (.slice ad (nextL p k).length cap) (nextL p k).length (i64s (nextV p k))) ∧
            Hid (hc.length = p.code.length + 1 ∧ (if k = a ∨ hc.getD k false = true then ((nextL p k).drop j).foldl markK hc else hc) = stepK p a hb k)) (fun v9 _ => (nextL p k).length - (intOf v9).toNat)
          case atStart => exact ⟨0, hb, Nat.zero_le _, rfl, HW4, HO4, Lib.hid ⟨HR.out.1, rfl⟩⟩
          case round =>
            obtain ⟨j, hc, hj, rfl, HW, HO, HS⟩ := hrel
            clear HW4 HO4
            by_cases hjl : j < (nextL p k).length
            · have hji : (j : Int) < ((nextL p k).length : Int) := by omega
              obtain ⟨n, hn⟩ : ∃ n, (nextL p k)[j]? = some n := ⟨_, List.getElem?_eq_getElem hjl⟩
              have hnl := (next_le hin.out (List.mem_of_getElem? hn)).1
              have hni : (n : Int) < (p.code.length : Int) + 1 := by omega
              have hn0 : (0 : Int) ≤ (n : Int) := by omega
              have hnv : (nextV p k)[j]? = some (n : Int) := by rw [nextL_cast]; simp [hn]
              obtain ⟨g, hg, cn⟩ : ∃ g, ad = some ⟨g, 0, none⟩ ∧ wr.cell? ⟨g, j, none⟩ = some (.int .i64 (n : Int)) := by
                obtain ⟨a0, c0, e0, -, -, h3⟩ := RowAt.of_own HO.out
                simp only [Value.slice.injEq] at e0
                obtain ⟨rfl, -, -⟩ := e0
                rcases h3 with h3 | ⟨b1, o1, rfl, -, hc1⟩
                · have := congrArg List.length h3; simp at this; rw [nextL_cast] at this; simp at this; rw [this] at hn; simp at hn
                · rcases HO.out.2 with ⟨hv, _⟩ | ⟨g, cp, cr, hv, _⟩
                  · simp at hv
                  · simp only [Value.slice.injEq, Option.some.injEq, Addr.mk.injEq] at hv
                    obtain ⟨⟨rfl, rfl, -⟩, -, -⟩ := hv
                    exact ⟨b1, rfl, by have := hc1 j _ (i64s_get hnv); rw [Nat.zero_add] at this; exact this⟩
              subst hg
              have hdrop : (nextL p k).drop j = n :: (nextL p k).drop (j + 1) := by
                rw [List.drop_eq_getElem_cons hjl]
                congr 1
                rw [List.getElem?_eq_getElem hjl] at hn
                exact Option.some.inj hn
              have HD := Lib.hid hdrop
              have HOn : Hid ((wr.setCell ⟨H, n, none⟩ (.bool true)).ownsRow 0 3 1 (.slice (some ⟨g, 0, none⟩) (nextL p k).length cap) (nextL p k).length (i64s (nextV p k))) := Lib.hid (by
                rw [setCell_putB HW.out.hd]
                exact own_same HO.out (fun g' hg' _ => putB_ne wr (own_ne HO.out HW.out.hd (by decide) g' hg') _ _))
              clear hdrop hn hnv
              have ch : wr.cell? ⟨H, n, none⟩ = some (.bool (hc.getD n false)) := blk_cell HW.out.hd n _ (bArr_get (by have := HS.out.1; omega))
              have fh := blk_frozen HW.out.hd n
              by_cases hka : k = a
              · have e50 : ((k : Int) == (a : Int)) = true := by simp; omega
                have HW2 := Lib.hid (HW.out.mark n)
                have HS2 : Hid ((markK hc n).length = p.code.length + 1 ∧ (if k = a ∨ (markK hc n).getD k false = true then ((nextL p k).drop (j + 1)).foldl markK (markK hc n) else markK hc n) = stepK p a hb k) := Lib.hid ⟨by rw [mark_len]; exact HS.out.1, by
                  have := HS.out.2
                  rw [if_pos (.inl hka), HD.out] at this
                  rw [if_pos (.inl hka)]; exact this⟩
                have HK := Lib.hid hka
                clear hka HW HO HS
                go_wp2
                go_roundw
                case rel => exact ⟨j + 1, _, by omega, by go_num, HW2, HOn, HS2⟩
                case measure => simp [intOf]; omega
              · have e50 : ((k : Int) == (a : Int)) = false := by simp; omega
                have ck : wr.cell? ⟨H, k, none⟩ = some (.bool (hc.getD k false)) := blk_cell HW.out.hd k _ (bArr_get (by have := HS.out.1; omega))
                have hkc : (k : Int) < (p.code.length : Int) + 1 := by omega
                by_cases hbk : hc.getD k false = true
                · have HW2 := Lib.hid (HW.out.mark n)
                  have HS2 : Hid ((markK hc n).length = p.code.length + 1 ∧ (if k = a ∨ (markK hc n).getD k false = true then ((nextL p k).drop (j + 1)).foldl markK (markK hc n) else markK hc n) = stepK p a hb k) := Lib.hid ⟨by rw [mark_len]; exact HS.out.1, by
                    have := HS.out.2
                    rw [if_pos (.inr hbk), HD.out] at this
                    rw [if_pos (.inr ((mark_le hc n).2 k hbk))]; exact this⟩
                  rw [hbk] at ck
                  clear hka hbk HW HO HS
                  go_wp2
                  go_roundw
                  case rel => exact ⟨j + 1, _, by omega, by go_num, HW2, HOn, HS2⟩
                  case measure => simp [intOf]; omega
                · have HS2 : Hid (hc.length = p.code.length + 1 ∧ (if k = a ∨ hc.getD k false = true then ((nextL p k).drop (j + 1)).foldl markK hc else hc) = stepK p a hb k) := Lib.hid ⟨HS.out.1, by
                    have := HS.out.2
                    rw [if_neg (by rintro (h | h); exact hka h; exact hbk h)] at this
                    rw [if_neg (by rintro (h | h); exact hka h; exact hbk h)]; exact this⟩
                  have hbf : hc.getD k false = false := by simpa using hbk
                  rw [hbf] at ck
                  clear hka hbk hbf HS HOn
                  go_wp2
                  go_roundw
                  case rel => exact ⟨j + 1, _, by omega, by go_num, HW, HO, HS2⟩
                  case measure => simp [intOf]; omega
            · have hje : j = (nextL p k).length := by omega
              have hend : hc.length = p.code.length + 1 ∧ fromK p a (k + 1) hc = roundK p a had := by
                have h1 := HS.out.2
                rw [hje, List.drop_eq_nil_of_le (Nat.le_refl _)] at h1
                have h2 : hc = stepK p a hb k := by
                  rw [← h1]; split <;> rfl
                refine ⟨HS.out.1, ?_⟩
                rw [h2, ← fromK_next hkl, HR.out.2]
              have HE := Lib.hid hend
              have hjn : ¬ ((j : Int) < ((nextL p k).length : Int)) := by omega
              clear hend hje HS HO
              go_wp2
              go_roundw
              case rel => exact ⟨k + 1, hc, by omega, by go_num, HW, HE⟩
              case measure => simp [intOf]; omega
        · have hke : k = p.code.length + 1 := by omega
          have HE : Hid (hb.length = p.code.length + 1 ∧ roundsK p a (p.code.length + 1 - (r + 1)) hb = wayL p a) := Lib.hid ⟨HR.out.1, by
            have h1 := HR.out.2
            rw [hke, fromK_end] at h1
            have h2 := HQ.out.2
            rw [show p.code.length + 1 - r = (p.code.length + 1 - (r + 1)) + 1 by omega] at h2
            unfold roundsK at h2
            rw [← h1] at h2
            exact h2⟩
          have hkn : ¬ ((k : Int) ≤ (p.code.length : Int)) := by omega
          clear hke HR HQ
          go_wp2
          go_roundw
          case rel => exact ⟨r + 1, hb, by omega, by go_num, HW, HE⟩
          case measure => simp [intOf]; omega
    · have hre : r = p.code.length + 1 := by omega
      have HE : Hid (had = wayL p a ∧ had.length = p.code.length + 1) := Lib.hid ⟨by
        have h2 := HQ.out.2
        rw [hre, Nat.sub_self] at h2
        exact h2, HQ.out.1⟩
      have hrn : ¬ ((r : Int) ≤ (p.code.length : Int)) := by omega
      clear hre HQ
      go_wp2
      go_ret
      have := HW.out.post (by rw [HE.out.2]; omega)
      rw [HE.out.2] at this
      rw [← HE.out.1]
      exact this
end Go.Proofs.YtcenjphpdgadmaaDoor
