/-
  LiveDead: the walk.
-/
import Derived.Test.YtijgpfimdlnkiaaDoorVPA
import Derived.Deep.LoopGhost
import Derived.Test.YtijgpfimdlnkiaaDoorVLaw2
namespace Go.Proofs.YtijgpfimdlnkiaaDoor
set_option linter.unusedSimpArgs false
set_option linter.unusedVariables false
open Go.RowKit

theorem and_u8 {a b : Nat} (ha : a < 256) (hb : b < 256) : bits .and .u8 (a : Int) (b : Int) = ((a &&& b : Nat) : Int) :=
  (bits_nat .u8 8 (Nat.le_refl _) (fun n h0 h1 => wraps_u8 n h0 h1) a b ha hb).1
set_option maxRecDepth 100000 in
set_option maxHeartbeats 8000000 in
theorem ldead_at (w W0 : World) (p : PProg) (a0 : Nat) (x x' : Option Addr) (kx kx' : Nat)
    (hW0 : W0 = w.alloc (.cells (progC (.slice x p.types.length kx) p (.slice x' p.code.length kx')) 25)) (KP : Hid (Keep W0 w.heap.size (.slice x p.types.length kx) (.slice x' p.code.length kx') p)) (HB : Hid (Below w.heap.size w W0))
    (HAL : Hid (∀ w1, Calls Tryd.prog 9 #[] w1 (AggPost w1 (.bool true))))
    (HSO : Hid (∀ w1, ProgAt w1 (.agg (progC (.slice x p.types.length kx) p (.slice x' p.code.length kx'))) p → Below w.heap.size w w1 → Calls Tryd.prog 14 #[.agg (progC (.slice x p.types.length kx) p (.slice x' p.code.length kx'))] w1 (AggPost w1 (.bool (soundB p)))))
    (g2 : kx' ≤ 9223372036854775807) (g1 : p.code.length ≤ kx')
    (HLI : Hid (soundB p = true → ∀ w1, ProgAt w1 (.agg (progC (.slice x p.types.length kx) p (.slice x' p.code.length kx'))) p → Calls Tryd.prog 15 #[.agg #[.slice x p.types.length kx, str p.locals, str p.globs, .slice x' p.code.length kx']] w1 (U8sPost w1 (liveL p))))
    (hok : Hid (∀ i ∈ p.code, OkI i)) (ha0 : a0 ≤ 255) (HUP : Hid (∀ i, OkI i → ∀ w1, Calls Tryd.prog 10 #[.agg (insC i)] w1 (AggPost w1 (.int .u8 ((usesN i : Nat) : Int))))) (HSP : Hid (∀ i, OkI i → ∀ w1, Calls Tryd.prog 12 #[.agg (insC i)] w1 (AggPost w1 (.int .u8 ((setsN i : Nat) : Int))))) :
    Calls Tryd.prog 8 #[.agg (progC (.slice x p.types.length kx) p (.slice x' p.code.length kx')), .int .u8 a0] w (AggPost w (.bool true)) := by
  go_enter Tryd.func8, Tryd.ntmps8
  go_upto_region 1 with (fail)
  rw [← hW0]
  clear hW0
  rcases hsd : soundB p with _ | _
  · rw [hsd] at HSO
    go_wp2_with (first
      | (refine wpList_loadB rfl 25 _ rfl w.heap.size (progC (.slice x p.types.length kx) p (.slice x' p.code.length kx')) rfl 25 KP.out.blk _ Tryd.underlying25 rfl prog_info ?_)
      | (go_at_call 9; ((with_reducible refine (HAL.out _).mono ?_); rintro e w1 ⟨rfl, hb⟩; have KP := Lib.hid (KP.out.below hb); have HB := Lib.hid (HB.out.trans (hb.mono HB.out.size)); clear hb))
      | (go_at_call 14; ((with_reducible refine (HSO.out _ KP.out.at' HB.out).mono ?_); rintro e w2 ⟨rfl, hb⟩; have KP := Lib.hid (KP.out.below hb); have HB := Lib.hid (HB.out.trans (hb.mono HB.out.size)); clear hb)))
    go_ret
    exact ⟨rfl, HB.out⟩
  have HLI : Hid (∀ w1, ProgAt w1 (.agg (progC (.slice x p.types.length kx) p (.slice x' p.code.length kx'))) p → Calls Tryd.prog 15 #[.agg (progC (.slice x p.types.length kx) p (.slice x' p.code.length kx'))] w1 (U8sPost w1 (liveL p))) := Lib.hid (HLI.out hsd)
  obtain ⟨hfw, hl60, hck, hin0, hl1⟩ := sound_parts hsd
  have HIN := Lib.hid hin0
  rw [hsd] at HSO
  clear hin0 hck hsd
  go_upto_region 6 with (first
    | (refine wpList_loadB rfl 25 _ rfl w.heap.size (progC (.slice x p.types.length kx) p (.slice x' p.code.length kx')) rfl 25 KP.out.blk _ Tryd.underlying25 rfl prog_info ?_)
    | (go_at_call 9; ((with_reducible refine (HAL.out _).mono ?_); rintro e w1 ⟨rfl, hb⟩; have KP := Lib.hid (KP.out.below hb); have HB := Lib.hid (HB.out.trans (hb.mono HB.out.size)); clear hb))
    | (go_at_call 14; ((with_reducible refine (HSO.out _ KP.out.at' HB.out).mono ?_); rintro e w2 ⟨rfl, hb⟩; have KP := Lib.hid (KP.out.below hb); have HB := Lib.hid (HB.out.trans (hb.mono HB.out.size)); clear hb))
    | (go_at_call 15; ((with_reducible refine (HLI.out _ KP.out.at').mono ?_); rintro e w3 ⟨v3, rfl, hr, hb⟩; obtain ⟨b4, o4, cp4, hv3, hc4, hd4, hbx, hcell⟩ := u8A_cells hr live_n1; subst hv3; have KP := Lib.hid (KP.out.below hb); have HB := Lib.hid (HB.out.trans (hb.mono HB.out.size)); clear hb; have HL := Lib.hid (U8At.mk hbx hcell); clear hr hbx hcell)))
  have p3 := KP.out.cells.2.2.2
  have e1 : (((p.code.length + 1 : Nat) : Int) != (p.code.length : Int) + 1) = false := by simp
  clear HSO HAL HLI
  go_wp2_with (fail)
  go_loopw [27] (fun v27 wr => ∃ k : Nat, k ≤ p.code.length ∧ v27 = .int .i64 k ∧ Hid (Keep wr w.heap.size (.slice x p.types.length kx) (.slice x' p.code.length kx') p) ∧ Hid (Below w.heap.size w wr) ∧ Hid (U8At wr b4 o4 p.code.length (liveL p))) (fun v27 _ => p.code.length - (intOf v27).toNat)
  case atStart => exact ⟨0, Nat.zero_le _, rfl, KP, HB, HL⟩
  case round =>
    obtain ⟨k, hk, rfl, KR, HBR, HLR⟩ := hrel
    clear KP HB HL p3
    by_cases hkl : k < p.code.length
    · have hki : (k : Int) < (p.code.length : Int) := by omega
      have hki3 : (k : Int) < (p.code.length : Int) + 1 := by omega
      have hk0 : (0 : Int) ≤ (k : Int) := by omega
      have hkl' : k ≤ p.code.length := by omega
      obtain ⟨i, hi⟩ : ∃ i, p.code[k]? = some i := ⟨_, List.getElem?_eq_getElem hkl⟩
      obtain ⟨bb, o, rfl, hbb, hrg⟩ := prog_ins KR.out.at' hi
      have hoki := hok.out i (List.mem_of_getElem? hi)
      obtain ⟨hd1, hd2⟩ := live_dead hi
      obtain ⟨op, a, b, c, n⟩ := i
      have HUS : Hid (∀ w1, Calls Tryd.prog 10 #[.agg #[.int .u8 op, .int .u8 a, .int .u8 b, .int .u8 c, .int .i64 n]] w1 (AggPost w1 (.int .u8 ((usesN ⟨op, a, b, c, n⟩ : Nat) : Int)))) := Lib.hid fun w1 => HUP.out _ hoki w1
      have HSE : Hid (∀ w1, Calls Tryd.prog 12 #[.agg #[.int .u8 op, .int .u8 a, .int .u8 b, .int .u8 c, .int .i64 n]] w1 (AggPost w1 (.int .u8 ((setsN ⟨op, a, b, c, n⟩ : Nat) : Int)))) := Lib.hid fun w1 => HSP.out _ hoki w1
      have hul := uses_lt ⟨op, a, b, c, n⟩
      have hsl := sets_lt ⟨op, a, b, c, n⟩
      generalize setsN ⟨op, a, b, c, n⟩ = sN at hd1 HSE hsl
      generalize usesN ⟨op, a, b, c, n⟩ = uN at hd1 hd2 HUS hul
      have hzl := live_lt (q := p) k
      obtain ⟨z, hz⟩ : ∃ z, z = (liveL p).getD k 0 := ⟨_, rfl⟩
      have HZ : Hid ((liveL p).getD k 0 = z) := Lib.hid hz.symm
      rw [← hz] at hd1 hd2 hzl
      clear hz
      have HBD := Lib.hid (but_u8 hsl hul)
      have f1 : (bits .and .u8 (z : Int) ((butN sN uN : Nat) : Int) != 0) = false := by rw [and_u8 hzl (but_lt uN hsl), hd1]; rfl
      have f2 : (bits .andNot .u8 (uN : Int) (z : Int) != 0) = false := by rw [but_u8 hul hzl, hd2]; rfl
      obtain ⟨d0, d1, d2, d3, d4⟩ : (wr.cell? ⟨bb, o + k * 5, none⟩ = some (.int .u8 op)) ∧ wr.cell? ⟨bb, o + k * 5 + 1, none⟩ = some (.int .u8 a) ∧ wr.cell? ⟨bb, o + k * 5 + 2, none⟩ = some (.int .u8 b) ∧ wr.cell? ⟨bb, o + k * 5 + 3, none⟩ = some (.int .u8 c) ∧ wr.cell? ⟨bb, o + k * 5 + 4, none⟩ = some (.int .i64 n) := ⟨hrg 0 _ rfl, hrg 1 _ rfl, hrg 2 _ rfl, hrg 3 _ rfl, hrg 4 _ rfl⟩
      have p3 := KR.out.cells.2.2.2
      clear hrg hoki hd1 hd2 hul hsl hzl
      go_upto_region 11 with (fail)
      have hab : Below wr.heap.size wr (wr.alloc (.cells (insC ⟨op, a, b, c, n⟩) 27)) := (Below.refl _ _).alloc (Nat.le_refl _) _
      have HF : Hid (FlF w (wr.alloc (.cells (insC ⟨op, a, b, c, n⟩) 27)) b4 o4 k wr.heap.size (liveL p) x (some ⟨bb, o, none⟩) kx kx' p op a b c n) := Lib.hid ⟨KR.out.below hab, HBR.out.trans (hab.mono HBR.out.size), HLR.out.next hab, blk_new _ _ _⟩
      obtain ⟨I, hI⟩ : ∃ I, I = wr.heap.size := ⟨_, rfl⟩
      obtain ⟨wa, hwa⟩ : ∃ wa, wa = wr.alloc (.cells (insC ⟨op, a, b, c, n⟩) 27) := ⟨_, rfl⟩
      rw [← hwa] at HF ⊢
      rw [← hI] at HF ⊢
      clear hab hwa hI d0 d1 d2 d3 d4 p3 KR HBR HLR
      obtain ⟨qk, c0, c1, c2, c3, c4, p1⟩ := HF.out.cells hkl' HZ.out
      have HF := Lib.hid (HF.out.next (Below.refl _ _).drew)
      go_region_held3 (fun w' => w'.cell? ⟨I, 0, none⟩ = some (.int .u8 op) ∧ w'.cell? ⟨I, 1, none⟩ = some (.int .u8 a) ∧ w'.cell? ⟨I, 2, none⟩ = some (.int .u8 b) ∧ w'.cell? ⟨I, 3, none⟩ = some (.int .u8 c) ∧ w'.cell? ⟨I, 4, none⟩ = some (.int .i64 n)) (go_keep) (first
        | (go_at_call 10; ((with_reducible refine (HUS.out _).mono ?_); rintro e wq ⟨rfl, hb⟩; have HF := Lib.hid (HF.out.next hb); clear hb qk c0 c1 c2 c3 c4 p1; obtain ⟨qk, c0, c1, c2, c3, c4, p1⟩ := HF.out.cells hkl' HZ.out))
        | (go_at_call 12; ((with_reducible refine (HSE.out _).mono ?_); rintro e wq ⟨rfl, hb⟩; have HF := Lib.hid (HF.out.next hb); clear hb qk c0 c1 c2 c3 c4 p1; obtain ⟨qk, c0, c1, c2, c3, c4, p1⟩ := HF.out.cells hkl' HZ.out)))
      all_goals
        rw [HBD.out]
        have HF := Lib.hid (HF.out.next (Below.refl _ _).drew)
        go_upto_region 12 with (fail)
        go_region_held3 (fun w' => w'.cell? ⟨b4, o4 + k, none⟩ = some (.int .u8 (z : Int)) ∧ w'.cell? ⟨I, 0, none⟩ = some (.int .u8 op) ∧ w'.cell? ⟨I, 1, none⟩ = some (.int .u8 a) ∧ w'.cell? ⟨I, 2, none⟩ = some (.int .u8 b) ∧ w'.cell? ⟨I, 3, none⟩ = some (.int .u8 c) ∧ w'.cell? ⟨I, 4, none⟩ = some (.int .i64 n)) (go_keep) (first
          | (go_at_call 10; ((with_reducible refine (HUS.out _).mono ?_); rintro e wq ⟨rfl, hb⟩; have HF := Lib.hid (HF.out.next hb); clear hb qk c0 c1 c2 c3 c4 p1; obtain ⟨qk, c0, c1, c2, c3, c4, p1⟩ := HF.out.cells hkl' HZ.out)))
      all_goals
        clear qk c0 c1 c2 c3 c4 p1
        go_wp2
        go_roundw
        case rel => exact ⟨k + 1, by omega, by go_num, Lib.hid HF.out.keep, Lib.hid HF.out.below, Lib.hid HF.out.row⟩
        case measure => simp [intOf]; omega
    · have hkn : ¬ ((k : Int) < (p.code.length : Int)) := by omega
      have hz : ((p.code.length : Int) == 0) = false := by simp; intro h; rw [h] at hl1; simp at hl1
      have hz' : ¬ ((p.code.length : Int) = 0) := by omega
      have p3 := KR.out.cells.2.2.2
      go_upto_region 16 with (fail)
      obtain ⟨m, hm, hmm⟩ : ∃ m : Nat, m < p.code.length ∧ (a0 : Int) % (p.code.length : Int) = m := ⟨a0 % p.code.length, Nat.mod_lt a0 (by omega), rfl⟩
      rw [hmm]
      clear hmm hz hz'
      obtain ⟨i, hi⟩ : ∃ i, p.code[m]? = some i := ⟨_, List.getElem?_eq_getElem hm⟩
      obtain ⟨bb, o, rfl, hbb, hrg⟩ := prog_ins KR.out.at' hi
      have hmi : (m : Int) < (p.code.length : Int) := by omega
      have hmi3 : (m : Int) < (p.code.length : Int) + 1 := by omega
      have hm0 : (0 : Int) ≤ (m : Int) := by omega
      have q0 := HLR.out.c m (by omega)
      by_cases h3 : i.op = 3
      · have hjm := live_jump hi h3
        have hin := HIN.out i (List.mem_of_getElem? hi) (.inl h3)
        obtain ⟨op, a, b, c, n⟩ := i
        simp only at h3 hin hjm
        subst h3
        obtain ⟨nn, rfl⟩ : ∃ nn : Nat, n = nn := ⟨n.toNat, by omega⟩
        rw [Int.toNat_natCast] at hjm
        have hn0 : (0 : Int) ≤ (nn : Int) := by omega
        have hn3 : (nn : Int) < (p.code.length : Int) + 1 := by omega
        have q1 := HLR.out.c nn (by omega)
        rw [← hjm] at q1
        have d0 : wr.cell? ⟨bb, o + m * 5, none⟩ = some (.int .u8 3) := hrg 0 _ rfl
        have d4 : wr.cell? ⟨bb, o + m * 5 + 4, none⟩ = some (.int .i64 (nn : Int)) := hrg 4 _ rfl
        generalize (liveL p).getD m 0 = z at q0 q1
        clear hi hrg hjm hin HLR KR HIN hok
        go_quiet (fail)
        go_wp2
        go_ret
        exact ⟨rfl, below8_draws HBR.out _⟩
      · have hq : (i.op != 3) = true := by simpa using h3
        have d0 : wr.cell? ⟨bb, o + m * 5, none⟩ = some (.int .u8 i.op) := hrg 0 _ rfl
        clear hi hrg h3 HLR KR HIN hok
        go_quiet (fail)
        go_wp2
        go_ret
        exact ⟨rfl, below8_draws HBR.out _⟩
theorem ldead_walk (v : Value) (p : PProg) (a : Int) (w : World) (h : ProgAt w v p) (hs : OkP p) (ha0 : 0 ≤ a) (ha : a ≤ 255) (ht' : HasT w) : Calls Tryd.prog 8 #[v, .int .u8 a] w fun e w' => e = .returned (.bool true) ∧ Below w.heap.size w w' := by
  obtain ⟨vt, vc, rfl, ht, hc⟩ := id h
  have hwb : Below w.heap.size w (w.alloc (.cells (progC vt p vc) 25)) := (Below.refl _ _).alloc (Nat.le_refl _) _
  have HK := keep_new h
  obtain ⟨x, c, rfl, -, -, -⟩ := id ht.elems
  obtain ⟨x', c', rfl, q1, q2, -⟩ := id hc
  unfold maxLen at q2
  obtain ⟨ka, rfl⟩ : ∃ ka : Nat, a = ka := ⟨a.toNat, by omega⟩
  exact ldead_at w _ p ka x x' c c' rfl (Lib.hid HK) (Lib.hid hwb) (Lib.hid fun w1 => valive_n w1) (Lib.hid fun w1 h1 hb1 => sound_n _ p w1 _ h1 hs (ht'.below hb1) rfl) (by omega) q1 (Lib.hid fun hsd w1 h1 => lin_n _ p w1 h1 hs (sound_parts hsd).2.2.2.1 (by have := (sound_parts hsd).2.1; omega)) (Lib.hid hs.ins) (by omega) (Lib.hid fun i hi w1 => luses_n i w1 hi) (Lib.hid fun i hi w1 => lsets_n i w1 hi)
end Go.Proofs.YtijgpfimdlnkiaaDoor
