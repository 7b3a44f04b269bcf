/-
  The program's Next: its contract.
  The program's Next of any place, and Safe.
-/
import Derived.Test.YtcjhgibhenocpaaGreatDoorUBN
import Derived.Test.YtcjhgibhenocpaaGreatDoorMChk
import Derived.Laws.AppendOwn

/- The program's Next: its contract. -/
namespace Go.Proofs.YtcjhgibhenocpaaGreatDoor
set_option linter.unusedSimpArgs false
set_option linter.unusedVariables false
open Go.RowKit

/-- The places ahead of sorting. -/
def rawV (i : PIns) (k : Nat) : List Int := (if i.op = 3 then [] else [(k : Int) + 1]) ++ (if i.op = 3 ∨ i.op = 4 then [i.n] else [])
theorem rawV_next {i : PIns} {k : Nat} : Lib.compact (sortZ (rawV i k)) = (if i.op = 3 then [i.n] else if i.op = 4 ∧ i.n < (k : Int) + 1 then [i.n, (k : Int) + 1] else if i.op = 4 ∧ (k : Int) + 1 < i.n then [(k : Int) + 1, i.n] else [(k : Int) + 1]) := by
  unfold rawV
  by_cases h3 : i.op = 3
  · rw [if_pos h3, if_pos (.inl h3), if_pos h3, List.nil_append, sort_1, compact_1]
  · rw [if_neg h3, if_neg h3]
    by_cases h4 : i.op = 4
    · rw [if_pos (.inr h4)]
      show Lib.compact (sortZ [(k : Int) + 1, i.n]) = _
      rw [sort_2]
      by_cases h5 : i.n < (k : Int) + 1
      · rw [if_neg (by omega), compact_2, if_neg (by omega), if_pos ⟨h4, h5⟩]
      · rw [if_pos (by omega), compact_2]
        by_cases h6 : (k : Int) + 1 < i.n
        · rw [if_neg (by omega), if_neg (fun h => h5 h.2), if_pos ⟨h4, h6⟩]
        · rw [if_pos (by omega), if_neg (fun h => h5 h.2), if_neg (fun h => h6 h.2)]
    · rw [if_neg (by rintro (h | h); exact h3 h; exact h4 h), if_neg (fun h => h4 h.1), if_neg (fun h => h4 h.1), List.append_nil, sort_1, compact_1]
/-- One number more, at the end of a row of the call's own. -/
theorem own_some {w : World} {B : Nat} {v : Value} {l : List Int} {n : Nat} (h : w.ownsRow B 3 1 v n (i64s l)) (hp : 0 < n) : ∃ g c, v = .slice (some ⟨g, 0, none⟩) n c ∧ w.ownsRow B 3 1 (.slice (some ⟨g, 0, none⟩) n c) n (i64s l) := by
  rcases ownsRow_forms h with ⟨-, h0⟩ | ⟨g, c, rfl⟩
  · omega
  · exact ⟨g, c, rfl, h⟩
theorem intOne_cell {w : World} (x : Int) : ∀ j u, [Value.int .i64 x][j]? = some u → (w.alloc (.cells #[.int .i64 x] 3)).cell? ((⟨w.heap.size, 0, none⟩ : Addr).add j) = some u := by
  intro j u hu
  rcases j with _ | j
  · simp at hu; subst hu
    exact blk_cell (blk_new w #[.int .i64 x] 3) 0 _ rfl
  · simp at hu
theorem infoZ : (Tryz.prog.info? 3).map (fun i => (i.zero, i.size, i.bytes)) = some (some (.int .i64 0), 1, 8) := by kernel_rfl
/-- 'append(l, m)': l a row of the call's own. -/
theorem wpList_append_int {ops : Array Oper} {rest : List Oper} {o : Oper} {a : Act} {Q : Exit → Act → World → Prop} (hgd : o.guard = none) (s x : Operand)
    (ho : o.op = .call { callee := .builtin .append, args := #[s, x], argTypes := #[162, 162] }) {w : World} (base : Nat) (v : Value) (l : List Int) (m : Int) (hs : a.eval s = v) (hx : a.eval x = .slice (some ⟨w.heap.size, 0, none⟩) 1 1)
    (hown : w.ownsRow base 3 1 v l.length (i64s l)) (hb : base ≤ w.heap.size) (hl : l.length ≤ 1000000)
    (h : ∀ v' w', w'.ownsRow base 3 1 v' (l ++ [m]).length (i64s (l ++ [m])) → Below base w w' → wpList Tryz.prog ops Q rest (a.put o.dst v') w') :
    wpList Tryz.prog ops Q (o :: rest) a (w.alloc (.cells #[.int .i64 m] 3)) := by
  obtain ⟨i0, hi0, hz0, hz1, hz2⟩ := info_parts infoZ
  have hb1 : Below base w (w.alloc (.cells #[.int .i64 m] 3)) := (Below.refl _ _).alloc hb _
  refine wpList_append_own _ hgd s x 162 ho base 3 i0 (.int .i64 0) 1 8 Tryz.underlying162 hi0 hz0 hz1 hz2 rfl (by decide) v l.length (i64s l) hs (own_below hown (((Below.refl _ _).alloc (Nat.le_refl _) _))) ⟨w.heap.size, 0, none⟩ 1 1 [.int .i64 m] hx rfl (intOne_cell m) (by intro u hu; simp at hu; subst hu; rfl) (by unfold maxLen; omega) (by omega) (by simp; omega) ?_
  intro v' w' h1 h2 _
  refine h v' w' (by simpa [i64s] using h1) (hb1.grown h2 (by simp; omega) (fun k hk => ?_))
  rcases hown.2 with ⟨rfl, _⟩ | ⟨g, cap, cur, rfl, hg, _⟩
  · simp [Value.ownBlock] at hk
  · simp [Value.ownBlock] at hk; omega
set_option maxRecDepth 100000 in
set_option maxHeartbeats 8000000 in
theorem pnext_at (w W0 : World) (p : PProg) (vt' : Value) (bb o k' : Nat) (k : Nat) (op a b c n : Int)
    (hW0 : W0 = w.alloc (.cells (progC vt' p (.slice (some ⟨bb, o, none⟩) p.code.length k')) 25)) (HS : Hid (Below w.heap.size w W0)) (KP : Hid (blk W0 w.heap.size (progC vt' p (.slice (some ⟨bb, o, none⟩) p.code.length k')) 25))
    (hk : k < p.code.length) (g1 : p.code.length ≤ k') (g2 : k' ≤ 9223372036854775807) (hlen : p.code.length ≤ 1000000) (hbb : bb < W0.heap.size) (HR : Hid (W0.rangeAt bb (o + k * 5) (insC ⟨op, a, b, c, n⟩).toList)) (l l0 : List Int)
    (hl : Hid (Lib.compact (sortZ l0) = l)) (hll : Hid (l.length ≤ l0.length)) (hc : (op = 3 ∧ 0 ≤ n ∧ n ≤ (p.code.length : Int) ∧ l0 = [n]) ∨ (op = 4 ∧ 0 ≤ n ∧ n ≤ (p.code.length : Int) ∧ l0 = [(k : Int) + 1, n]) ∨ (op ≠ 3 ∧ op ≠ 4 ∧ l0 = [(k : Int) + 1])) :
    Calls Tryz.prog 109 #[.agg (progC vt' p (.slice (some ⟨bb, o, none⟩) p.code.length k')), .int .i64 k] w (RowPost w l) := by
  have hki : (k : Int) < (p.code.length : Int) := by omega
  have hk0 : (0 : Int) ≤ (k : Int) := by omega
  have hkb : (k : Int) + 1 ≤ 1000001 := by omega
  have HIS := Lib.hid (fun w1 => pins_n w1 p vt' (some ⟨bb, o, none⟩) k' (k : Int) true (by simp; omega))
  go_enter Tryz.func109, Tryz.ntmps109
  go_upto_region 1 with (fail)
  rw [← hW0]
  clear hW0
  go_upto_region 3 with (first
    | (refine wpList_loadB rfl 25 _ rfl w.heap.size (progC vt' p (.slice (some ⟨bb, o, none⟩) p.code.length k')) rfl 25 KP.out _ Tryz.underlying25 rfl prog_info ?_)
    | (go_at_call 152; ((with_reducible refine (HIS.out _).mono ?_); rintro e w1 ⟨rfl, hb⟩; have HS1 := Lib.hid (HS.out.trans (hb.mono HS.out.size)); have KP1 := Lib.hid (blk_below KP.out hb); have HR1 := Lib.hid (rangeAt_below HR.out hbb hb); clear hb HS KP HR)))
  have p3 := blk_cell KP1.out 3 _ rfl
  obtain ⟨d0, d1, d2, d3, d4⟩ : (w1.cell? ⟨bb, o + k * 5, none⟩ = some (.int .u8 op)) ∧ w1.cell? ⟨bb, o + k * 5 + 1, none⟩ = some (.int .u8 a) ∧ w1.cell? ⟨bb, o + k * 5 + 2, none⟩ = some (.int .u8 b) ∧ w1.cell? ⟨bb, o + k * 5 + 3, none⟩ = some (.int .u8 c) ∧ w1.cell? ⟨bb, o + k * 5 + 4, none⟩ = some (.int .i64 n) := ⟨HR1.out 0 _ rfl, HR1.out 1 _ rfl, HR1.out 2 _ rfl, HR1.out 3 _ rfl, HR1.out 4 _ rfl⟩
  go_upto_region 4 with (fail)
  have HB2 : Hid (Below w.heap.size w (w1.alloc (.cells (insC ⟨op, a, b, c, n⟩) 60))) := Lib.hid (HS1.out.trans (((Below.refl _ _).alloc (Nat.le_refl _) _).mono HS1.out.size))
  have HI : Hid (blk (w1.alloc (.cells (insC ⟨op, a, b, c, n⟩) 60)) w1.heap.size (insC ⟨op, a, b, c, n⟩) 60) := Lib.hid (blk_new _ _ _)
  have KP2 : Hid (blk (w1.alloc (.cells (insC ⟨op, a, b, c, n⟩) 60)) w.heap.size (progC vt' p (.slice (some ⟨bb, o, none⟩) p.code.length k')) 25) := Lib.hid (blk_alloc KP1.out _)
  have HIL : Hid (w1.heap.size < (w1.alloc (.cells (insC ⟨op, a, b, c, n⟩) 60)).heap.size) := Lib.hid (by simp)
  have HWI : Hid (w.heap.size ≤ w1.heap.size) := Lib.hid HS1.out.size
  obtain ⟨w2, hw2⟩ : ∃ w2, w2 = w1.alloc (.cells (insC ⟨op, a, b, c, n⟩) 60) := ⟨_, rfl⟩
  obtain ⟨I, hI⟩ : ∃ I, I = w1.heap.size := ⟨_, rfl⟩
  rw [← hw2] at HB2 HI KP2 HIL ⊢
  rw [← hI] at HI HIL HWI ⊢
  clear hw2 hI p3 d0 d1 d2 d3 d4 HR1 KP1 HS1 HIS
  have e0 : w2.cell? ⟨I, 0, none⟩ = some (.int .u8 op) := blk_cell HI.out 0 _ rfl
  have e4 : w2.cell? ⟨I, 4, none⟩ = some (.int .i64 n) := blk_cell HI.out 4 _ rfl
  have hsz := HB2.out.size
  rcases hc with ⟨h3, hn0, hn1, rfl⟩ | ⟨h4, hn0, hn1, rfl⟩ | ⟨h3, h4, rfl⟩
  · subst h3
    have HJ := Lib.hid (fun w1 => pjumps_n ⟨3, a, b, c, n⟩ w1 true rfl)
    have HPL := Lib.hid (fun w1 => pplace_n w1 p vt' (some ⟨bb, o, none⟩) k' n true (by simp; omega))
    have HB5 := Lib.hid (Below.refl w2.heap.size w2)
    have KP5 := KP2
    have HI5 := HI
    clear KP2 HI
    go_upto_region 8 with (first
      | (refine wpList_loadB rfl 60 _ rfl I (insC ⟨3, a, b, c, n⟩) rfl 60 HI5.out _ Tryz.underlying60 rfl ins_info ?_)
      | (go_at_call 153; ((with_reducible refine (HJ.out _).mono ?_); rintro e w3 ⟨rfl, hb⟩; have HB3 := Lib.hid hb; have KP3 := Lib.hid (blk_below KP5.out hb); have HI3 := Lib.hid (blk_below HI5.out hb); clear hb e4; have e4 : w3.cell? ⟨I, 4, none⟩ = some (.int .i64 n) := blk_cell HI3.out 4 _ rfl))
      | (refine wpList_loadBw (by rfl) 25 _ rfl w.heap.size (progC vt' p (.slice (some ⟨bb, o, none⟩) p.code.length k')) rfl 25 KP3.out _ Tryz.underlying25 rfl prog_info ?_)
      | (go_at_call 110; ((with_reducible refine (HPL.out _).mono ?_); rintro e w4 ⟨rfl, hb⟩; have HB4 := Lib.hid (HB3.out.trans (hb.mono HB3.out.size)); have HI4 := Lib.hid (blk_below HI3.out hb); clear hb e4; have e4 : w4.cell? ⟨I, 4, none⟩ = some (.int .i64 n) := blk_cell HI4.out 4 _ rfl)))
    go_upto_region 9 with (at_builtin; refine wpList_append_int rfl _ _ rfl w2.heap.size _ [] n rfl rfl (World.ownsRow_nil _ _ _ _) (HB4.out.size) (by simp) ?_)
    intro v5 w5 ho hb
    have HO := Lib.hid ho
    have HBZ := Lib.hid (HB4.out.trans hb)
    clear ho hb HB5 KP5 HI5 HB3 KP3 HI3 HB4 HI4 e4 HJ HPL
    obtain ⟨g, cp, rfl, ho⟩ := own_some (l := [n]) (n := 1) HO.out (by omega)
    have HO5 := Lib.hid ho
    clear ho HO
    have hsl : (sortZ [n]).length = 1 := by rw [sortZ_len]; rfl
    have HSL := Lib.hid hsl
    have hcl : (Lib.compact (sortZ [n])).length ≤ (sortZ [n]).length := by rw [hl.out, sortZ_len]; exact hll.out
    have HCL := Lib.hid hcl
    clear hsl hcl
    go_wp2_with (first
      | (go_at_call 154; ((with_reducible refine (sort_row _ w2.heap.size g cp 1 [n] rfl HO5.out (by simp)).mono ?_); rintro e w6 ⟨rfl, ho, hb⟩; have HO6 := Lib.hid ho; have HB6 := Lib.hid hb; clear ho hb HO5))
      | (go_at_call 155; ((with_reducible refine (compact_row _ w2.heap.size g cp 1 (sortZ [n]) HSL.out.symm (by have := HO6.out; rw [HSL.out] at this; exact this) (by rw [HSL.out]; decide) HCL.out).mono ?_); rintro e w7 ⟨v7, rfl, ho, hb⟩; have HO7 := Lib.hid ho; have HB7 := Lib.hid (HB6.out.trans hb); clear ho hb HO6 HB6)))
    go_ret
    have ho := HO7.out
    rw [hl.out] at ho
    exact ⟨v7, rfl, ownsRow_le ho HB2.out.size, HB2.out.trans ((HBZ.out.trans HB7.out).mono HB2.out.size)⟩
  · subst h4
    have q3 : ((4 : Int) != 3) = true := by decide
    have HJ := Lib.hid (fun w1 => pjumps_n ⟨4, a, b, c, n⟩ w1 true rfl)
    have HPL := Lib.hid (fun w1 => pplace_n w1 p vt' (some ⟨bb, o, none⟩) k' n true (by simp; omega))
    go_upto_region 7 with (at_builtin; refine wpList_append_int rfl _ _ rfl w2.heap.size _ [] ((k : Int) + 1) rfl rfl (World.ownsRow_nil _ _ _ _) (Nat.le_refl _) (by simp) ?_)
    intro v0 w0 ho hb
    have HB5 := Lib.hid hb
    have KP5 := Lib.hid (blk_below KP2.out hb)
    have HI5 := Lib.hid (blk_below HI.out hb)
    have HO0 := Lib.hid ho
    clear ho hb KP2 HI e0 e4
    have e4 : w0.cell? ⟨I, 4, none⟩ = some (.int .i64 n) := blk_cell HI5.out 4 _ rfl
    go_upto_region 8 with (first
      | (refine wpList_loadB rfl 60 _ rfl I (insC ⟨4, a, b, c, n⟩) rfl 60 HI5.out _ Tryz.underlying60 rfl ins_info ?_)
      | (go_at_call 153; ((with_reducible refine (HJ.out _).mono ?_); rintro e w3 ⟨rfl, hb⟩; have HB3 := Lib.hid hb; have KP3 := Lib.hid (blk_below KP5.out hb); have HI3 := Lib.hid (blk_below HI5.out hb); clear hb e4; have e4 : w3.cell? ⟨I, 4, none⟩ = some (.int .i64 n) := blk_cell HI3.out 4 _ rfl))
      | (refine wpList_loadBw (by rfl) 25 _ rfl w.heap.size (progC vt' p (.slice (some ⟨bb, o, none⟩) p.code.length k')) rfl 25 KP3.out _ Tryz.underlying25 rfl prog_info ?_)
      | (go_at_call 110; ((with_reducible refine (HPL.out _).mono ?_); rintro e w4 ⟨rfl, hb⟩; have HB4 := Lib.hid (HB3.out.trans (hb.mono HB3.out.size)); have HI4 := Lib.hid (blk_below HI3.out hb); clear hb e4; have e4 : w4.cell? ⟨I, 4, none⟩ = some (.int .i64 n) := blk_cell HI4.out 4 _ rfl)))
    have hs4 : w2.heap.size ≤ w4.heap.size := Nat.le_trans HB5.out.size HB4.out.size
    have HO4 : Hid (w4.ownsRow w2.heap.size 3 1 v0 [(k : Int) + 1].length (i64s [(k : Int) + 1])) := Lib.hid (own_below HO0.out HB4.out)
    go_upto_region 9 with (at_builtin; go_loud (refine wpList_append_int rfl _ _ rfl (w := w4) w2.heap.size v0 [(k : Int) + 1] n rfl rfl HO4.out hs4 (by simp) ?_))
    intro v5 w5 ho hb
    have HO := Lib.hid ho
    have HBZ := Lib.hid ((HB5.out.trans (HB4.out.mono HB5.out.size)).trans hb)
    clear ho hb HB5 KP5 HI5 HB3 KP3 HI3 HB4 HI4 e4 HJ HPL HO0 HO4 hs4
    obtain ⟨g, cp, rfl, ho⟩ := own_some (l := [(k : Int) + 1, n]) (n := 2) HO.out (by omega)
    have HO5 := Lib.hid ho
    clear ho HO
    have hsl : (sortZ [(k : Int) + 1, n]).length = 2 := by rw [sortZ_len]; rfl
    have HSL := Lib.hid hsl
    have hcl : (Lib.compact (sortZ [(k : Int) + 1, n])).length ≤ (sortZ [(k : Int) + 1, n]).length := by rw [hl.out, sortZ_len]; exact hll.out
    have HCL := Lib.hid hcl
    clear hsl hcl
    go_wp2_with (first
      | (go_at_call 154; ((with_reducible refine (sort_row _ w2.heap.size g cp 2 [(k : Int) + 1, n] rfl HO5.out (by simp)).mono ?_); rintro e w6 ⟨rfl, ho, hb⟩; have HO6 := Lib.hid ho; have HB6 := Lib.hid hb; clear ho hb HO5))
      | (go_at_call 155; ((with_reducible refine (compact_row _ w2.heap.size g cp 2 (sortZ [(k : Int) + 1, n]) HSL.out.symm (by have := HO6.out; rw [HSL.out] at this; exact this) (by rw [HSL.out]; decide) HCL.out).mono ?_); rintro e w7 ⟨v7, rfl, ho, hb⟩; have HO7 := Lib.hid ho; have HB7 := Lib.hid (HB6.out.trans hb); clear ho hb HO6 HB6)))
    go_ret
    have ho := HO7.out
    rw [hl.out] at ho
    exact ⟨v7, rfl, ownsRow_le ho HB2.out.size, HB2.out.trans ((HBZ.out.trans HB7.out).mono HB2.out.size)⟩
  · have q3 : (op != 3) = true := by simpa using h3
    have HJ := Lib.hid (fun w1 => pjumps_n ⟨op, a, b, c, n⟩ w1 false (by simp [h3, h4]))
    clear h3 h4
    go_upto_region 7 with (at_builtin; refine wpList_append_int rfl _ _ rfl w2.heap.size _ [] ((k : Int) + 1) rfl rfl (World.ownsRow_nil _ _ _ _) (Nat.le_refl _) (by simp) ?_)
    intro v0 w0 ho hb
    have HB5 := Lib.hid hb
    have KP5 := Lib.hid (blk_below KP2.out hb)
    have HI5 := Lib.hid (blk_below HI.out hb)
    have HO0 := Lib.hid ho
    clear ho hb KP2 HI e0 e4
    have e4 : w0.cell? ⟨I, 4, none⟩ = some (.int .i64 n) := blk_cell HI5.out 4 _ rfl
    go_upto_region 9 with (first
      | (refine wpList_loadB rfl 60 _ rfl I (insC ⟨op, a, b, c, n⟩) rfl 60 HI5.out _ Tryz.underlying60 rfl ins_info ?_)
      | (go_at_call 153; ((with_reducible refine (HJ.out _).mono ?_); rintro e w3 ⟨rfl, hb⟩; have HB3 := Lib.hid hb; have KP3 := Lib.hid (blk_below KP5.out hb); have HI3 := Lib.hid (blk_below HI5.out hb); clear hb e4; have e4 : w3.cell? ⟨I, 4, none⟩ = some (.int .i64 n) := blk_cell HI3.out 4 _ rfl)))
    have HO := Lib.hid (own_below HO0.out HB3.out)
    have HBZ := Lib.hid (HB5.out.trans (HB3.out.mono HB5.out.size))
    clear HB5 KP5 HI5 HB3 KP3 HI3 e4 HJ HO0
    obtain ⟨g, cp, rfl, ho⟩ := own_some (l := [(k : Int) + 1]) (n := 1) HO.out (by omega)
    have HO5 := Lib.hid ho
    clear ho HO
    have hsl : (sortZ [(k : Int) + 1]).length = 1 := by rw [sortZ_len]; rfl
    have HSL := Lib.hid hsl
    have hcl : (Lib.compact (sortZ [(k : Int) + 1])).length ≤ (sortZ [(k : Int) + 1]).length := by rw [hl.out, sortZ_len]; exact hll.out
    have HCL := Lib.hid hcl
    clear hsl hcl
    go_wp2_with (first
      | (go_at_call 154; ((with_reducible refine (sort_row _ w2.heap.size g cp 1 [(k : Int) + 1] rfl HO5.out (by simp)).mono ?_); rintro e w6 ⟨rfl, ho, hb⟩; have HO6 := Lib.hid ho; have HB6 := Lib.hid hb; clear ho hb HO5))
      | (go_at_call 155; ((with_reducible refine (compact_row _ w2.heap.size g cp 1 (sortZ [(k : Int) + 1]) HSL.out.symm (by have := HO6.out; rw [HSL.out] at this; exact this) (by rw [HSL.out]; decide) HCL.out).mono ?_); rintro e w7 ⟨v7, rfl, ho, hb⟩; have HO7 := Lib.hid ho; have HB7 := Lib.hid (HB6.out.trans hb); clear ho hb HO6 HB6)))
    go_ret
    have ho := HO7.out
    rw [hl.out] at ho
    exact ⟨v7, rfl, ownsRow_le ho HB2.out.size, HB2.out.trans ((HBZ.out.trans HB7.out).mono HB2.out.size)⟩
end Go.Proofs.YtcjhgibhenocpaaGreatDoor

/- The program's Next of any place, and Safe. -/
namespace Go.Proofs.YtcjhgibhenocpaaGreatDoor
set_option linter.unusedSimpArgs false
set_option linter.unusedVariables false
open Go.RowKit

set_option maxRecDepth 100000 in
set_option maxHeartbeats 4000000 in
theorem pnext_bad (w W0 : World) (p : PProg) (vt' : Value) (x' : Option Addr) (k' : Nat) (k : Int)
    (hW0 : W0 = w.alloc (.cells (progC vt' p (.slice x' p.code.length k')) 25)) (HS : Hid (Below w.heap.size w W0)) (KP : Hid (blk W0 w.heap.size (progC vt' p (.slice x' p.code.length k')) 25))
    (hk : k < 0 ∨ (0 ≤ k ∧ (p.code.length : Int) ≤ k)) :
    Calls Tryz.prog 109 #[.agg (progC vt' p (.slice x' p.code.length k')), .int .i64 k] w (RowPost w []) := by
  have HIS := Lib.hid (fun w1 => pins_n w1 p vt' x' k' k false (by simp; omega))
  go_enter Tryz.func109, Tryz.ntmps109
  go_upto_region 1 with (fail)
  rw [← hW0]
  clear hW0
  go_wp2_with (first
    | (refine wpList_loadB rfl 25 _ rfl w.heap.size (progC vt' p (.slice x' p.code.length k')) rfl 25 KP.out _ Tryz.underlying25 rfl prog_info ?_)
    | (go_at_call 152; ((with_reducible refine (HIS.out _).mono ?_); rintro e w1 ⟨rfl, hb⟩; have HS1 := Lib.hid (HS.out.trans (hb.mono HS.out.size)); clear hb)))
  go_ret
  exact ⟨_, rfl, World.ownsRow_nil _ _ _ _, HS1.out⟩
theorem pnext_n (v : Value) (p : PProg) (w : World) (k : Int) (h : ProgAt w v p) (hin : InP p) (hlen : p.code.length ≤ 1000000) : Calls Tryz.prog 109 #[v, .int .i64 k] w (RowPost w (nextV p k)) := by
  obtain ⟨vt', vc, rfl, htl, hc⟩ := id h
  obtain ⟨x', kx', rfl, g1, g2, g3⟩ := id hc
  unfold maxLen at g2
  have hwb : Below w.heap.size w (w.alloc (.cells (progC vt' p (.slice x' p.code.length kx')) 25)) := (Below.refl _ _).alloc (Nat.le_refl _) _
  by_cases hk : k < 0 ∨ (p.code.length : Int) ≤ k
  · rw [nextV_none hk]
    exact pnext_bad w _ p vt' x' kx' k rfl (Lib.hid hwb) (Lib.hid (blk_new _ _ _)) (by omega)
  · obtain ⟨m, rfl⟩ : ∃ m : Nat, k = m := ⟨k.toNat, by omega⟩
    have hi : p.code[m]? = some (p.code[m]'(by omega)) := List.getElem?_eq_getElem (by omega)
    generalize p.code[m]'(by omega) = i at hi
    obtain ⟨bb, o, rfl, hbb, hrng⟩ := g3 m i hi
    have hp := hin i (List.mem_of_getElem? hi)
    have hx := nextV_at (q := p) (k := m) hi (fun e => (hp e).1)
    have hrw := rawV_next (i := i) (k := m)
    rw [← hx] at hrw
    have hle : (nextV p (m : Int)).length ≤ (rawV i m).length := by
      rw [hx]; unfold rawV
      by_cases h3 : i.op = 3
      · simp [h3]
      · by_cases h4 : i.op = 4
        · simp only [h4, if_neg (show ¬ (4 : Int) = 3 by decide)]
          split
          · simp
          · split <;> simp
        · simp [h3, h4]
    obtain ⟨op, a, b, c, n⟩ := i
    simp only at hp
    refine pnext_at w _ p vt' bb o kx' m op a b c n rfl (Lib.hid hwb) (Lib.hid (blk_new _ _ _)) (by omega) g1 (by omega) hlen (Nat.lt_of_lt_of_le hbb hwb.size) (Lib.hid (rangeAt_below hrng hbb hwb)) _ (rawV ⟨op, a, b, c, n⟩ m) (Lib.hid hrw) (Lib.hid hle) ?_
    unfold rawV
    by_cases h3 : op = 3
    · exact .inl ⟨h3, (hp (.inl h3)).1, (hp (.inl h3)).2, by simp [h3]⟩
    · by_cases h4 : op = 4
      · exact .inr (.inl ⟨h4, (hp (.inr h4)).1, (hp (.inr h4)).2, by simp [h4]⟩)
      · exact .inr (.inr ⟨h3, h4, by simp [h3, h4]⟩)

/-! ### Safe -/
set_option maxRecDepth 100000 in
set_option maxHeartbeats 8000000 in
theorem psafe_at (w W0 : World) (p : PProg) (vt' : Value) (bb o k' : Nat) (k : Nat) (op a b c n : Int) (r : Bool)
    (hW0 : W0 = w.alloc (.cells (progC vt' p (.slice (some ⟨bb, o, none⟩) p.code.length k')) 25)) (HS : Hid (Below w.heap.size w W0)) (KP : Hid (blk W0 w.heap.size (progC vt' p (.slice (some ⟨bb, o, none⟩) p.code.length k')) 25))
    (hk : k < p.code.length) (g1 : p.code.length ≤ k') (g2 : k' ≤ 9223372036854775807) (hbb : bb < W0.heap.size) (HR : Hid (W0.rangeAt bb (o + k * 5) (insC ⟨op, a, b, c, n⟩).toList)) (jr : Bool)
    (HJ : Hid (∀ w1, Calls Tryz.prog 153 #[.agg (insC ⟨op, a, b, c, n⟩)] w1 (AggPost w1 (.bool jr))))
    (hc : ((op == 5) = true ∧ r = true) ∨ ((op == 5) = false ∧ jr = false ∧ r = false) ∨ ((op == 5) = false ∧ jr = true ∧ n ≤ (k : Int) ∧ r = true) ∨ ((op == 5) = false ∧ jr = true ∧ (k : Int) < n ∧ r = false)) :
    Calls Tryz.prog 150 #[.agg (progC vt' p (.slice (some ⟨bb, o, none⟩) p.code.length k')), .int .i64 k] w (AggPost w (.bool r)) := by
  have hki : (k : Int) < (p.code.length : Int) := by omega
  have hk0 : (0 : Int) ≤ (k : Int) := by omega
  have HIS := Lib.hid (fun w1 => pins_n w1 p vt' (some ⟨bb, o, none⟩) k' (k : Int) true (by simp; omega))
  go_enter Tryz.func150, Tryz.ntmps150
  go_upto_region 1 with (fail)
  rw [← hW0]
  clear hW0
  go_upto_region 3 with (first
    | (refine wpList_loadB rfl 25 _ rfl w.heap.size (progC vt' p (.slice (some ⟨bb, o, none⟩) p.code.length k')) rfl 25 KP.out _ Tryz.underlying25 rfl prog_info ?_)
    | (go_at_call 152; ((with_reducible refine (HIS.out _).mono ?_); rintro e w1 ⟨rfl, hb⟩; have HS1 := Lib.hid (HS.out.trans (hb.mono HS.out.size)); have KP1 := Lib.hid (blk_below KP.out hb); have HR1 := Lib.hid (rangeAt_below HR.out hbb hb); clear hb HS KP HR)))
  have p3 := blk_cell KP1.out 3 _ rfl
  obtain ⟨d0, d1, d2, d3, d4⟩ : (w1.cell? ⟨bb, o + k * 5, none⟩ = some (.int .u8 op)) ∧ w1.cell? ⟨bb, o + k * 5 + 1, none⟩ = some (.int .u8 a) ∧ w1.cell? ⟨bb, o + k * 5 + 2, none⟩ = some (.int .u8 b) ∧ w1.cell? ⟨bb, o + k * 5 + 3, none⟩ = some (.int .u8 c) ∧ w1.cell? ⟨bb, o + k * 5 + 4, none⟩ = some (.int .i64 n) := ⟨HR1.out 0 _ rfl, HR1.out 1 _ rfl, HR1.out 2 _ rfl, HR1.out 3 _ rfl, HR1.out 4 _ rfl⟩
  go_upto_region 4 with (fail)
  have HB2 : Hid (Below w.heap.size w (w1.alloc (.cells (insC ⟨op, a, b, c, n⟩) 60))) := Lib.hid (HS1.out.trans (((Below.refl _ _).alloc (Nat.le_refl _) _).mono HS1.out.size))
  have HI : Hid (blk (w1.alloc (.cells (insC ⟨op, a, b, c, n⟩) 60)) w1.heap.size (insC ⟨op, a, b, c, n⟩) 60) := Lib.hid (blk_new _ _ _)
  obtain ⟨w2, hw2⟩ : ∃ w2, w2 = w1.alloc (.cells (insC ⟨op, a, b, c, n⟩) 60) := ⟨_, rfl⟩
  obtain ⟨I, hI⟩ : ∃ I, I = w1.heap.size := ⟨_, rfl⟩
  rw [← hw2] at HB2 HI ⊢
  rw [← hI] at HI ⊢
  clear hw2 hI p3 d0 d1 d2 d3 d4 HR1 KP1 HS1 HIS
  have e0 : w2.cell? ⟨I, 0, none⟩ = some (.int .u8 op) := blk_cell HI.out 0 _ rfl
  rcases hc with ⟨h5, rfl⟩ | ⟨h5, rfl, rfl⟩ | ⟨h5, rfl, h6, rfl⟩ | ⟨h5, rfl, h6, rfl⟩
  · go_wp2
    go_ret
    exact ⟨rfl, HB2.out⟩
  · go_wp2_with (first
      | (refine wpList_loadBw (by rfl) 60 _ rfl I (insC ⟨op, a, b, c, n⟩) rfl 60 HI.out _ Tryz.underlying60 rfl ins_info ?_)
      | (go_at_call 153; ((with_reducible refine (HJ.out _).mono ?_); rintro e w3 ⟨rfl, hb⟩; have HB3 := Lib.hid (HB2.out.trans (hb.mono HB2.out.size)); have HI3 := Lib.hid (blk_below HI.out hb); clear hb e0; have e4 : w3.cell? ⟨I, 4, none⟩ = some (.int .i64 n) := blk_cell HI3.out 4 _ rfl)))
    go_ret
    exact ⟨rfl, HB3.out⟩
  · go_wp2_with (first
      | (refine wpList_loadBw (by rfl) 60 _ rfl I (insC ⟨op, a, b, c, n⟩) rfl 60 HI.out _ Tryz.underlying60 rfl ins_info ?_)
      | (go_at_call 153; ((with_reducible refine (HJ.out _).mono ?_); rintro e w3 ⟨rfl, hb⟩; have HB3 := Lib.hid (HB2.out.trans (hb.mono HB2.out.size)); have HI3 := Lib.hid (blk_below HI.out hb); clear hb e0; have e4 : w3.cell? ⟨I, 4, none⟩ = some (.int .i64 n) := blk_cell HI3.out 4 _ rfl)))
    go_ret
    exact ⟨rfl, HB3.out⟩
  · have h7 : ¬ (n ≤ (k : Int)) := by omega
    go_wp2_with (first
      | (refine wpList_loadBw (by rfl) 60 _ rfl I (insC ⟨op, a, b, c, n⟩) rfl 60 HI.out _ Tryz.underlying60 rfl ins_info ?_)
      | (go_at_call 153; ((with_reducible refine (HJ.out _).mono ?_); rintro e w3 ⟨rfl, hb⟩; have HB3 := Lib.hid (HB2.out.trans (hb.mono HB2.out.size)); have HI3 := Lib.hid (blk_below HI.out hb); clear hb e0; have e4 : w3.cell? ⟨I, 4, none⟩ = some (.int .i64 n) := blk_cell HI3.out 4 _ rfl)))
    go_ret
    exact ⟨ret_bool (decide_eq_false (by omega)), HB3.out⟩
set_option maxRecDepth 100000 in
set_option maxHeartbeats 4000000 in
theorem psafe_bad (w W0 : World) (p : PProg) (vt' : Value) (x' : Option Addr) (k' : Nat) (k : Int)
    (hW0 : W0 = w.alloc (.cells (progC vt' p (.slice x' p.code.length k')) 25)) (HS : Hid (Below w.heap.size w W0)) (KP : Hid (blk W0 w.heap.size (progC vt' p (.slice x' p.code.length k')) 25))
    (hk : k < 0 ∨ (0 ≤ k ∧ (p.code.length : Int) ≤ k)) :
    Calls Tryz.prog 150 #[.agg (progC vt' p (.slice x' p.code.length k')), .int .i64 k] w (AggPost w (.bool false)) := by
  have HIS := Lib.hid (fun w1 => pins_n w1 p vt' x' k' k false (by simp; omega))
  go_enter Tryz.func150, Tryz.ntmps150
  go_upto_region 1 with (fail)
  rw [← hW0]
  clear hW0
  go_wp2_with (first
    | (refine wpList_loadB rfl 25 _ rfl w.heap.size (progC vt' p (.slice x' p.code.length k')) rfl 25 KP.out _ Tryz.underlying25 rfl prog_info ?_)
    | (go_at_call 152; ((with_reducible refine (HIS.out _).mono ?_); rintro e w1 ⟨rfl, hb⟩; have HS1 := Lib.hid (HS.out.trans (hb.mono HS.out.size)); clear hb)))
  go_ret
  exact ⟨rfl, HS1.out⟩
theorem psafe_n (v : Value) (p : PProg) (w : World) (k : Int) (r : Bool) (h : ProgAt w v p) (hr : safeV p k = r) : Calls Tryz.prog 150 #[v, .int .i64 k] w (AggPost w (.bool r)) := by
  obtain ⟨vt', vc, rfl, htl, hc⟩ := id h
  obtain ⟨x', kx', rfl, g1, g2, g3⟩ := id hc
  unfold maxLen at g2
  have hwb : Below w.heap.size w (w.alloc (.cells (progC vt' p (.slice x' p.code.length kx')) 25)) := (Below.refl _ _).alloc (Nat.le_refl _) _
  by_cases hk : k < 0 ∨ (p.code.length : Int) ≤ k
  · have : r = false := by
      rw [← hr]; unfold safeV
      rcases Int.lt_or_le k 0 with h0 | h0
      · simp; omega
      · unfold safeL; rw [List.getElem?_eq_none (by omega)]; simp
    rw [this]
    exact psafe_bad w _ p vt' x' kx' k rfl (Lib.hid hwb) (Lib.hid (blk_new _ _ _)) (by omega)
  · obtain ⟨m, rfl⟩ : ∃ m : Nat, k = m := ⟨k.toNat, by omega⟩
    have hi : p.code[m]? = some (p.code[m]'(by omega)) := List.getElem?_eq_getElem (by omega)
    generalize p.code[m]'(by omega) = i at hi
    obtain ⟨bb, o, rfl, hbb, hrng⟩ := g3 m i hi
    have hr' : r = (decide (i.op = 5) || (decide (i.op = 3) || decide (i.op = 4)) && decide (i.n ≤ (m : Int))) := by
      rw [← hr]; unfold safeV safeL; rw [Int.toNat_natCast, hi]; simp
    obtain ⟨op, a, b, c, n⟩ := i
    simp only at hr'
    refine psafe_at w _ p vt' bb o kx' m op a b c n r rfl (Lib.hid hwb) (Lib.hid (blk_new _ _ _)) (by omega) g1 (by omega) (Nat.lt_of_lt_of_le hbb hwb.size) (Lib.hid (rangeAt_below hrng hbb hwb)) (decide (op = 3) || decide (op = 4)) (Lib.hid fun w1 => pjumps_n _ w1 _ rfl) ?_
    by_cases h5 : op = 5
    · exact .inl ⟨by simpa using h5, by rw [hr']; simp [h5]⟩
    rcases hj : (decide (op = 3) || decide (op = 4)) with _ | _
    · exact .inr (.inl ⟨by simpa using h5, rfl, by rw [hr', hj]; simp [h5]⟩)
    · by_cases hn : n ≤ (m : Int)
      · exact .inr (.inr (.inl ⟨by simpa using h5, rfl, hn, by rw [hr', hj]; simp [hn]⟩))
      · exact .inr (.inr (.inr ⟨by simpa using h5, rfl, by omega, by rw [hr', hj]; simp [h5, hn]⟩))
end Go.Proofs.YtcjhgibhenocpaaGreatDoor
