/-
  The program's flow: places, instructions, jumps.
  The program's Next: its contract.
  The program's Next of any place, and Safe.
  The program's Reach and Loops.
  The program's flow: contracts.
-/
import Derived.Test.YtcenjphpdgadmaaDoorFUse
import Derived.Test.YtcenjphpdgadmaaDoorFStk
import Derived.Test.YtcenjphpdgadmaaDoorMChk
import Derived.Laws.AppendOwn
import Derived.Deep.LoopGhost

/- The program's flow: places, instructions, jumps. -/
namespace Go.Proofs.YtcenjphpdgadmaaDoor
set_option linter.unusedSimpArgs false
set_option linter.unusedVariables false
open Go.RowKit

/-! ### Places, instructions, jumps -/
set_option maxRecDepth 100000 in
set_option maxHeartbeats 2000000 in
theorem pplace_any (w W0 : World) (p : PProg) (vt' : Value) (x' : Option Addr) (k' : Nat) (n : Int) (r : Bool)
    (hW0 : W0 = w.alloc (.cells (progC vt' p (.slice x' p.code.length k')) 25)) (HS : Hid (Below w.heap.size w W0)) (KP : Hid (blk W0 w.heap.size (progC vt' p (.slice x' p.code.length k')) 25))
    (hc : (n < 0 ∧ r = false) ∨ (0 ≤ n ∧ n ≤ (p.code.length : Int) ∧ r = true) ∨ (0 ≤ n ∧ (p.code.length : Int) < n ∧ r = false)) :
    Calls Tryd.prog 23 #[.agg (progC vt' p (.slice x' p.code.length k')), .int .i64 n] w (AggPost w (.bool r)) := by
  have p3 : W0.cell? ⟨w.heap.size, 3, none⟩ = some (.slice x' p.code.length k') := blk_cell KP.out 3 _ rfl
  go_enter Tryd.func23, Tryd.ntmps23
  go_upto_region 1 with (fail)
  rw [← hW0]
  clear hW0
  rcases hc with ⟨h0, rfl⟩ | ⟨h0, h1, rfl⟩ | ⟨h0, h1, rfl⟩
  · go_wp2
    go_ret
    exact ⟨rfl, HS.out⟩
  · go_wp2
    go_ret
    exact ⟨rfl, HS.out⟩
  · have h2 : ¬ (n ≤ (p.code.length : Int)) := by omega
    go_wp2
    go_ret
    exact ⟨rfl, HS.out⟩
set_option maxRecDepth 100000 in
set_option maxHeartbeats 2000000 in
theorem pins_any (w W0 : World) (p : PProg) (vt' : Value) (x' : Option Addr) (k' : Nat) (n : Int) (r : Bool)
    (hW0 : W0 = w.alloc (.cells (progC vt' p (.slice x' p.code.length k')) 25)) (HS : Hid (Below w.heap.size w W0)) (KP : Hid (blk W0 w.heap.size (progC vt' p (.slice x' p.code.length k')) 25))
    (hc : (n < 0 ∧ r = false) ∨ (0 ≤ n ∧ n < (p.code.length : Int) ∧ r = true) ∨ (0 ≤ n ∧ (p.code.length : Int) ≤ n ∧ r = false)) :
    Calls Tryd.prog 24 #[.agg (progC vt' p (.slice x' p.code.length k')), .int .i64 n] w (AggPost w (.bool r)) := by
  have p3 : W0.cell? ⟨w.heap.size, 3, none⟩ = some (.slice x' p.code.length k') := blk_cell KP.out 3 _ rfl
  go_enter Tryd.func24, Tryd.ntmps24
  go_upto_region 1 with (fail)
  rw [← hW0]
  clear hW0
  rcases hc with ⟨h0, rfl⟩ | ⟨h0, h1, rfl⟩ | ⟨h0, h1, rfl⟩
  · go_wp2
    go_ret
    exact ⟨rfl, HS.out⟩
  · go_wp2
    go_ret
    exact ⟨rfl, HS.out⟩
  · have h2 : ¬ (n < (p.code.length : Int)) := by omega
    go_wp2
    go_ret
    exact ⟨rfl, HS.out⟩
theorem pjumps_n (i : PIns) (w : World) (r : Bool) (hr : (decide (i.op = 3) || decide (i.op = 4)) = r) : Calls Tryd.prog 25 #[.agg (insC i)] w (AggPost w (.bool r)) := by
  obtain ⟨op, a, b, c, n⟩ := i
  have hwb : Below w.heap.size w (w.alloc (.cells (insC ⟨op, a, b, c, n⟩) 46)) := (Below.refl _ _).alloc (Nat.le_refl _) _
  have HB := Lib.hid hwb
  have e0 : (w.alloc (.cells (insC ⟨op, a, b, c, n⟩) 46)).cell? ⟨w.heap.size, 0, none⟩ = some (.int .u8 op) := blk_cell (blk_new w (insC ⟨op, a, b, c, n⟩) 46) 0 _ rfl
  clear hwb
  simp only at hr
  go_enter Tryd.func25, Tryd.ntmps25
  go_upto_region 1 with (fail)
  generalize w.alloc (.cells (insC ⟨op, a, b, c, n⟩) 46) = w1 at e0 HB ⊢
  by_cases h3 : op = 3
  · have q3 : (op == 3) = true := by simpa using h3
    have : r = true := by rw [← hr]; simp [h3]
    subst this
    clear hr h3
    go_wp2
    go_ret
    exact ⟨rfl, HB.out⟩
  · have q3 : (op == 3) = false := by simpa using h3
    by_cases h4 : op = 4
    · have q4 : (op == 4) = true := by simpa using h4
      have : r = true := by rw [← hr]; simp [h4]
      subst this
      clear hr h3 h4
      go_wp2
      go_ret
      exact ⟨rfl, HB.out⟩
    · have q4 : (op == 4) = false := by simpa using h4
      have : r = false := by rw [← hr]; simp [h3, h4]
      subst this
      clear hr h3 h4
      go_wp2
      go_ret
      exact ⟨rfl, HB.out⟩
theorem pplace_n (w : World) (p : PProg) (vt' : Value) (x' : Option Addr) (k' : Nat) (n : Int) (r : Bool) (hr : decide (0 ≤ n ∧ n ≤ (p.code.length : Int)) = r) :
    Calls Tryd.prog 23 #[.agg (progC vt' p (.slice x' p.code.length k')), .int .i64 n] w (AggPost w (.bool r)) := by
  refine pplace_any w _ p vt' x' k' n r rfl (Lib.hid ((Below.refl _ _).alloc (Nat.le_refl _) _)) (Lib.hid (blk_new _ _ _)) ?_
  by_cases h0 : n < 0
  · exact .inl ⟨h0, by rw [← hr]; simp; omega⟩
  by_cases h1 : n ≤ (p.code.length : Int)
  · exact .inr (.inl ⟨by omega, h1, by rw [← hr]; simp; omega⟩)
  · exact .inr (.inr ⟨by omega, by omega, by rw [← hr]; simp; omega⟩)
theorem pins_n (w : World) (p : PProg) (vt' : Value) (x' : Option Addr) (k' : Nat) (n : Int) (r : Bool) (hr : decide (0 ≤ n ∧ n < (p.code.length : Int)) = r) :
    Calls Tryd.prog 24 #[.agg (progC vt' p (.slice x' p.code.length k')), .int .i64 n] w (AggPost w (.bool r)) := by
  refine pins_any w _ p vt' x' k' n r rfl (Lib.hid ((Below.refl _ _).alloc (Nat.le_refl _) _)) (Lib.hid (blk_new _ _ _)) ?_
  by_cases h0 : n < 0
  · exact .inl ⟨h0, by rw [← hr]; simp; omega⟩
  by_cases h1 : n < (p.code.length : Int)
  · exact .inr (.inl ⟨by omega, h1, by rw [← hr]; simp; omega⟩)
  · exact .inr (.inr ⟨by omega, by omega, by rw [← hr]; simp; omega⟩)
end Go.Proofs.YtcenjphpdgadmaaDoor

/- The program's Next: its contract. -/
namespace Go.Proofs.YtcenjphpdgadmaaDoor
set_option linter.unusedSimpArgs false
set_option linter.unusedVariables false
open Go.RowKit

/-- The places ahead of sorting. -/
def rawV (i : PIns) (k : Nat) : List Int := (if i.op = 3 then [] else [(k : Int) + 1]) ++ (if i.op = 3 ∨ i.op = 4 then [i.n] else [])
theorem rawV_next {i : PIns} {k : Nat} : Lib.compact (sortZ (rawV i k)) = (if i.op = 3 then [i.n] else if i.op = 4 ∧ i.n < (k : Int) + 1 then [i.n, (k : Int) + 1] else if i.op = 4 ∧ (k : Int) + 1 < i.n then [(k : Int) + 1, i.n] else [(k : Int) + 1]) := by
  unfold rawV
  by_cases h3 : i.op = 3
  · rw [if_pos h3, if_pos (.inl h3), if_pos h3, List.nil_append, sort_1, compact_1]
  · rw [if_neg h3, if_neg h3]
    by_cases h4 : i.op = 4
    · rw [if_pos (.inr h4)]
      show Lib.compact (sortZ [(k : Int) + 1, i.n]) = _
      rw [sort_2]
      by_cases h5 : i.n < (k : Int) + 1
      · rw [if_neg (by omega), compact_2, if_neg (by omega), if_pos ⟨h4, h5⟩]
      · rw [if_pos (by omega), compact_2]
        by_cases h6 : (k : Int) + 1 < i.n
        · rw [if_neg (by omega), if_neg (fun h => h5 h.2), if_pos ⟨h4, h6⟩]
        · rw [if_pos (by omega), if_neg (fun h => h5 h.2), if_neg (fun h => h6 h.2)]
    · rw [if_neg (by rintro (h | h); exact h3 h; exact h4 h), if_neg (fun h => h4 h.1), if_neg (fun h => h4 h.1), List.append_nil, sort_1, compact_1]
theorem rawV_len (i : PIns) (k : Nat) : 1 ≤ (rawV i k).length ∧ (rawV i k).length ≤ 2 := by
  unfold rawV
  by_cases h3 : i.op = 3
  · simp [h3]
  · by_cases h4 : i.op = 4 <;> simp [h3, h4]
/-- One number more, at the end of a row of the call's own. -/
theorem own_some {w : World} {B : Nat} {v : Value} {l : List Int} {n : Nat} (h : w.ownsRow B 3 1 v n (i64s l)) (hp : 0 < n) : ∃ g c, v = .slice (some ⟨g, 0, none⟩) n c ∧ w.ownsRow B 3 1 (.slice (some ⟨g, 0, none⟩) n c) n (i64s l) := by
  rcases ownsRow_forms h with ⟨-, h0⟩ | ⟨g, c, rfl⟩
  · omega
  · exact ⟨g, c, rfl, h⟩
theorem intOne_cell {w : World} (x : Int) : ∀ j u, [Value.int .i64 x][j]? = some u → (w.alloc (.cells #[.int .i64 x] 3)).cell? ((⟨w.heap.size, 0, none⟩ : Addr).add j) = some u := by
  intro j u hu
  rcases j with _ | j
  · simp at hu; subst hu
    exact blk_cell (blk_new w #[.int .i64 x] 3) 0 _ rfl
  · simp at hu
theorem infoZ : (Tryd.prog.info? 3).map (fun i => (i.zero, i.size, i.bytes)) = some (some (.int .i64 0), 1, 8) := by kernel_rfl
/-- 'append(l, m)': l a row of the call's own. -/
theorem wpList_append_int {ops : Array Oper} {rest : List Oper} {o : Oper} {a : Act} {Q : Exit → Act → World → Prop} (hgd : o.guard = none) (s x : Operand)
    (ho : o.op = .call { callee := .builtin .append, args := #[s, x], argTypes := #[31, 31] }) {w : World} (base : Nat) (v : Value) (l : List Int) (m : Int) (hs : a.eval s = v) (hx : a.eval x = .slice (some ⟨w.heap.size, 0, none⟩) 1 1)
    (hown : w.ownsRow base 3 1 v l.length (i64s l)) (hb : base ≤ w.heap.size) (hl : l.length ≤ 1000000)
    (h : ∀ v' w', w'.ownsRow base 3 1 v' (l ++ [m]).length (i64s (l ++ [m])) → Below base w w' → wpList Tryd.prog ops Q rest (a.put o.dst v') w') :
    wpList Tryd.prog ops Q (o :: rest) a (w.alloc (.cells #[.int .i64 m] 3)) := by
  obtain ⟨i0, hi0, hz0, hz1, hz2⟩ := info_parts infoZ
  have hb1 : Below base w (w.alloc (.cells #[.int .i64 m] 3)) := (Below.refl _ _).alloc hb _
  refine wpList_append_own _ hgd s x 31 ho base 3 i0 (.int .i64 0) 1 8 Tryd.underlying31 hi0 hz0 hz1 hz2 rfl (by decide) v l.length (i64s l) hs (own_below hown (((Below.refl _ _).alloc (Nat.le_refl _) _))) ⟨w.heap.size, 0, none⟩ 1 1 [.int .i64 m] hx rfl (intOne_cell m) (by intro u hu; simp at hu; subst hu; rfl) (by unfold maxLen; omega) (by omega) (by simp; omega) ?_
  intro v' w' h1 h2 _
  refine h v' w' (by simpa [i64s] using h1) (hb1.grown h2 (by simp; omega) (fun k hk => ?_))
  rcases hown.2 with ⟨rfl, _⟩ | ⟨g, cap, cur, rfl, hg, _⟩
  · simp [Value.ownBlock] at hk
  · simp [Value.ownBlock] at hk; omega
/-- Sorted, without repetitions: a row of the call's own. -/
def RowOf (w : World) (B : Nat) (v : Value) (l : List Int) : Prop := w.ownsRow B 3 1 v l.length (i64s l)
set_option maxRecDepth 100000 in
set_option maxHeartbeats 8000000 in
theorem pnext_at (w W0 : World) (p : PProg) (vt' : Value) (bb o k' : Nat) (k : Nat) (op a b c n : Int)
    (hW0 : W0 = w.alloc (.cells (progC vt' p (.slice (some ⟨bb, o, none⟩) p.code.length k')) 25)) (HS : Hid (Below w.heap.size w W0)) (KP : Hid (blk W0 w.heap.size (progC vt' p (.slice (some ⟨bb, o, none⟩) p.code.length k')) 25))
    (hk : k < p.code.length) (g1 : p.code.length ≤ k') (g2 : k' ≤ 9223372036854775807) (hlen : p.code.length ≤ 1000000) (hbb : bb < W0.heap.size) (HR : Hid (W0.rangeAt bb (o + k * 5) (insC ⟨op, a, b, c, n⟩).toList)) (l l0 : List Int)
    (hl : Hid (Lib.compact (sortZ l0) = l)) (hll : Hid (l.length ≤ l0.length)) (hc : (op = 3 ∧ 0 ≤ n ∧ n ≤ (p.code.length : Int) ∧ l0 = [n]) ∨ (op = 4 ∧ 0 ≤ n ∧ n ≤ (p.code.length : Int) ∧ l0 = [(k : Int) + 1, n]) ∨ (op ≠ 3 ∧ op ≠ 4 ∧ l0 = [(k : Int) + 1])) :
    Calls Tryd.prog 14 #[.agg (progC vt' p (.slice (some ⟨bb, o, none⟩) p.code.length k')), .int .i64 k] w (RowPost w l) := by
  have hki : (k : Int) < (p.code.length : Int) := by omega
  have hk0 : (0 : Int) ≤ (k : Int) := by omega
  have hkb : (k : Int) + 1 ≤ 1000001 := by omega
  have HIS := Lib.hid (fun w1 => pins_n w1 p vt' (some ⟨bb, o, none⟩) k' (k : Int) true (by simp; omega))
  go_enter Tryd.func14, Tryd.ntmps14
  go_upto_region 1 with (fail)
  rw [← hW0]
  clear hW0
  go_upto_region 3 with (first
    | (refine wpList_loadB rfl 25 _ rfl w.heap.size (progC vt' p (.slice (some ⟨bb, o, none⟩) p.code.length k')) rfl 25 KP.out _ Tryd.underlying25 rfl prog_info ?_)
    | (go_at_call 24; ((with_reducible refine (HIS.out _).mono ?_); rintro e w1 ⟨rfl, hb⟩; have HS1 := Lib.hid (HS.out.trans (hb.mono HS.out.size)); have KP1 := Lib.hid (blk_below KP.out hb); have HR1 := Lib.hid (rangeAt_below HR.out hbb hb); clear hb HS KP HR)))
  have p3 := blk_cell KP1.out 3 _ rfl
  obtain ⟨d0, d1, d2, d3, d4⟩ : (w1.cell? ⟨bb, o + k * 5, none⟩ = some (.int .u8 op)) ∧ w1.cell? ⟨bb, o + k * 5 + 1, none⟩ = some (.int .u8 a) ∧ w1.cell? ⟨bb, o + k * 5 + 2, none⟩ = some (.int .u8 b) ∧ w1.cell? ⟨bb, o + k * 5 + 3, none⟩ = some (.int .u8 c) ∧ w1.cell? ⟨bb, o + k * 5 + 4, none⟩ = some (.int .i64 n) := ⟨HR1.out 0 _ rfl, HR1.out 1 _ rfl, HR1.out 2 _ rfl, HR1.out 3 _ rfl, HR1.out 4 _ rfl⟩
  go_upto_region 4 with (fail)
  have HB2 : Hid (Below w.heap.size w (w1.alloc (.cells (insC ⟨op, a, b, c, n⟩) 46))) := Lib.hid (HS1.out.trans (((Below.refl _ _).alloc (Nat.le_refl _) _).mono HS1.out.size))
  have HI : Hid (blk (w1.alloc (.cells (insC ⟨op, a, b, c, n⟩) 46)) w1.heap.size (insC ⟨op, a, b, c, n⟩) 46) := Lib.hid (blk_new _ _ _)
  have KP2 : Hid (blk (w1.alloc (.cells (insC ⟨op, a, b, c, n⟩) 46)) w.heap.size (progC vt' p (.slice (some ⟨bb, o, none⟩) p.code.length k')) 25) := Lib.hid (blk_alloc KP1.out _)
  have HIL : Hid (w1.heap.size < (w1.alloc (.cells (insC ⟨op, a, b, c, n⟩) 46)).heap.size) := Lib.hid (by simp)
  have HWI : Hid (w.heap.size ≤ w1.heap.size) := Lib.hid HS1.out.size
  obtain ⟨w2, hw2⟩ : ∃ w2, w2 = w1.alloc (.cells (insC ⟨op, a, b, c, n⟩) 46) := ⟨_, rfl⟩
  obtain ⟨I, hI⟩ : ∃ I, I = w1.heap.size := ⟨_, rfl⟩
  rw [← hw2] at HB2 HI KP2 HIL ⊢
  rw [← hI] at HI HIL HWI ⊢
  clear hw2 hI p3 d0 d1 d2 d3 d4 HR1 KP1 HS1 HIS
  have e0 : w2.cell? ⟨I, 0, none⟩ = some (.int .u8 op) := blk_cell HI.out 0 _ rfl
  have e4 : w2.cell? ⟨I, 4, none⟩ = some (.int .i64 n) := blk_cell HI.out 4 _ rfl
  have hsz := HB2.out.size
  rcases hc with ⟨h3, hn0, hn1, rfl⟩ | ⟨h4, hn0, hn1, rfl⟩ | ⟨h3, h4, rfl⟩
  · subst h3
    have HJ := Lib.hid (fun w1 => pjumps_n ⟨3, a, b, c, n⟩ w1 true rfl)
    have HPL := Lib.hid (fun w1 => pplace_n w1 p vt' (some ⟨bb, o, none⟩) k' n true (by simp; omega))
    have HB5 := Lib.hid (Below.refl w2.heap.size w2)
    have KP5 := KP2
    have HI5 := HI
    clear KP2 HI
    go_upto_region 8 with (first
      | (refine wpList_loadB rfl 46 _ rfl I (insC ⟨3, a, b, c, n⟩) rfl 46 HI5.out _ Tryd.underlying46 rfl ins_info ?_)
      | (go_at_call 25; ((with_reducible refine (HJ.out _).mono ?_); rintro e w3 ⟨rfl, hb⟩; have HB3 := Lib.hid hb; have KP3 := Lib.hid (blk_below KP5.out hb); have HI3 := Lib.hid (blk_below HI5.out hb); clear hb e4; have e4 : w3.cell? ⟨I, 4, none⟩ = some (.int .i64 n) := blk_cell HI3.out 4 _ rfl))
      | (refine wpList_loadBw (by rfl) 25 _ rfl w.heap.size (progC vt' p (.slice (some ⟨bb, o, none⟩) p.code.length k')) rfl 25 KP3.out _ Tryd.underlying25 rfl prog_info ?_)
      | (go_at_call 23; ((with_reducible refine (HPL.out _).mono ?_); rintro e w4 ⟨rfl, hb⟩; have HB4 := Lib.hid (HB3.out.trans (hb.mono HB3.out.size)); have HI4 := Lib.hid (blk_below HI3.out hb); clear hb e4; have e4 : w4.cell? ⟨I, 4, none⟩ = some (.int .i64 n) := blk_cell HI4.out 4 _ rfl)))
    go_upto_region 9 with (at_builtin; refine wpList_append_int rfl _ _ rfl w2.heap.size _ [] n rfl rfl (World.ownsRow_nil _ _ _ _) (HB4.out.size) (by simp) ?_)
    intro v5 w5 ho hb
    have HO := Lib.hid ho
    have HBZ := Lib.hid (HB4.out.trans hb)
    clear ho hb HB5 KP5 HI5 HB3 KP3 HI3 HB4 HI4 e4 HJ HPL
    obtain ⟨g, cp, rfl, ho⟩ := own_some (l := [n]) (n := 1) HO.out (by omega)
    have HO5 := Lib.hid ho
    clear ho HO
    have hsl : (sortZ [n]).length = 1 := by rw [sortZ_len]; rfl
    have HSL := Lib.hid hsl
    have hcl : (Lib.compact (sortZ [n])).length ≤ (sortZ [n]).length := by rw [hl.out, sortZ_len]; exact hll.out
    have HCL := Lib.hid hcl
    clear hsl hcl
    go_wp2_with (first
      | (go_at_call 26; ((with_reducible refine (sort_row _ w2.heap.size g cp 1 [n] rfl HO5.out (by simp)).mono ?_); rintro e w6 ⟨rfl, ho, hb⟩; have HO6 := Lib.hid ho; have HB6 := Lib.hid hb; clear ho hb HO5))
      | (go_at_call 27; ((with_reducible refine (compact_row _ w2.heap.size g cp 1 (sortZ [n]) HSL.out.symm (by have := HO6.out; rw [HSL.out] at this; exact this) (by rw [HSL.out]; decide) HCL.out).mono ?_); rintro e w7 ⟨v7, rfl, ho, hb⟩; have HO7 := Lib.hid ho; have HB7 := Lib.hid (HB6.out.trans hb); clear ho hb HO6 HB6)))
    go_ret
    have ho := HO7.out
    rw [hl.out] at ho
    exact ⟨v7, rfl, ownsRow_le ho HB2.out.size, HB2.out.trans ((HBZ.out.trans HB7.out).mono HB2.out.size)⟩
  · subst h4
    have q3 : ((4 : Int) != 3) = true := by decide
    have HJ := Lib.hid (fun w1 => pjumps_n ⟨4, a, b, c, n⟩ w1 true rfl)
    have HPL := Lib.hid (fun w1 => pplace_n w1 p vt' (some ⟨bb, o, none⟩) k' n true (by simp; omega))
    go_upto_region 7 with (at_builtin; refine wpList_append_int rfl _ _ rfl w2.heap.size _ [] ((k : Int) + 1) rfl rfl (World.ownsRow_nil _ _ _ _) (Nat.le_refl _) (by simp) ?_)
    intro v0 w0 ho hb
    have HB5 := Lib.hid hb
    have KP5 := Lib.hid (blk_below KP2.out hb)
    have HI5 := Lib.hid (blk_below HI.out hb)
    have HO0 := Lib.hid ho
    clear ho hb KP2 HI e0 e4
    have e4 : w0.cell? ⟨I, 4, none⟩ = some (.int .i64 n) := blk_cell HI5.out 4 _ rfl
    go_upto_region 8 with (first
      | (refine wpList_loadB rfl 46 _ rfl I (insC ⟨4, a, b, c, n⟩) rfl 46 HI5.out _ Tryd.underlying46 rfl ins_info ?_)
      | (go_at_call 25; ((with_reducible refine (HJ.out _).mono ?_); rintro e w3 ⟨rfl, hb⟩; have HB3 := Lib.hid hb; have KP3 := Lib.hid (blk_below KP5.out hb); have HI3 := Lib.hid (blk_below HI5.out hb); clear hb e4; have e4 : w3.cell? ⟨I, 4, none⟩ = some (.int .i64 n) := blk_cell HI3.out 4 _ rfl))
      | (refine wpList_loadBw (by rfl) 25 _ rfl w.heap.size (progC vt' p (.slice (some ⟨bb, o, none⟩) p.code.length k')) rfl 25 KP3.out _ Tryd.underlying25 rfl prog_info ?_)
      | (go_at_call 23; ((with_reducible refine (HPL.out _).mono ?_); rintro e w4 ⟨rfl, hb⟩; have HB4 := Lib.hid (HB3.out.trans (hb.mono HB3.out.size)); have HI4 := Lib.hid (blk_below HI3.out hb); clear hb e4; have e4 : w4.cell? ⟨I, 4, none⟩ = some (.int .i64 n) := blk_cell HI4.out 4 _ rfl)))
    have hs4 : w2.heap.size ≤ w4.heap.size := Nat.le_trans HB5.out.size HB4.out.size
    have HO4 : Hid (w4.ownsRow w2.heap.size 3 1 v0 [(k : Int) + 1].length (i64s [(k : Int) + 1])) := Lib.hid (own_below HO0.out HB4.out)
    go_upto_region 9 with (at_builtin; go_loud (refine wpList_append_int rfl _ _ rfl (w := w4) w2.heap.size v0 [(k : Int) + 1] n rfl rfl HO4.out hs4 (by simp) ?_))
    intro v5 w5 ho hb
    have HO := Lib.hid ho
    have HBZ := Lib.hid ((HB5.out.trans (HB4.out.mono HB5.out.size)).trans hb)
    clear ho hb HB5 KP5 HI5 HB3 KP3 HI3 HB4 HI4 e4 HJ HPL HO0 HO4 hs4
    obtain ⟨g, cp, rfl, ho⟩ := own_some (l := [(k : Int) + 1, n]) (n := 2) HO.out (by omega)
    have HO5 := Lib.hid ho
    clear ho HO
    have hsl : (sortZ [(k : Int) + 1, n]).length = 2 := by rw [sortZ_len]; rfl
    have HSL := Lib.hid hsl
    have hcl : (Lib.compact (sortZ [(k : Int) + 1, n])).length ≤ (sortZ [(k : Int) + 1, n]).length := by rw [hl.out, sortZ_len]; exact hll.out
    have HCL := Lib.hid hcl
    clear hsl hcl
    go_wp2_with (first
      | (go_at_call 26; ((with_reducible refine (sort_row _ w2.heap.size g cp 2 [(k : Int) + 1, n] rfl HO5.out (by simp)).mono ?_); rintro e w6 ⟨rfl, ho, hb⟩; have HO6 := Lib.hid ho; have HB6 := Lib.hid hb; clear ho hb HO5))
      | (go_at_call 27; ((with_reducible refine (compact_row _ w2.heap.size g cp 2 (sortZ [(k : Int) + 1, n]) HSL.out.symm (by have := HO6.out; rw [HSL.out] at this; exact this) (by rw [HSL.out]; decide) HCL.out).mono ?_); rintro e w7 ⟨v7, rfl, ho, hb⟩; have HO7 := Lib.hid ho; have HB7 := Lib.hid (HB6.out.trans hb); clear ho hb HO6 HB6)))
    go_ret
    have ho := HO7.out
    rw [hl.out] at ho
    exact ⟨v7, rfl, ownsRow_le ho HB2.out.size, HB2.out.trans ((HBZ.out.trans HB7.out).mono HB2.out.size)⟩
  · have q3 : (op != 3) = true := by simpa using h3
    have HJ := Lib.hid (fun w1 => pjumps_n ⟨op, a, b, c, n⟩ w1 false (by simp [h3, h4]))
    clear h3 h4
    go_upto_region 7 with (at_builtin; refine wpList_append_int rfl _ _ rfl w2.heap.size _ [] ((k : Int) + 1) rfl rfl (World.ownsRow_nil _ _ _ _) (Nat.le_refl _) (by simp) ?_)
    intro v0 w0 ho hb
    have HB5 := Lib.hid hb
    have KP5 := Lib.hid (blk_below KP2.out hb)
    have HI5 := Lib.hid (blk_below HI.out hb)
    have HO0 := Lib.hid ho
    clear ho hb KP2 HI e0 e4
    have e4 : w0.cell? ⟨I, 4, none⟩ = some (.int .i64 n) := blk_cell HI5.out 4 _ rfl
    go_upto_region 9 with (first
      | (refine wpList_loadB rfl 46 _ rfl I (insC ⟨op, a, b, c, n⟩) rfl 46 HI5.out _ Tryd.underlying46 rfl ins_info ?_)
      | (go_at_call 25; ((with_reducible refine (HJ.out _).mono ?_); rintro e w3 ⟨rfl, hb⟩; have HB3 := Lib.hid hb; have KP3 := Lib.hid (blk_below KP5.out hb); have HI3 := Lib.hid (blk_below HI5.out hb); clear hb e4; have e4 : w3.cell? ⟨I, 4, none⟩ = some (.int .i64 n) := blk_cell HI3.out 4 _ rfl)))
    have HO := Lib.hid (own_below HO0.out HB3.out)
    have HBZ := Lib.hid (HB5.out.trans (HB3.out.mono HB5.out.size))
    clear HB5 KP5 HI5 HB3 KP3 HI3 e4 HJ HO0
    obtain ⟨g, cp, rfl, ho⟩ := own_some (l := [(k : Int) + 1]) (n := 1) HO.out (by omega)
    have HO5 := Lib.hid ho
    clear ho HO
    have hsl : (sortZ [(k : Int) + 1]).length = 1 := by rw [sortZ_len]; rfl
    have HSL := Lib.hid hsl
    have hcl : (Lib.compact (sortZ [(k : Int) + 1])).length ≤ (sortZ [(k : Int) + 1]).length := by rw [hl.out, sortZ_len]; exact hll.out
    have HCL := Lib.hid hcl
    clear hsl hcl
    go_wp2_with (first
      | (go_at_call 26; ((with_reducible refine (sort_row _ w2.heap.size g cp 1 [(k : Int) + 1] rfl HO5.out (by simp)).mono ?_); rintro e w6 ⟨rfl, ho, hb⟩; have HO6 := Lib.hid ho; have HB6 := Lib.hid hb; clear ho hb HO5))
      | (go_at_call 27; ((with_reducible refine (compact_row _ w2.heap.size g cp 1 (sortZ [(k : Int) + 1]) HSL.out.symm (by have := HO6.out; rw [HSL.out] at this; exact this) (by rw [HSL.out]; decide) HCL.out).mono ?_); rintro e w7 ⟨v7, rfl, ho, hb⟩; have HO7 := Lib.hid ho; have HB7 := Lib.hid (HB6.out.trans hb); clear ho hb HO6 HB6)))
    go_ret
    have ho := HO7.out
    rw [hl.out] at ho
    exact ⟨v7, rfl, ownsRow_le ho HB2.out.size, HB2.out.trans ((HBZ.out.trans HB7.out).mono HB2.out.size)⟩
end Go.Proofs.YtcenjphpdgadmaaDoor

/- The program's Next of any place, and Safe. -/
namespace Go.Proofs.YtcenjphpdgadmaaDoor
set_option linter.unusedSimpArgs false
set_option linter.unusedVariables false
open Go.RowKit

set_option maxRecDepth 100000 in
set_option maxHeartbeats 4000000 in
theorem pnext_bad (w W0 : World) (p : PProg) (vt' : Value) (x' : Option Addr) (k' : Nat) (k : Int)
    (hW0 : W0 = w.alloc (.cells (progC vt' p (.slice x' p.code.length k')) 25)) (HS : Hid (Below w.heap.size w W0)) (KP : Hid (blk W0 w.heap.size (progC vt' p (.slice x' p.code.length k')) 25))
    (hk : k < 0 ∨ (0 ≤ k ∧ (p.code.length : Int) ≤ k)) :
    Calls Tryd.prog 14 #[.agg (progC vt' p (.slice x' p.code.length k')), .int .i64 k] w (RowPost w []) := by
  have HIS := Lib.hid (fun w1 => pins_n w1 p vt' x' k' k false (by simp; omega))
  go_enter Tryd.func14, Tryd.ntmps14
  go_upto_region 1 with (fail)
  rw [← hW0]
  clear hW0
  go_wp2_with (first
    | (refine wpList_loadB rfl 25 _ rfl w.heap.size (progC vt' p (.slice x' p.code.length k')) rfl 25 KP.out _ Tryd.underlying25 rfl prog_info ?_)
    | (go_at_call 24; ((with_reducible refine (HIS.out _).mono ?_); rintro e w1 ⟨rfl, hb⟩; have HS1 := Lib.hid (HS.out.trans (hb.mono HS.out.size)); clear hb)))
  go_ret
  exact ⟨_, rfl, World.ownsRow_nil _ _ _ _, HS1.out⟩
theorem pnext_n (v : Value) (p : PProg) (w : World) (k : Int) (h : ProgAt w v p) (hin : InP p) (hlen : p.code.length ≤ 1000000) : Calls Tryd.prog 14 #[v, .int .i64 k] w (RowPost w (nextV p k)) := by
  obtain ⟨vt', vc, rfl, htl, hc⟩ := id h
  obtain ⟨x', kx', rfl, g1, g2, g3⟩ := id hc
  unfold maxLen at g2
  have hwb : Below w.heap.size w (w.alloc (.cells (progC vt' p (.slice x' p.code.length kx')) 25)) := (Below.refl _ _).alloc (Nat.le_refl _) _
  by_cases hk : k < 0 ∨ (p.code.length : Int) ≤ k
  · rw [nextV_none hk]
    exact pnext_bad w _ p vt' x' kx' k rfl (Lib.hid hwb) (Lib.hid (blk_new _ _ _)) (by omega)
  · obtain ⟨m, rfl⟩ : ∃ m : Nat, k = m := ⟨k.toNat, by omega⟩
    have hi : p.code[m]? = some (p.code[m]'(by omega)) := List.getElem?_eq_getElem (by omega)
    generalize p.code[m]'(by omega) = i at hi
    obtain ⟨bb, o, rfl, hbb, hrng⟩ := g3 m i hi
    have hp := hin i (List.mem_of_getElem? hi)
    have hx := nextV_at (q := p) (k := m) hi (fun e => (hp e).1)
    have hrw := rawV_next (i := i) (k := m)
    rw [← hx] at hrw
    have hle : (nextV p (m : Int)).length ≤ (rawV i m).length := by
      rw [hx]; unfold rawV
      by_cases h3 : i.op = 3
      · simp [h3]
      · by_cases h4 : i.op = 4
        · simp only [h4, if_neg (show ¬ (4 : Int) = 3 by decide)]
          split
          · simp
          · split <;> simp
        · simp [h3, h4]
    obtain ⟨op, a, b, c, n⟩ := i
    simp only at hp
    refine pnext_at w _ p vt' bb o kx' m op a b c n rfl (Lib.hid hwb) (Lib.hid (blk_new _ _ _)) (by omega) g1 (by omega) hlen (Nat.lt_of_lt_of_le hbb hwb.size) (Lib.hid (rangeAt_below hrng hbb hwb)) _ (rawV ⟨op, a, b, c, n⟩ m) (Lib.hid hrw) (Lib.hid hle) ?_
    unfold rawV
    by_cases h3 : op = 3
    · exact .inl ⟨h3, (hp (.inl h3)).1, (hp (.inl h3)).2, by simp [h3]⟩
    · by_cases h4 : op = 4
      · exact .inr (.inl ⟨h4, (hp (.inr h4)).1, (hp (.inr h4)).2, by simp [h4]⟩)
      · exact .inr (.inr ⟨h3, h4, by simp [h3, h4]⟩)

/-! ### Safe -/
set_option maxRecDepth 100000 in
set_option maxHeartbeats 8000000 in
theorem psafe_at (w W0 : World) (p : PProg) (vt' : Value) (bb o k' : Nat) (k : Nat) (op a b c n : Int) (r : Bool)
    (hW0 : W0 = w.alloc (.cells (progC vt' p (.slice (some ⟨bb, o, none⟩) p.code.length k')) 25)) (HS : Hid (Below w.heap.size w W0)) (KP : Hid (blk W0 w.heap.size (progC vt' p (.slice (some ⟨bb, o, none⟩) p.code.length k')) 25))
    (hk : k < p.code.length) (g1 : p.code.length ≤ k') (g2 : k' ≤ 9223372036854775807) (hbb : bb < W0.heap.size) (HR : Hid (W0.rangeAt bb (o + k * 5) (insC ⟨op, a, b, c, n⟩).toList)) (jr : Bool)
    (HJ : Hid (∀ w1, Calls Tryd.prog 25 #[.agg (insC ⟨op, a, b, c, n⟩)] w1 (AggPost w1 (.bool jr))))
    (hc : ((op == 5) = true ∧ r = true) ∨ ((op == 5) = false ∧ jr = false ∧ r = false) ∨ ((op == 5) = false ∧ jr = true ∧ n ≤ (k : Int) ∧ r = true) ∨ ((op == 5) = false ∧ jr = true ∧ (k : Int) < n ∧ r = false)) :
    Calls Tryd.prog 16 #[.agg (progC vt' p (.slice (some ⟨bb, o, none⟩) p.code.length k')), .int .i64 k] w (AggPost w (.bool r)) := by
  have hki : (k : Int) < (p.code.length : Int) := by omega
  have hk0 : (0 : Int) ≤ (k : Int) := by omega
  have HIS := Lib.hid (fun w1 => pins_n w1 p vt' (some ⟨bb, o, none⟩) k' (k : Int) true (by simp; omega))
  go_enter Tryd.func16, Tryd.ntmps16
  go_upto_region 1 with (fail)
  rw [← hW0]
  clear hW0
  go_upto_region 3 with (first
    | (refine wpList_loadB rfl 25 _ rfl w.heap.size (progC vt' p (.slice (some ⟨bb, o, none⟩) p.code.length k')) rfl 25 KP.out _ Tryd.underlying25 rfl prog_info ?_)
    | (go_at_call 24; ((with_reducible refine (HIS.out _).mono ?_); rintro e w1 ⟨rfl, hb⟩; have HS1 := Lib.hid (HS.out.trans (hb.mono HS.out.size)); have KP1 := Lib.hid (blk_below KP.out hb); have HR1 := Lib.hid (rangeAt_below HR.out hbb hb); clear hb HS KP HR)))
  have p3 := blk_cell KP1.out 3 _ rfl
  obtain ⟨d0, d1, d2, d3, d4⟩ : (w1.cell? ⟨bb, o + k * 5, none⟩ = some (.int .u8 op)) ∧ w1.cell? ⟨bb, o + k * 5 + 1, none⟩ = some (.int .u8 a) ∧ w1.cell? ⟨bb, o + k * 5 + 2, none⟩ = some (.int .u8 b) ∧ w1.cell? ⟨bb, o + k * 5 + 3, none⟩ = some (.int .u8 c) ∧ w1.cell? ⟨bb, o + k * 5 + 4, none⟩ = some (.int .i64 n) := ⟨HR1.out 0 _ rfl, HR1.out 1 _ rfl, HR1.out 2 _ rfl, HR1.out 3 _ rfl, HR1.out 4 _ rfl⟩
  go_upto_region 4 with (fail)
  have HB2 : Hid (Below w.heap.size w (w1.alloc (.cells (insC ⟨op, a, b, c, n⟩) 46))) := Lib.hid (HS1.out.trans (((Below.refl _ _).alloc (Nat.le_refl _) _).mono HS1.out.size))
  have HI : Hid (blk (w1.alloc (.cells (insC ⟨op, a, b, c, n⟩) 46)) w1.heap.size (insC ⟨op, a, b, c, n⟩) 46) := Lib.hid (blk_new _ _ _)
  obtain ⟨w2, hw2⟩ : ∃ w2, w2 = w1.alloc (.cells (insC ⟨op, a, b, c, n⟩) 46) := ⟨_, rfl⟩
  obtain ⟨I, hI⟩ : ∃ I, I = w1.heap.size := ⟨_, rfl⟩
  rw [← hw2] at HB2 HI ⊢
  rw [← hI] at HI ⊢
  clear hw2 hI p3 d0 d1 d2 d3 d4 HR1 KP1 HS1 HIS
  have e0 : w2.cell? ⟨I, 0, none⟩ = some (.int .u8 op) := blk_cell HI.out 0 _ rfl
  rcases hc with ⟨h5, rfl⟩ | ⟨h5, rfl, rfl⟩ | ⟨h5, rfl, h6, rfl⟩ | ⟨h5, rfl, h6, rfl⟩
  · go_wp2
    go_ret
    exact ⟨rfl, HB2.out⟩
  · go_wp2_with (first
      | (refine wpList_loadBw (by rfl) 46 _ rfl I (insC ⟨op, a, b, c, n⟩) rfl 46 HI.out _ Tryd.underlying46 rfl ins_info ?_)
      | (go_at_call 25; ((with_reducible refine (HJ.out _).mono ?_); rintro e w3 ⟨rfl, hb⟩; have HB3 := Lib.hid (HB2.out.trans (hb.mono HB2.out.size)); have HI3 := Lib.hid (blk_below HI.out hb); clear hb e0; have e4 : w3.cell? ⟨I, 4, none⟩ = some (.int .i64 n) := blk_cell HI3.out 4 _ rfl)))
    go_ret
    exact ⟨rfl, HB3.out⟩
  · go_wp2_with (first
      | (refine wpList_loadBw (by rfl) 46 _ rfl I (insC ⟨op, a, b, c, n⟩) rfl 46 HI.out _ Tryd.underlying46 rfl ins_info ?_)
      | (go_at_call 25; ((with_reducible refine (HJ.out _).mono ?_); rintro e w3 ⟨rfl, hb⟩; have HB3 := Lib.hid (HB2.out.trans (hb.mono HB2.out.size)); have HI3 := Lib.hid (blk_below HI.out hb); clear hb e0; have e4 : w3.cell? ⟨I, 4, none⟩ = some (.int .i64 n) := blk_cell HI3.out 4 _ rfl)))
    go_ret
    exact ⟨rfl, HB3.out⟩
  · have h7 : ¬ (n ≤ (k : Int)) := by omega
    go_wp2_with (first
      | (refine wpList_loadBw (by rfl) 46 _ rfl I (insC ⟨op, a, b, c, n⟩) rfl 46 HI.out _ Tryd.underlying46 rfl ins_info ?_)
      | (go_at_call 25; ((with_reducible refine (HJ.out _).mono ?_); rintro e w3 ⟨rfl, hb⟩; have HB3 := Lib.hid (HB2.out.trans (hb.mono HB2.out.size)); have HI3 := Lib.hid (blk_below HI.out hb); clear hb e0; have e4 : w3.cell? ⟨I, 4, none⟩ = some (.int .i64 n) := blk_cell HI3.out 4 _ rfl)))
    go_ret
    exact ⟨ret_bool (decide_eq_false (by omega)), HB3.out⟩
set_option maxRecDepth 100000 in
set_option maxHeartbeats 4000000 in
theorem psafe_bad (w W0 : World) (p : PProg) (vt' : Value) (x' : Option Addr) (k' : Nat) (k : Int)
    (hW0 : W0 = w.alloc (.cells (progC vt' p (.slice x' p.code.length k')) 25)) (HS : Hid (Below w.heap.size w W0)) (KP : Hid (blk W0 w.heap.size (progC vt' p (.slice x' p.code.length k')) 25))
    (hk : k < 0 ∨ (0 ≤ k ∧ (p.code.length : Int) ≤ k)) :
    Calls Tryd.prog 16 #[.agg (progC vt' p (.slice x' p.code.length k')), .int .i64 k] w (AggPost w (.bool false)) := by
  have HIS := Lib.hid (fun w1 => pins_n w1 p vt' x' k' k false (by simp; omega))
  go_enter Tryd.func16, Tryd.ntmps16
  go_upto_region 1 with (fail)
  rw [← hW0]
  clear hW0
  go_wp2_with (first
    | (refine wpList_loadB rfl 25 _ rfl w.heap.size (progC vt' p (.slice x' p.code.length k')) rfl 25 KP.out _ Tryd.underlying25 rfl prog_info ?_)
    | (go_at_call 24; ((with_reducible refine (HIS.out _).mono ?_); rintro e w1 ⟨rfl, hb⟩; have HS1 := Lib.hid (HS.out.trans (hb.mono HS.out.size)); clear hb)))
  go_ret
  exact ⟨rfl, HS1.out⟩
theorem psafe_n (v : Value) (p : PProg) (w : World) (k : Int) (r : Bool) (h : ProgAt w v p) (hr : safeV p k = r) : Calls Tryd.prog 16 #[v, .int .i64 k] w (AggPost w (.bool r)) := by
  obtain ⟨vt', vc, rfl, htl, hc⟩ := id h
  obtain ⟨x', kx', rfl, g1, g2, g3⟩ := id hc
  unfold maxLen at g2
  have hwb : Below w.heap.size w (w.alloc (.cells (progC vt' p (.slice x' p.code.length kx')) 25)) := (Below.refl _ _).alloc (Nat.le_refl _) _
  by_cases hk : k < 0 ∨ (p.code.length : Int) ≤ k
  · have : r = false := by
      rw [← hr]; unfold safeV
      rcases Int.lt_or_le k 0 with h0 | h0
      · simp; omega
      · unfold safeL; rw [List.getElem?_eq_none (by omega)]; simp
    rw [this]
    exact psafe_bad w _ p vt' x' kx' k rfl (Lib.hid hwb) (Lib.hid (blk_new _ _ _)) (by omega)
  · obtain ⟨m, rfl⟩ : ∃ m : Nat, k = m := ⟨k.toNat, by omega⟩
    have hi : p.code[m]? = some (p.code[m]'(by omega)) := List.getElem?_eq_getElem (by omega)
    generalize p.code[m]'(by omega) = i at hi
    obtain ⟨bb, o, rfl, hbb, hrng⟩ := g3 m i hi
    have hr' : r = (decide (i.op = 5) || (decide (i.op = 3) || decide (i.op = 4)) && decide (i.n ≤ (m : Int))) := by
      rw [← hr]; unfold safeV safeL; rw [Int.toNat_natCast, hi]; simp
    obtain ⟨op, a, b, c, n⟩ := i
    simp only at hr'
    refine psafe_at w _ p vt' bb o kx' m op a b c n r rfl (Lib.hid hwb) (Lib.hid (blk_new _ _ _)) (by omega) g1 (by omega) (Nat.lt_of_lt_of_le hbb hwb.size) (Lib.hid (rangeAt_below hrng hbb hwb)) (decide (op = 3) || decide (op = 4)) (Lib.hid fun w1 => pjumps_n _ w1 _ rfl) ?_
    by_cases h5 : op = 5
    · exact .inl ⟨by simpa using h5, by rw [hr']; simp [h5]⟩
    rcases hj : (decide (op = 3) || decide (op = 4)) with _ | _
    · exact .inr (.inl ⟨by simpa using h5, rfl, by rw [hr', hj]; simp [h5]⟩)
    · by_cases hn : n ≤ (m : Int)
      · exact .inr (.inr (.inl ⟨by simpa using h5, rfl, hn, by rw [hr', hj]; simp [hn]⟩))
      · exact .inr (.inr (.inr ⟨by simpa using h5, rfl, by omega, by rw [hr', hj]; simp [h5, hn]⟩))
end Go.Proofs.YtcenjphpdgadmaaDoor

/- The program's Reach and Loops. -/
namespace Go.Proofs.YtcenjphpdgadmaaDoor
set_option linter.unusedSimpArgs false
set_option linter.unusedVariables false
open Go.RowKit

/-- 'append(xs, news...)': xs a row of the call's own, the other one any row of its own. -/
theorem wpList_append_ints {w : World} {ops : Array Oper} {rest : List Oper} {o : Oper} {a : Act} {Q : Exit → Act → World → Prop} (hw : Region.wanted o (yielded ops a.tmps) = true) (s x : Operand)
    (ho : o.op = .call { callee := .builtin .append, args := #[s, x], argTypes := #[31, 31] }) (base : Nat) (v : Value) (xs news : List Int) (hs : a.eval s = v) (hown : w.ownsRow base 3 1 v xs.length (i64s xs))
    (u : Value) (base' : Nat) (hx : a.eval x = u) (hsrc : w.ownsRow base' 3 1 u news.length (i64s news)) (h63 : xs.length + news.length ≤ 1000000) (hbase : base ≤ w.heap.size)
    (h : ∀ v' w', w'.ownsRow base 3 1 v' (xs ++ news).length (i64s (xs ++ news)) → Below base w w' → wpList Tryd.prog ops Q rest (a.put o.dst v') w') : wpList Tryd.prog ops Q (o :: rest) a w := by
  obtain ⟨i0, hi0, hz0, hz1, hz2⟩ := info_parts infoZ
  have hsrc' := hsrc
  rcases hsrc.2 with ⟨rfl, h0⟩ | ⟨g, cap, cur, rfl, hb, hg, h3, h4, h5, h6⟩
  · have hn : news = [] := List.length_eq_zero_iff.1 h0
    subst hn
    refine BigFrame.wpList_want hw fun K hK => ?_
    have hrun := run_append_owned_none (P := Tryd.prog) (w := w) base 31 o.type 3 i0 1 Tryd.underlying31 hi0 v xs.length (i64s xs) hown
    unfold Oper.wp
    simp [execOp, ho, resolve, invoke, builtin, hs, hx, hrun, Result.andThen]
    exact hK _ _ (h v w (by simpa using hown) (Below.refl _ _))
  · have hra := RowAt.of_own hsrc'
    refine BigFrame.wpList_want hw fun K hK => wp_append_own w s x 31 ho base 3 i0 (.int .i64 0) 1 8 Tryd.underlying31 hi0 hz0 hz1 hz2 rfl (by decide) v xs.length (i64s xs) hs hown ⟨g, 0, none⟩ news.length cap (i64s news) hx (by simp) ?_ (by intro u hu; simp [i64s] at hu; obtain ⟨y, -, rfl⟩ := hu; rfl) (by unfold maxLen; omega) (by omega) hbase ?_
    · intro j u hu
      obtain ⟨a', c', e1, _, _, e2⟩ := hra
      rcases e2 with e2 | ⟨b, o', rfl, _, hc⟩
      · rw [e2] at hu; simp at hu
      · simp only [Value.slice.injEq, Option.some.injEq, Addr.mk.injEq] at e1
        obtain ⟨⟨rfl, rfl, -⟩, -⟩ := e1
        have h9 := hc j u hu
        rw [Nat.zero_add] at h9
        rcases j with _ | j <;> simpa [Addr.add] using h9
    · intro v' w' h1 h2 _
      refine hK _ _ (h v' w' (by simpa [i64s] using h1) ((Below.refl _ _).grown h2 hbase (fun k hk => ?_)))
      rcases hown.2 with ⟨rfl, _⟩ | ⟨g', cap', cur', rfl, hg', _⟩
      · simp [Value.ownBlock] at hk
      · simp [Value.ownBlock] at hk; omega
/-- Its first elements. -/
theorem own_first {w : World} {B : Nat} {g c n m : Nat} {xs ys : List Int} (h : w.ownsRow B 3 1 (.slice (some ⟨g, 0, none⟩) n c) n (i64s (xs ++ ys))) (hm : m = xs.length) : w.ownsRow B 3 1 (.slice (some ⟨g, 0, none⟩) m c) m (i64s xs) := by
  subst hm
  obtain ⟨h1, h2⟩ := h
  rcases h2 with ⟨h0, _⟩ | ⟨g', cap, cur, hv, hb, hg, h3, h4, h5, h6⟩
  · cases h0
  cases hv
  have hn : n = xs.length + ys.length := by simp [i64s] at h1; omega
  refine ⟨by simp, .inr ⟨g, c, cur, rfl, hb, hg, by omega, h4, h5, ?_⟩⟩
  rw [Nat.mul_one] at h6 ⊢
  have : xs.length = min xs.length n := by omega
  rw [this, ← List.take_take, h6]
  simp [i64s]
/-- The world in Reach, with the places yet to be seen. -/
abbrev natsV (l : List Nat) : List Int := l.map (fun n : Nat => (n : Int))
structure RkW (w wr : World) (H B : Nat) (C : Array Value) (had : List Bool) (v : Value) (op : List Nat) : Prop where
  rc : RcW w wr H C had
  own : wr.ownsRow B 3 1 v op.length (i64s (natsV op))
  hB : H < B
  hs : B ≤ wr.heap.size
theorem last_or {op : List Nat} (h : 0 < op.length) : ∃ xs m, op = xs ++ [m] := by
  rcases List.eq_nil_or_concat op with rfl | ⟨xs, m, rfl⟩
  · simp at h
  · exact ⟨xs, m, by simp⟩
theorem natsV_last {xs : List Nat} {m : Nat} : (i64s (natsV (xs ++ [m])))[xs.length]? = some (.int .i64 (m : Int)) := by simp [i64s]
set_option maxRecDepth 100000 in
set_option maxHeartbeats 8000000 in
theorem preach_at (w W0 : World) (p : PProg) (vt' : Value) (x' : Option Addr) (k' : Nat) (a : Nat)
    (hW0 : W0 = w.alloc (.cells (progC vt' p (.slice x' p.code.length k')) 25)) (HS : Hid (Below w.heap.size w W0)) (KP : Hid (blk W0 w.heap.size (progC vt' p (.slice x' p.code.length k')) 25))
    (ha : a ≤ p.code.length) (hlen : p.code.length ≤ 200) (hin : Hid (InP p))
    (HN : Hid (∀ (w1 : World) (k : Nat), Below w.heap.size w w1 → Calls Tryd.prog 14 #[.agg (progC vt' p (.slice x' p.code.length k')), .int .i64 k] w1 (RowPost w1 (nextV p k)))) :
    Calls Tryd.prog 11 #[.agg (progC vt' p (.slice x' p.code.length k')), .int .i64 a] w (BoolsPost w (wayL p a)) := by
  have hmk : ∀ w, (Instr.makeSlice 28 (.int .i64 ((p.code.length : Int) + 1)) (.int .i64 ((p.code.length : Int) + 1))).run Tryd.prog w = .ok (.slice (some ⟨w.heap.size, 0, none⟩) (p.code.length + 1) (p.code.length + 1)) (w.alloc (.cells (madeCells #[.bool false] (p.code.length + 1)) 4)) := fun w => run_make_row' _ _ _ _ Tryd.underlying28 infoBool rfl _ _ (p.code.length + 1) (by omega) (by omega) w
  have HPL := Lib.hid (fun w1 => pplace_n w1 p vt' x' k' (a : Int) true (by simp; omega))
  go_enter Tryd.func11, Tryd.ntmps11
  go_upto_region 1 with (fail)
  rw [← hW0]
  clear hW0
  go_upto_region 3 with (first
    | (refine wpList_loadB rfl 25 _ rfl w.heap.size (progC vt' p (.slice x' p.code.length k')) rfl 25 KP.out _ Tryd.underlying25 rfl prog_info ?_)
    | (go_at_call 23; ((with_reducible refine (HPL.out _).mono ?_); rintro e w1 ⟨rfl, hb⟩; have HS1 := Lib.hid (HS.out.trans (hb.mono HS.out.size)); have KP1 := Lib.hid (blk_below KP.out hb); clear hb HS KP HPL)))
  have p3 : w1.cell? ⟨w.heap.size, 3, none⟩ = some (.slice x' p.code.length k') := blk_cell KP1.out 3 _ rfl
  go_upto_region 4 with (fail)
  rw [bArr_zeros]
  have HW0 : Hid (RcW w (w1.alloc (.cells (bArr (List.replicate (p.code.length + 1) false)) 4)) w1.heap.size (progC vt' p (.slice x' p.code.length k')) (List.replicate (p.code.length + 1) false)) := Lib.hid
    ⟨HS1.out.trans (((Below.refl _ _).alloc (Nat.le_refl _) _).mono HS1.out.size), blk_alloc KP1.out _, blk_new _ _ _, blk_lt KP1.out⟩
  have HBH : Hid (w1.heap.size < (w1.alloc (.cells (bArr (List.replicate (p.code.length + 1) false)) 4)).heap.size) := Lib.hid (by simp)
  obtain ⟨H, hH⟩ : ∃ H, H = w1.heap.size := ⟨_, rfl⟩
  obtain ⟨wb, hwb⟩ : ∃ wb, wb = w1.alloc (.cells (bArr (List.replicate (p.code.length + 1) false)) 4) := ⟨_, rfl⟩
  rw [← hwb] at HW0 HBH ⊢
  rw [← hH] at HW0 HBH ⊢
  clear hwb hH p3 hmk KP1 HS1
  obtain ⟨B, hB⟩ : ∃ B, B = wb.heap.size := ⟨_, rfl⟩
  go_upto_region 5 with (first
    | (refine wpList_loadB rfl 25 _ rfl w.heap.size (progC vt' p (.slice x' p.code.length k')) rfl 25 HW0.out.prog _ Tryd.underlying25 rfl prog_info ?_)
    | (go_at_call 14; refine (HN.out _ a HW0.out.below).mono ?_; rintro e1 w5 ⟨v6, rfl, ho, hb⟩; have HW5 := Lib.hid (HW0.out.next hb); have HO5 := Lib.hid ho; have HS5 := Lib.hid hb.size; clear ho hb))
  have HK0 : Hid (RkW w w5 H B (progC vt' p (.slice x' p.code.length k')) (List.replicate (p.code.length + 1) false) v6 (nextL p a)) := Lib.hid (by
    have h1 := HO5.out
    rw [← hB, nextL_cast, List.length_map] at h1
    exact ⟨HW5.out, h1, by rw [hB]; exact HBH.out, by rw [hB]; exact HS5.out⟩)
  have HT0 := Lib.hid (StkAt.start (q := p) a)
  clear hB HO5 HS5 HW5 HBH HW0
  go_wp2_with (fail)
  go_loopg [6] (3 * (p.code.length + 1) + 2) (fun gk v6 wr => ∃ (had : List Bool) (op : List Nat), Hid (RkW w wr H B (progC vt' p (.slice x' p.code.length k')) had v6 op) ∧ Hid (StkAt p a had op) ∧ Hid (3 * (p.code.length + 1 - cnt had) + op.length ≤ gk))
  case atStart => exact ⟨_, _, HK0, HT0, Lib.hid HT0.out.few⟩
  case round =>
    obtain ⟨had, op, HW, HT, HG⟩ := hrel
    clear HK0 HT0
    obtain ⟨ad, cap, hv, hc1, hc2⟩ := own_form HW.out.own
    subst hv
    by_cases hop : 0 < op.length
    · obtain ⟨xs, m, rfl⟩ := last_or hop
      obtain ⟨g, hg⟩ : ∃ g, ad = some ⟨g, 0, none⟩ := by
        rcases ownsRow_forms HW.out.own with ⟨-, h0⟩ | ⟨g, c, h0⟩
        · omega
        · exact ⟨g, by cases h0; rfl⟩
      subst hg
      have hL : (xs ++ [m]).length = xs.length + 1 := by simp
      have HO := Lib.hid HW.out.own
      rw [hL] at HO hc1 hop ⊢
      have hml := (HT.out.way m (by simp)).le hin.out
      have hfew := HT.out.few
      rw [hL] at hfew
      have cm : wr.cell? ⟨g, xs.length, none⟩ = some (.int .i64 (m : Int)) := by
        rw [HO.out.cellAt xs.length (by omega)]; exact natsV_last
      have hxc : (xs.length : Int) ≤ (cap : Int) := by omega
      have hxb : (xs.length : Int) ≤ 1000 := by omega
      have hx0 : (0 : Int) ≤ (xs.length : Int) := by omega
      go_upto_region 9 with (fail)
      have hmi : (m : Int) < (p.code.length : Int) + 1 := by omega
      have hm0 : (0 : Int) ≤ (m : Int) := by omega
      have ch : wr.cell? ⟨H, m, none⟩ = some (.bool (had.getD m false)) := blk_cell HW.out.rc.hd m _ (bArr_get (by have := HT.out.len; omega))
      have fh := blk_frozen HW.out.rc.hd m
      have hmap : natsV (xs ++ [m]) = natsV xs ++ natsV [m] := by simp [natsV]
      rcases hb : had.getD m false with _ | _
      · rw [hb] at ch
        have hnew := HT.out.new hin.out hb
        rw [hL] at hnew
        have HT2 := Lib.hid hnew.1
        have HM2 := Lib.hid hnew.2
        have HW2 := Lib.hid (HW.out.rc.mark m)
        have HX2 : Hid ((wr.setCell ⟨H, m, none⟩ (.bool true)).ownsRow B 3 1 (.slice (some ⟨g, 0, none⟩) xs.length cap) (natsV xs).length (i64s (natsV xs))) := Lib.hid (by
          have h1 := HO.out
          rw [hmap] at h1
          have h2 := own_first (m := xs.length) h1 (by simp)
          rw [setCell_putB HW.out.rc.hd, show (natsV xs).length = xs.length by simp]
          exact own_same h2 (fun g' hg' _ => putB_ne wr (own_ne h2 HW.out.rc.hd (by decide) g' hg') _ _))
        have HS2 : Hid (B ≤ (wr.setCell ⟨H, m, none⟩ (.bool true)).heap.size ∧ H < B) := Lib.hid ⟨by simpa using HW.out.hs, HW.out.hB⟩
        clear hnew hb hmap cm
        have HG2 : Hid (3 * (p.code.length + 1 - cnt had) + (xs.length + 1) ≤ gk) := Lib.hid (by have := HG.out; rw [hL] at this; exact this)
        clear HT HG HO HW hL
        go_upto_region 11 with (fail)
        obtain ⟨w2, hw2⟩ : ∃ w2, w2 = wr.setCell ⟨H, m, none⟩ (.bool true) := ⟨_, rfl⟩
        rw [← hw2] at HW2 HX2 HS2 ⊢
        clear hw2 ch fh
        go_wp2_with (first
          | (refine wpList_loadB rfl 25 _ rfl w.heap.size (progC vt' p (.slice x' p.code.length k')) rfl 25 HW2.out.prog _ Tryd.underlying25 rfl prog_info ?_)
          | (go_at_call 14; refine (HN.out _ m HW2.out.below).mono ?_; rintro e1 w6 ⟨v8, rfl, ho, hb⟩; have HW6 := Lib.hid (HW2.out.next hb); have HX6 := Lib.hid (own_below HX2.out hb); have HO6 := Lib.hid ho; have HS6 : Hid (B ≤ w6.heap.size) := Lib.hid (Nat.le_trans HS2.out.1 hb.size); have hnl : (natsV xs).length + (nextV p (m : Int)).length ≤ 1000000 := (by rw [nextL_cast, List.length_map, List.length_map]; have := (next_sorted (q := p) m).1; omega); clear ho hb)
          | (at_builtin; go_loud (refine wpList_append_ints (by rfl) _ _ rfl B _ (natsV xs) (nextV p (m : Int)) rfl HX6.out _ _ rfl HO6.out hnl HS6.out ?_)))
        intro v9 w9 ho hb9
        have HK9 : Hid (RkW w w9 H B (progC vt' p (.slice x' p.code.length k')) (markK had m) v9 (xs ++ nextL p m)) := Lib.hid (by
          have h1 : w9.ownsRow B 3 1 v9 (xs ++ nextL p m).length (i64s (natsV (xs ++ nextL p m))) := by
            have h0 := ho
            rw [nextL_cast] at h0
            simpa [i64s, natsV, Function.comp_def] using h0
          have hH := HW6.out.hH
          have hHB := HS2.out.2
          exact ⟨⟨HW6.out.below.trans (hb9.mono (by omega)), by have := HW6.out.prog; unfold blk at this ⊢; rw [hb9.block _ (by omega)]; exact this, by have := HW6.out.hd; unfold blk at this ⊢; rw [hb9.block _ hHB]; exact this, hH⟩, h1, hHB, Nat.le_trans HS6.out hb9.size⟩)
        clear ho hb9 HW2 HX2 HX6 HO6 HW6 HS6
        go_wp2
        go_roundg (gk - 1)
        case measure => have := HG2.out; omega
        case rel => exact ⟨_, _, HK9, HT2, Lib.hid (by have := HG2.out; have := HM2.out; omega)⟩
      · rw [hb] at ch
        have HT2 := Lib.hid (HT.out.known hb)
        have HW2 : Hid (RkW w wr H B (progC vt' p (.slice x' p.code.length k')) had (.slice (some ⟨g, 0, none⟩) xs.length cap) xs) := Lib.hid ⟨HW.out.rc, by
          have h1 := HO.out
          rw [hmap] at h1
          exact own_first h1 (by simp), HW.out.hB, HW.out.hs⟩
        have HG2 : Hid (3 * (p.code.length + 1 - cnt had) + (xs.length + 1) ≤ gk) := Lib.hid (by have := HG.out; rw [hL] at this; exact this)
        clear hb hmap cm HT HG HO HW hL
        go_wp2
        go_roundg (gk - 1)
        case measure => have := HG2.out; omega
        case rel => exact ⟨_, _, HW2, HT2, Lib.hid (by have := HG2.out; omega)⟩
    · have he : op = [] := List.length_eq_zero_iff.1 (by omega)
      subst he
      have HE := Lib.hid (HT.out.done hin.out ha)
      have HP : Hid (BoolsPost w (wayL p a) (.returned (.slice (some ⟨H, 0, none⟩) (p.code.length + 1) (p.code.length + 1))) wr) := Lib.hid (by
        have h1 := HW.out.rc.post (by have := HT.out.len; omega)
        rw [HT.out.len, HE.out] at h1
        exact h1)
      clear HW HT HE HG
      go_wp2
      go_ret
      exact HP.out
end Go.Proofs.YtcenjphpdgadmaaDoor

/- The program's flow: contracts. -/
namespace Go.Proofs.YtcenjphpdgadmaaDoor
set_option linter.unusedSimpArgs false
set_option linter.unusedVariables false
open Go.RowKit

set_option maxRecDepth 100000 in
set_option maxHeartbeats 4000000 in
theorem preach_bad (w W0 : World) (p : PProg) (vt' : Value) (x' : Option Addr) (k' : Nat) (k : Int)
    (hW0 : W0 = w.alloc (.cells (progC vt' p (.slice x' p.code.length k')) 25)) (HS : Hid (Below w.heap.size w W0)) (KP : Hid (blk W0 w.heap.size (progC vt' p (.slice x' p.code.length k')) 25))
    (hk : ¬ (0 ≤ k ∧ k ≤ (p.code.length : Int))) :
    Calls Tryd.prog 11 #[.agg (progC vt' p (.slice x' p.code.length k')), .int .i64 k] w (BoolsPost w []) := by
  have HIS := Lib.hid (fun w1 => pplace_n w1 p vt' x' k' k false (decide_eq_false hk))
  go_enter Tryd.func11, Tryd.ntmps11
  go_upto_region 1 with (fail)
  rw [← hW0]
  clear hW0
  go_wp2_with (first
    | (refine wpList_loadB rfl 25 _ rfl w.heap.size (progC vt' p (.slice x' p.code.length k')) rfl 25 KP.out _ Tryd.underlying25 rfl prog_info ?_)
    | (go_at_call 23; ((with_reducible refine (HIS.out _).mono ?_); rintro e w1 ⟨rfl, hb⟩; have HS1 := Lib.hid (HS.out.trans (hb.mono HS.out.size)); clear hb)))
  go_ret
  exact ⟨_, rfl, World.ownsRow_nil _ _ _ _, HS1.out⟩
theorem preach_n (v : Value) (p : PProg) (w : World) (k : Int) (h : ProgAt w v p) (hin : InP p) (hlen : p.code.length ≤ 200) : Calls Tryd.prog 11 #[v, .int .i64 k] w (BoolsPost w (wayV p k)) := by
  obtain ⟨vt', vc, rfl, htl, hc⟩ := id h
  obtain ⟨x', kx', rfl, g1, g2, g3⟩ := id hc
  have hwb : Below w.heap.size w (w.alloc (.cells (progC vt' p (.slice x' p.code.length kx')) 25)) := (Below.refl _ _).alloc (Nat.le_refl _) _
  by_cases hk : 0 ≤ k ∧ k ≤ p.code.length
  · unfold wayV
    rw [if_pos hk]
    obtain ⟨m, rfl⟩ : ∃ m : Nat, k = m := ⟨k.toNat, by omega⟩
    rw [Int.toNat_natCast]
    exact preach_at w _ p vt' x' kx' m rfl (Lib.hid hwb) (Lib.hid (blk_new _ _ _)) (by omega) hlen (Lib.hid hin) (Lib.hid fun w1 k1 hb1 => pnext_n _ p w1 k1 (h.below hb1) hin (by omega))
  · unfold wayV
    rw [if_neg hk]
    exact preach_bad w _ p vt' x' kx' k rfl (Lib.hid hwb) (Lib.hid (blk_new _ _ _)) hk
set_option maxRecDepth 100000 in
set_option maxHeartbeats 4000000 in
theorem ploops_at (w W0 : World) (p : PProg) (vt' : Value) (x' : Option Addr) (k' : Nat) (k : Int) (l : List Bool) (r : Bool)
    (hW0 : W0 = w.alloc (.cells (progC vt' p (.slice x' p.code.length k')) 25)) (HS : Hid (Below w.heap.size w W0)) (KP : Hid (blk W0 w.heap.size (progC vt' p (.slice x' p.code.length k')) 25))
    (HR : Hid (∀ w1, Below w.heap.size w w1 → Calls Tryd.prog 11 #[.agg (progC vt' p (.slice x' p.code.length k')), .int .i64 k] w1 (BoolsPost w1 l))) (hl : l.length ≤ 1000000)
    (hk : (¬ (0 ≤ k ∧ k ≤ (p.code.length : Int)) ∧ r = false) ∨ ∃ m : Nat, k = m ∧ m ≤ p.code.length ∧ m < l.length ∧ l.getD m false = r) :
    Calls Tryd.prog 18 #[.agg (progC vt' p (.slice x' p.code.length k')), .int .i64 k] w (AggPost w (.bool r)) := by
  rcases hk with ⟨hk, rfl⟩ | ⟨m, rfl, hmp, hm, hr⟩
  · have HIS := Lib.hid (fun w1 => pplace_n w1 p vt' x' k' k false (decide_eq_false hk))
    clear hk
    go_enter Tryd.func18, Tryd.ntmps18
    go_upto_region 1 with (fail)
    rw [← hW0]
    clear hW0
    go_wp2_with (first
      | (refine wpList_loadB rfl 25 _ rfl w.heap.size (progC vt' p (.slice x' p.code.length k')) rfl 25 KP.out _ Tryd.underlying25 rfl prog_info ?_)
      | (go_at_call 23; ((with_reducible refine (HIS.out _).mono ?_); rintro e w1 ⟨rfl, hb⟩; have HS1 := Lib.hid (HS.out.trans (hb.mono HS.out.size)); clear hb)))
    go_ret
    exact ⟨rfl, HS1.out⟩
  · have HIS := Lib.hid (fun w1 => pplace_n w1 p vt' x' k' (m : Int) true (by simp; omega))
    have hmi : (m : Int) < (l.length : Int) := by omega
    have hm0 : (0 : Int) ≤ (m : Int) := by omega
    go_enter Tryd.func18, Tryd.ntmps18
    go_upto_region 1 with (fail)
    rw [← hW0]
    clear hW0
    have HC : Hid (∀ (w2 : World) (B : Nat) (v2 : Value), w2.ownsRow B 4 1 v2 l.length (boolsV l) → ∃ g cp, v2 = .slice (some ⟨g, 0, none⟩) l.length cp ∧ w2.cell? ⟨g, m, none⟩ = some (.bool r)) := Lib.hid (by
      intro w2 B v2 ho
      rcases ho.2 with ⟨hv, hz⟩ | ⟨g, cp, cr, hv, hbz, hg, h3, h4, h5, h6⟩
      · omega
      · refine ⟨g, cp, hv, ?_⟩
        have e : (boolsV l)[m]? = some (.bool r) := by
          have e1 : l[m]? = some (l.getD m false) := by rw [List.getD_eq_getElem?_getD, List.getElem?_eq_getElem hm]; rfl
          rw [List.getElem?_map, e1, hr]; rfl
        rw [Nat.mul_one] at h6
        rw [← h6, List.getElem?_take, if_pos hm] at e
        refine blk_cell hg m _ ?_
        rw [← Array.getElem?_toList]; exact e)
    clear hr
    go_wp2_with (first
      | (refine wpList_loadB rfl 25 _ rfl w.heap.size (progC vt' p (.slice x' p.code.length k')) rfl 25 KP.out _ Tryd.underlying25 rfl prog_info ?_)
      | (refine wpList_loadBw (by rfl) 25 _ rfl w.heap.size (progC vt' p (.slice x' p.code.length k')) rfl 25 KP1.out _ Tryd.underlying25 rfl prog_info ?_)
      | (go_at_call 23; ((with_reducible refine (HIS.out _).mono ?_); rintro e w1 ⟨rfl, hb⟩; have HS1 := Lib.hid (HS.out.trans (hb.mono HS.out.size)); have KP1 := Lib.hid (blk_below KP.out hb); clear hb))
      | (go_at_call 11; refine (HR.out _ HS1.out).mono ?_; rintro e1 w2 ⟨v2, rfl, ho, hb⟩; have HB := Lib.hid (HS1.out.trans (hb.mono HS1.out.size)); obtain ⟨g, cp, hv, cm⟩ := HC.out _ _ _ ho; subst hv; clear ho hb))
    go_ret
    exact ⟨rfl, HB.out⟩
theorem ploops_n (v : Value) (p : PProg) (w : World) (k : Int) (r : Bool) (h : ProgAt w v p) (hin : InP p) (hlen : p.code.length ≤ 200) (hr : loopV p k = r) : Calls Tryd.prog 18 #[v, .int .i64 k] w (AggPost w (.bool r)) := by
  obtain ⟨vt', vc, rfl, htl, hc⟩ := id h
  obtain ⟨x', kx', rfl, -, -, -⟩ := id hc
  have hwb : Below w.heap.size w (w.alloc (.cells (progC vt' p (.slice x' p.code.length kx')) 25)) := (Below.refl _ _).alloc (Nat.le_refl _) _
  have hl : (wayV p k).length ≤ 1000000 := by
    by_cases hk : 0 ≤ k ∧ k ≤ p.code.length
    · rw [wayV_len hk]; omega
    · unfold wayV; rw [if_neg hk]; simp
  refine ploops_at w _ p vt' x' kx' k (wayV p k) r rfl (Lib.hid hwb) (Lib.hid (blk_new _ _ _)) (Lib.hid fun w1 hb1 => preach_n _ p w1 k (h.below hb1) hin hlen) hl ?_
  unfold loopV at hr
  by_cases hk : 0 ≤ k ∧ k ≤ (p.code.length : Int)
  · exact .inr ⟨k.toNat, by omega, by omega, by rw [wayV_len hk]; omega, by rw [← hr]; simp [hk.1]⟩
  · have : wayV p k = [] := by unfold wayV; rw [if_neg hk]
    exact .inl ⟨hk, by rw [← hr, this]; simp⟩

theorem fnext_n (v : Value) (p : PProg) (w : World) (k : Int) (h : ProgAt w v p) (_hs : OkP p) (hin : InP p) (hlen : p.code.length ≤ 200) : Calls Tryd.prog 14 #[v, .int .i64 k] w (RowAPost w (nextV p k)) :=
  (pnext_n v p w k h hin (by omega)).mono fun e w' ⟨v', h1, h2, h3⟩ => ⟨v', h1, RowAt.of_own h2, h3⟩
theorem fsafe_n (v : Value) (p : PProg) (w : World) (k : Int) (r : Bool) (h : ProgAt w v p) (_hs : OkP p) (_hin : InP p) (_hlen : p.code.length ≤ 200) (hr : safeV p k = r) : Calls Tryd.prog 16 #[v, .int .i64 k] w (AggPost w (.bool r)) := psafe_n v p w k r h hr
theorem freach_n (v : Value) (p : PProg) (w : World) (k : Int) (h : ProgAt w v p) (_hs : OkP p) (hin : InP p) (hlen : p.code.length ≤ 200) : Calls Tryd.prog 11 #[v, .int .i64 k] w (BoolsAPost w (wayV p k)) :=
  (preach_n v p w k h hin hlen).mono fun e w' ⟨v', h1, h2, h3⟩ => ⟨v', h1, RowAt.of_own h2, h3⟩
theorem floops_n (v : Value) (p : PProg) (w : World) (k : Int) (r : Bool) (h : ProgAt w v p) (_hs : OkP p) (hin : InP p) (hlen : p.code.length ≤ 200) (hr : loopV p k = r) : Calls Tryd.prog 18 #[v, .int .i64 k] w (AggPost w (.bool r)) := ploops_n v p w k r h hin hlen hr
end Go.Proofs.YtcenjphpdgadmaaDoor
