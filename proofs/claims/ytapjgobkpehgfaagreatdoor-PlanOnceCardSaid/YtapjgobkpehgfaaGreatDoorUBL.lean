/-
  The program's Reach and Loops.
  The program's flow: contracts.
  The program's plan: Best, None, Fits and Saved do what they are to do.
  Layer 12: the contract of alive: answers that the document fixes.
-/
import Derived.Test.YtapjgobkpehgfaaGreatDoorUBI
import Derived.Deep.LoopGhost
import Derived.Test.YtapjgobkpehgfaaGreatDoorPLPrgA
import Derived.Test.YtapjgobkpehgfaaGreatDoorJProg
import Derived.Test.YtapjgobkpehgfaaGreatDoorUProg
import Derived.Test.YtapjgobkpehgfaaGreatDoorUBK
import Derived.Deep.RegionHeld3
import Derived.Deep.QuietTactic

/- The program's Reach and Loops. -/
namespace Go.Proofs.YtapjgobkpehgfaaGreatDoor
set_option linter.unusedSimpArgs false
set_option linter.unusedVariables false
open Go.RowKit

/-- 'append(xs, news...)': xs a row of the call's own, the other one any row of its own. -/
theorem wpList_append_ints {w : World} {ops : Array Oper} {rest : List Oper} {o : Oper} {a : Act} {Q : Exit → Act → World → Prop} (hw : Region.wanted o (yielded ops a.tmps) = true) (s x : Operand)
    (ho : o.op = .call { callee := .builtin .append, args := #[s, x], argTypes := #[95, 95] }) (base : Nat) (v : Value) (xs news : List Int) (hs : a.eval s = v) (hown : w.ownsRow base 3 1 v xs.length (i64s xs))
    (u : Value) (base' : Nat) (hx : a.eval x = u) (hsrc : w.ownsRow base' 3 1 u news.length (i64s news)) (h63 : xs.length + news.length ≤ 1000000) (hbase : base ≤ w.heap.size)
    (h : ∀ v' w', w'.ownsRow base 3 1 v' (xs ++ news).length (i64s (xs ++ news)) → Below base w w' → wpList Tryz.prog ops Q rest (a.put o.dst v') w') : wpList Tryz.prog ops Q (o :: rest) a w := by
  obtain ⟨i0, hi0, hz0, hz1, hz2⟩ := info_parts infoZ
  have hsrc' := hsrc
  rcases hsrc.2 with ⟨rfl, h0⟩ | ⟨g, cap, cur, rfl, hb, hg, h3, h4, h5, h6⟩
  · have hn : news = [] := List.length_eq_zero_iff.1 h0
    subst hn
    refine BigFrame.wpList_want hw fun K hK => ?_
    have hrun := run_append_owned_none (P := Tryz.prog) (w := w) base 95 o.type 3 i0 1 Tryz.underlying95 hi0 v xs.length (i64s xs) hown
    unfold Oper.wp
    simp [execOp, ho, resolve, invoke, builtin, hs, hx, hrun, Result.andThen]
    exact hK _ _ (h v w (by simpa using hown) (Below.refl _ _))
  · have hra := RowAt.of_own hsrc'
    refine BigFrame.wpList_want hw fun K hK => wp_append_own w s x 95 ho base 3 i0 (.int .i64 0) 1 8 Tryz.underlying95 hi0 hz0 hz1 hz2 rfl (by decide) v xs.length (i64s xs) hs hown ⟨g, 0, none⟩ news.length cap (i64s news) hx (by simp) ?_ (by intro u hu; simp [i64s] at hu; obtain ⟨y, -, rfl⟩ := hu; rfl) (by unfold maxLen; omega) (by omega) hbase ?_
    · intro j u hu
      obtain ⟨a', c', e1, _, _, e2⟩ := hra
      rcases e2 with e2 | ⟨b, o', rfl, _, hc⟩
      · rw [e2] at hu; simp at hu
      · simp only [Value.slice.injEq, Option.some.injEq, Addr.mk.injEq] at e1
        obtain ⟨⟨rfl, rfl, -⟩, -⟩ := e1
        have h9 := hc j u hu
        rw [Nat.zero_add] at h9
        rcases j with _ | j <;> simpa [Addr.add] using h9
    · intro v' w' h1 h2 _
      refine hK _ _ (h v' w' (by simpa [i64s] using h1) ((Below.refl _ _).grown h2 hbase (fun k hk => ?_)))
      rcases hown.2 with ⟨rfl, _⟩ | ⟨g', cap', cur', rfl, hg', _⟩
      · simp [Value.ownBlock] at hk
      · simp [Value.ownBlock] at hk; omega
/-- Its first elements. -/
theorem own_first {w : World} {B : Nat} {g c n m : Nat} {xs ys : List Int} (h : w.ownsRow B 3 1 (.slice (some ⟨g, 0, none⟩) n c) n (i64s (xs ++ ys))) (hm : m = xs.length) : w.ownsRow B 3 1 (.slice (some ⟨g, 0, none⟩) m c) m (i64s xs) := by
  subst hm
  obtain ⟨h1, h2⟩ := h
  rcases h2 with ⟨h0, _⟩ | ⟨g', cap, cur, hv, hb, hg, h3, h4, h5, h6⟩
  · cases h0
  cases hv
  have hn : n = xs.length + ys.length := by simp [i64s] at h1; omega
  refine ⟨by simp, .inr ⟨g, c, cur, rfl, hb, hg, by omega, h4, h5, ?_⟩⟩
  rw [Nat.mul_one] at h6 ⊢
  have : xs.length = min xs.length n := by omega
  rw [this, ← List.take_take, h6]
  simp [i64s]
/-- The world in Reach, with the places yet to be seen. -/
abbrev natsV (l : List Nat) : List Int := l.map (fun n : Nat => (n : Int))
structure RkW (w wr : World) (H B : Nat) (C : Array Value) (had : List Bool) (v : Value) (op : List Nat) : Prop where
  rc : RcW w wr H C had
  own : wr.ownsRow B 3 1 v op.length (i64s (natsV op))
  hB : H < B
  hs : B ≤ wr.heap.size
theorem last_or {op : List Nat} (h : 0 < op.length) : ∃ xs m, op = xs ++ [m] := by
  rcases List.eq_nil_or_concat op with rfl | ⟨xs, m, rfl⟩
  · simp at h
  · exact ⟨xs, m, by simp⟩
theorem natsV_last {xs : List Nat} {m : Nat} : (i64s (natsV (xs ++ [m])))[xs.length]? = some (.int .i64 (m : Int)) := by simp [i64s]
set_option maxRecDepth 100000 in
set_option maxHeartbeats 8000000 in
theorem preach_at (w W0 : World) (p : PProg) (vt' : Value) (x' : Option Addr) (k' : Nat) (a : Nat)
    (hW0 : W0 = w.alloc (.cells (progC vt' p (.slice x' p.code.length k')) 25)) (HS : Hid (Below w.heap.size w W0)) (KP : Hid (blk W0 w.heap.size (progC vt' p (.slice x' p.code.length k')) 25))
    (ha : a ≤ p.code.length) (hlen : p.code.length ≤ 200) (hin : Hid (InP p))
    (HN : Hid (∀ (w1 : World) (k : Nat), Below w.heap.size w w1 → Calls Tryz.prog 61 #[.agg (progC vt' p (.slice x' p.code.length k')), .int .i64 k] w1 (RowPost w1 (nextV p k)))) :
    Calls Tryz.prog 63 #[.agg (progC vt' p (.slice x' p.code.length k')), .int .i64 a] w (BoolsPost w (wayL p a)) := by
  have hmk : ∀ w, (Instr.makeSlice 68 (.int .i64 ((p.code.length : Int) + 1)) (.int .i64 ((p.code.length : Int) + 1))).run Tryz.prog w = .ok (.slice (some ⟨w.heap.size, 0, none⟩) (p.code.length + 1) (p.code.length + 1)) (w.alloc (.cells (madeCells #[.bool false] (p.code.length + 1)) 4)) := fun w => run_make_row' _ _ _ _ Tryz.underlying68 infoBool rfl _ _ (p.code.length + 1) (by omega) (by omega) w
  have HPL := Lib.hid (fun w1 => pplace_n w1 p vt' x' k' (a : Int) true (by simp; omega))
  go_enter Tryz.func63, Tryz.ntmps63
  go_upto_region 1 with (fail)
  rw [← hW0]
  clear hW0
  go_upto_region 3 with (first
    | (refine wpList_loadB rfl 25 _ rfl w.heap.size (progC vt' p (.slice x' p.code.length k')) rfl 25 KP.out _ Tryz.underlying25 rfl prog_info ?_)
    | (go_at_call 62; ((with_reducible refine (HPL.out _).mono ?_); rintro e w1 ⟨rfl, hb⟩; have HS1 := Lib.hid (HS.out.trans (hb.mono HS.out.size)); have KP1 := Lib.hid (blk_below KP.out hb); clear hb HS KP HPL)))
  have p3 : w1.cell? ⟨w.heap.size, 3, none⟩ = some (.slice x' p.code.length k') := blk_cell KP1.out 3 _ rfl
  go_upto_region 4 with (fail)
  rw [bArr_zeros]
  have HW0 : Hid (RcW w (w1.alloc (.cells (bArr (List.replicate (p.code.length + 1) false)) 4)) w1.heap.size (progC vt' p (.slice x' p.code.length k')) (List.replicate (p.code.length + 1) false)) := Lib.hid
    ⟨HS1.out.trans (((Below.refl _ _).alloc (Nat.le_refl _) _).mono HS1.out.size), blk_alloc KP1.out _, blk_new _ _ _, blk_lt KP1.out⟩
  have HBH : Hid (w1.heap.size < (w1.alloc (.cells (bArr (List.replicate (p.code.length + 1) false)) 4)).heap.size) := Lib.hid (by simp)
  obtain ⟨H, hH⟩ : ∃ H, H = w1.heap.size := ⟨_, rfl⟩
  obtain ⟨wb, hwb⟩ : ∃ wb, wb = w1.alloc (.cells (bArr (List.replicate (p.code.length + 1) false)) 4) := ⟨_, rfl⟩
  rw [← hwb] at HW0 HBH ⊢
  rw [← hH] at HW0 HBH ⊢
  clear hwb hH p3 hmk KP1 HS1
  obtain ⟨B, hB⟩ : ∃ B, B = wb.heap.size := ⟨_, rfl⟩
  go_upto_region 5 with (first
    | (refine wpList_loadB rfl 25 _ rfl w.heap.size (progC vt' p (.slice x' p.code.length k')) rfl 25 HW0.out.prog _ Tryz.underlying25 rfl prog_info ?_)
    | (go_at_call 61; refine (HN.out _ a HW0.out.below).mono ?_; rintro e1 w5 ⟨v6, rfl, ho, hb⟩; have HW5 := Lib.hid (HW0.out.next hb); have HO5 := Lib.hid ho; have HS5 := Lib.hid hb.size; clear ho hb))
  have HK0 : Hid (RkW w w5 H B (progC vt' p (.slice x' p.code.length k')) (List.replicate (p.code.length + 1) false) v6 (nextL p a)) := Lib.hid (by
    have h1 := HO5.out
    rw [← hB, nextL_cast, List.length_map] at h1
    exact ⟨HW5.out, h1, by rw [hB]; exact HBH.out, by rw [hB]; exact HS5.out⟩)
  have HT0 := Lib.hid (StkAt.start (q := p) a)
  clear hB HO5 HS5 HW5 HBH HW0
  go_wp2_with (fail)
  go_loopg [6] (3 * (p.code.length + 1) + 2) (fun gk v6 wr => ∃ (had : List Bool) (op : List Nat), Hid (RkW w wr H B (progC vt' p (.slice x' p.code.length k')) had v6 op) ∧ Hid (StkAt p a had op) ∧ Hid (3 * (p.code.length + 1 - cnt had) + op.length ≤ gk))
  case atStart => exact ⟨_, _, HK0, HT0, Lib.hid HT0.out.few⟩
  case round =>
    obtain ⟨had, op, HW, HT, HG⟩ := hrel
    clear HK0 HT0
    obtain ⟨ad, cap, hv, hc1, hc2⟩ := own_form HW.out.own
    subst hv
    by_cases hop : 0 < op.length
    · obtain ⟨xs, m, rfl⟩ := last_or hop
      obtain ⟨g, hg⟩ : ∃ g, ad = some ⟨g, 0, none⟩ := by
        rcases ownsRow_forms HW.out.own with ⟨-, h0⟩ | ⟨g, c, h0⟩
        · omega
        · exact ⟨g, by cases h0; rfl⟩
      subst hg
      have hL : (xs ++ [m]).length = xs.length + 1 := by simp
      have HO := Lib.hid HW.out.own
      rw [hL] at HO hc1 hop ⊢
      have hml := (HT.out.way m (by simp)).le hin.out
      have hfew := HT.out.few
      rw [hL] at hfew
      have cm : wr.cell? ⟨g, xs.length, none⟩ = some (.int .i64 (m : Int)) := by
        rw [HO.out.cellAt xs.length (by omega)]; exact natsV_last
      have hxc : (xs.length : Int) ≤ (cap : Int) := by omega
      have hxb : (xs.length : Int) ≤ 1000 := by omega
      have hx0 : (0 : Int) ≤ (xs.length : Int) := by omega
      go_upto_region 9 with (fail)
      have hmi : (m : Int) < (p.code.length : Int) + 1 := by omega
      have hm0 : (0 : Int) ≤ (m : Int) := by omega
      have ch : wr.cell? ⟨H, m, none⟩ = some (.bool (had.getD m false)) := blk_cell HW.out.rc.hd m _ (bArr_get (by have := HT.out.len; omega))
      have fh := blk_frozen HW.out.rc.hd m
      have hmap : natsV (xs ++ [m]) = natsV xs ++ natsV [m] := by simp [natsV]
      rcases hb : had.getD m false with _ | _
      · rw [hb] at ch
        have hnew := HT.out.new hin.out hb
        rw [hL] at hnew
        have HT2 := Lib.hid hnew.1
        have HM2 := Lib.hid hnew.2
        have HW2 := Lib.hid (HW.out.rc.mark m)
        have HX2 : Hid ((wr.setCell ⟨H, m, none⟩ (.bool true)).ownsRow B 3 1 (.slice (some ⟨g, 0, none⟩) xs.length cap) (natsV xs).length (i64s (natsV xs))) := Lib.hid (by
          have h1 := HO.out
          rw [hmap] at h1
          have h2 := own_first (m := xs.length) h1 (by simp)
          rw [setCell_putB HW.out.rc.hd, show (natsV xs).length = xs.length by simp]
          exact own_same h2 (fun g' hg' _ => putB_ne wr (own_ne h2 HW.out.rc.hd (by decide) g' hg') _ _))
        have HS2 : Hid (B ≤ (wr.setCell ⟨H, m, none⟩ (.bool true)).heap.size ∧ H < B) := Lib.hid ⟨by simpa using HW.out.hs, HW.out.hB⟩
        clear hnew hb hmap cm
        have HG2 : Hid (3 * (p.code.length + 1 - cnt had) + (xs.length + 1) ≤ gk) := Lib.hid (by have := HG.out; rw [hL] at this; exact this)
        clear HT HG HO HW hL
        go_upto_region 11 with (fail)
        obtain ⟨w2, hw2⟩ : ∃ w2, w2 = wr.setCell ⟨H, m, none⟩ (.bool true) := ⟨_, rfl⟩
        rw [← hw2] at HW2 HX2 HS2 ⊢
        clear hw2 ch fh
        go_wp2_with (first
          | (refine wpList_loadB rfl 25 _ rfl w.heap.size (progC vt' p (.slice x' p.code.length k')) rfl 25 HW2.out.prog _ Tryz.underlying25 rfl prog_info ?_)
          | (go_at_call 61; refine (HN.out _ m HW2.out.below).mono ?_; rintro e1 w6 ⟨v8, rfl, ho, hb⟩; have HW6 := Lib.hid (HW2.out.next hb); have HX6 := Lib.hid (own_below HX2.out hb); have HO6 := Lib.hid ho; have HS6 : Hid (B ≤ w6.heap.size) := Lib.hid (Nat.le_trans HS2.out.1 hb.size); have hnl : (natsV xs).length + (nextV p (m : Int)).length ≤ 1000000 := (by rw [nextL_cast, List.length_map, List.length_map]; have := (next_sorted (q := p) m).1; omega); clear ho hb)
          | (at_builtin; go_loud (refine wpList_append_ints (by rfl) _ _ rfl B _ (natsV xs) (nextV p (m : Int)) rfl HX6.out _ _ rfl HO6.out hnl HS6.out ?_)))
        intro v9 w9 ho hb9
        have HK9 : Hid (RkW w w9 H B (progC vt' p (.slice x' p.code.length k')) (markK had m) v9 (xs ++ nextL p m)) := Lib.hid (by
          have h1 : w9.ownsRow B 3 1 v9 (xs ++ nextL p m).length (i64s (natsV (xs ++ nextL p m))) := by
            have h0 := ho
            rw [nextL_cast] at h0
            simpa [i64s, natsV, Function.comp_def] using h0
          have hH := HW6.out.hH
          have hHB := HS2.out.2
          exact ⟨⟨HW6.out.below.trans (hb9.mono (by omega)), by have := HW6.out.prog; unfold blk at this ⊢; rw [hb9.block _ (by omega)]; exact this, by have := HW6.out.hd; unfold blk at this ⊢; rw [hb9.block _ hHB]; exact this, hH⟩, h1, hHB, Nat.le_trans HS6.out hb9.size⟩)
        clear ho hb9 HW2 HX2 HX6 HO6 HW6 HS6
        go_wp2
        go_roundg (gk - 1)
        case measure => have := HG2.out; omega
        case rel => exact ⟨_, _, HK9, HT2, Lib.hid (by have := HG2.out; have := HM2.out; omega)⟩
      · rw [hb] at ch
        have HT2 := Lib.hid (HT.out.known hb)
        have HW2 : Hid (RkW w wr H B (progC vt' p (.slice x' p.code.length k')) had (.slice (some ⟨g, 0, none⟩) xs.length cap) xs) := Lib.hid ⟨HW.out.rc, by
          have h1 := HO.out
          rw [hmap] at h1
          exact own_first h1 (by simp), HW.out.hB, HW.out.hs⟩
        have HG2 : Hid (3 * (p.code.length + 1 - cnt had) + (xs.length + 1) ≤ gk) := Lib.hid (by have := HG.out; rw [hL] at this; exact this)
        clear hb hmap cm HT HG HO HW hL
        go_wp2
        go_roundg (gk - 1)
        case measure => have := HG2.out; omega
        case rel => exact ⟨_, _, HW2, HT2, Lib.hid (by have := HG2.out; omega)⟩
    · have he : op = [] := List.length_eq_zero_iff.1 (by omega)
      subst he
      have HE := Lib.hid (HT.out.done hin.out ha)
      have HP : Hid (BoolsPost w (wayL p a) (.returned (.slice (some ⟨H, 0, none⟩) (p.code.length + 1) (p.code.length + 1))) wr) := Lib.hid (by
        have h1 := HW.out.rc.post (by have := HT.out.len; omega)
        rw [HT.out.len, HE.out] at h1
        exact h1)
      clear HW HT HE HG
      go_wp2
      go_ret
      exact HP.out
end Go.Proofs.YtapjgobkpehgfaaGreatDoor

/- The program's flow: contracts. -/
namespace Go.Proofs.YtapjgobkpehgfaaGreatDoor
set_option linter.unusedSimpArgs false
set_option linter.unusedVariables false
open Go.RowKit

set_option maxRecDepth 100000 in
set_option maxHeartbeats 4000000 in
theorem preach_bad (w W0 : World) (p : PProg) (vt' : Value) (x' : Option Addr) (k' : Nat) (k : Int)
    (hW0 : W0 = w.alloc (.cells (progC vt' p (.slice x' p.code.length k')) 25)) (HS : Hid (Below w.heap.size w W0)) (KP : Hid (blk W0 w.heap.size (progC vt' p (.slice x' p.code.length k')) 25))
    (hk : ¬ (0 ≤ k ∧ k ≤ (p.code.length : Int))) :
    Calls Tryz.prog 63 #[.agg (progC vt' p (.slice x' p.code.length k')), .int .i64 k] w (BoolsPost w []) := by
  have HIS := Lib.hid (fun w1 => pplace_n w1 p vt' x' k' k false (decide_eq_false hk))
  go_enter Tryz.func63, Tryz.ntmps63
  go_upto_region 1 with (fail)
  rw [← hW0]
  clear hW0
  go_wp2_with (first
    | (refine wpList_loadB rfl 25 _ rfl w.heap.size (progC vt' p (.slice x' p.code.length k')) rfl 25 KP.out _ Tryz.underlying25 rfl prog_info ?_)
    | (go_at_call 62; ((with_reducible refine (HIS.out _).mono ?_); rintro e w1 ⟨rfl, hb⟩; have HS1 := Lib.hid (HS.out.trans (hb.mono HS.out.size)); clear hb)))
  go_ret
  exact ⟨_, rfl, World.ownsRow_nil _ _ _ _, HS1.out⟩
theorem preach_n (v : Value) (p : PProg) (w : World) (k : Int) (h : ProgAt w v p) (hin : InP p) (hlen : p.code.length ≤ 200) : Calls Tryz.prog 63 #[v, .int .i64 k] w (BoolsPost w (wayV p k)) := by
  obtain ⟨vt', vc, rfl, htl, hc⟩ := id h
  obtain ⟨x', kx', rfl, g1, g2, g3⟩ := id hc
  have hwb : Below w.heap.size w (w.alloc (.cells (progC vt' p (.slice x' p.code.length kx')) 25)) := (Below.refl _ _).alloc (Nat.le_refl _) _
  by_cases hk : 0 ≤ k ∧ k ≤ p.code.length
  · unfold wayV
    rw [if_pos hk]
    obtain ⟨m, rfl⟩ : ∃ m : Nat, k = m := ⟨k.toNat, by omega⟩
    rw [Int.toNat_natCast]
    exact preach_at w _ p vt' x' kx' m rfl (Lib.hid hwb) (Lib.hid (blk_new _ _ _)) (by omega) hlen (Lib.hid hin) (Lib.hid fun w1 k1 hb1 => pnext_n _ p w1 k1 (h.below hb1) hin (by omega))
  · unfold wayV
    rw [if_neg hk]
    exact preach_bad w _ p vt' x' kx' k rfl (Lib.hid hwb) (Lib.hid (blk_new _ _ _)) hk
set_option maxRecDepth 100000 in
set_option maxHeartbeats 4000000 in
theorem ploops_at (w W0 : World) (p : PProg) (vt' : Value) (x' : Option Addr) (k' : Nat) (k : Int) (l : List Bool) (r : Bool)
    (hW0 : W0 = w.alloc (.cells (progC vt' p (.slice x' p.code.length k')) 25)) (HS : Hid (Below w.heap.size w W0)) (KP : Hid (blk W0 w.heap.size (progC vt' p (.slice x' p.code.length k')) 25))
    (HR : Hid (∀ w1, Below w.heap.size w w1 → Calls Tryz.prog 63 #[.agg (progC vt' p (.slice x' p.code.length k')), .int .i64 k] w1 (BoolsPost w1 l))) (hl : l.length ≤ 1000000)
    (hk : (¬ (0 ≤ k ∧ k ≤ (p.code.length : Int)) ∧ r = false) ∨ ∃ m : Nat, k = m ∧ m ≤ p.code.length ∧ m < l.length ∧ l.getD m false = r) :
    Calls Tryz.prog 36 #[.agg (progC vt' p (.slice x' p.code.length k')), .int .i64 k] w (AggPost w (.bool r)) := by
  rcases hk with ⟨hk, rfl⟩ | ⟨m, rfl, hmp, hm, hr⟩
  · have HIS := Lib.hid (fun w1 => pplace_n w1 p vt' x' k' k false (decide_eq_false hk))
    clear hk
    go_enter Tryz.func36, Tryz.ntmps36
    go_upto_region 1 with (fail)
    rw [← hW0]
    clear hW0
    go_wp2_with (first
      | (refine wpList_loadB rfl 25 _ rfl w.heap.size (progC vt' p (.slice x' p.code.length k')) rfl 25 KP.out _ Tryz.underlying25 rfl prog_info ?_)
      | (go_at_call 62; ((with_reducible refine (HIS.out _).mono ?_); rintro e w1 ⟨rfl, hb⟩; have HS1 := Lib.hid (HS.out.trans (hb.mono HS.out.size)); clear hb)))
    go_ret
    exact ⟨rfl, HS1.out⟩
  · have HIS := Lib.hid (fun w1 => pplace_n w1 p vt' x' k' (m : Int) true (by simp; omega))
    have hmi : (m : Int) < (l.length : Int) := by omega
    have hm0 : (0 : Int) ≤ (m : Int) := by omega
    go_enter Tryz.func36, Tryz.ntmps36
    go_upto_region 1 with (fail)
    rw [← hW0]
    clear hW0
    have HC : Hid (∀ (w2 : World) (B : Nat) (v2 : Value), w2.ownsRow B 4 1 v2 l.length (boolsV l) → ∃ g cp, v2 = .slice (some ⟨g, 0, none⟩) l.length cp ∧ w2.cell? ⟨g, m, none⟩ = some (.bool r)) := Lib.hid (by
      intro w2 B v2 ho
      rcases ho.2 with ⟨hv, hz⟩ | ⟨g, cp, cr, hv, hbz, hg, h3, h4, h5, h6⟩
      · omega
      · refine ⟨g, cp, hv, ?_⟩
        have e : (boolsV l)[m]? = some (.bool r) := by
          have e1 : l[m]? = some (l.getD m false) := by rw [List.getD_eq_getElem?_getD, List.getElem?_eq_getElem hm]; rfl
          rw [List.getElem?_map, e1, hr]; rfl
        rw [Nat.mul_one] at h6
        rw [← h6, List.getElem?_take, if_pos hm] at e
        refine blk_cell hg m _ ?_
        rw [← Array.getElem?_toList]; exact e)
    clear hr
    go_wp2_with (first
      | (refine wpList_loadB rfl 25 _ rfl w.heap.size (progC vt' p (.slice x' p.code.length k')) rfl 25 KP.out _ Tryz.underlying25 rfl prog_info ?_)
      | (refine wpList_loadBw (by rfl) 25 _ rfl w.heap.size (progC vt' p (.slice x' p.code.length k')) rfl 25 KP1.out _ Tryz.underlying25 rfl prog_info ?_)
      | (go_at_call 62; ((with_reducible refine (HIS.out _).mono ?_); rintro e w1 ⟨rfl, hb⟩; have HS1 := Lib.hid (HS.out.trans (hb.mono HS.out.size)); have KP1 := Lib.hid (blk_below KP.out hb); clear hb))
      | (go_at_call 63; refine (HR.out _ HS1.out).mono ?_; rintro e1 w2 ⟨v2, rfl, ho, hb⟩; have HB := Lib.hid (HS1.out.trans (hb.mono HS1.out.size)); obtain ⟨g, cp, hv, cm⟩ := HC.out _ _ _ ho; subst hv; clear ho hb))
    go_ret
    exact ⟨rfl, HB.out⟩
theorem ploops_n (v : Value) (p : PProg) (w : World) (k : Int) (r : Bool) (h : ProgAt w v p) (hin : InP p) (hlen : p.code.length ≤ 200) (hr : loopV p k = r) : Calls Tryz.prog 36 #[v, .int .i64 k] w (AggPost w (.bool r)) := by
  obtain ⟨vt', vc, rfl, htl, hc⟩ := id h
  obtain ⟨x', kx', rfl, -, -, -⟩ := id hc
  have hwb : Below w.heap.size w (w.alloc (.cells (progC vt' p (.slice x' p.code.length kx')) 25)) := (Below.refl _ _).alloc (Nat.le_refl _) _
  have hl : (wayV p k).length ≤ 1000000 := by
    by_cases hk : 0 ≤ k ∧ k ≤ p.code.length
    · rw [wayV_len hk]; omega
    · unfold wayV; rw [if_neg hk]; simp
  refine ploops_at w _ p vt' x' kx' k (wayV p k) r rfl (Lib.hid hwb) (Lib.hid (blk_new _ _ _)) (Lib.hid fun w1 hb1 => preach_n _ p w1 k (h.below hb1) hin hlen) hl ?_
  unfold loopV at hr
  by_cases hk : 0 ≤ k ∧ k ≤ (p.code.length : Int)
  · exact .inr ⟨k.toNat, by omega, by omega, by rw [wayV_len hk]; omega, by rw [← hr]; simp [hk.1]⟩
  · have : wayV p k = [] := by unfold wayV; rw [if_neg hk]
    exact .inl ⟨hk, by rw [← hr, this]; simp⟩

theorem floops_n (v : Value) (p : PProg) (w : World) (k : Int) (r : Bool) (h : ProgAt w v p) (_hs : OkP p) (hin : InP p) (hlen : p.code.length ≤ 200) (hr : loopV p k = r) : Calls Tryz.prog 36 #[v, .int .i64 k] w (AggPost w (.bool r)) := ploops_n v p w k r h hin hlen hr
end Go.Proofs.YtapjgobkpehgfaaGreatDoor

/- The program's plan: Best, None, Fits and Saved do what they are to do. -/
namespace Go.Proofs.YtapjgobkpehgfaaGreatDoor
set_option linter.unusedSimpArgs false
set_option linter.unusedVariables false
open Go.RowKit

theorem plnone_o (v : Value) (p : PProg) (w : World) (h : ProgAt w v p) (hs : OkP p) (hO : HasO w) (hc : (checkL p).2 = 0) : Calls Tryz.prog 16 #[v] w (NonePost w p) := by
  obtain ⟨vt', vc, rfl, htl, hcc⟩ := id h
  obtain ⟨x', kx', rfl, g1, g2, g3⟩ := id hcc
  obtain ⟨hh, hl1, hl2, hall, _⟩ := check_ok hc
  have e := check_none hh hl1 hl2 hall
  exact plnone_at w _ p vt' x' kx' rfl (Lib.hid ((Below.refl _ _).alloc (Nat.le_refl _) _)) (Lib.hid (blk_new _ _ _)) hl2 (Lib.hid fun w1 hb => check_n _ p (-1) 0 w1 (h.below hb) hs (hO.below hb) (by rw [e]) (by rw [e]; rfl))
theorem plnone_n (v : Value) (p : PProg) (w : World) (h : ProgAt w v p) (hs : OkP p) (hO : HasO w) (hc : (checkL p).2 = 0) : Calls Tryz.prog 16 #[v] w (FactsPost w (noneL p)) := by
  refine (plnone_o v p w h hs hO hc).mono ?_
  rintro e w' ⟨g, rfl, hg, hr, hb⟩
  exact ⟨_, rfl, none_facts (w := w) hr (check_ok hc).2.2.1, hb⟩
theorem plbest_o (v : Value) (p : PProg) (w : World) (h : ProgAt w v p) (hs : OkP p) (hO : HasO w) (hc : (checkL p).2 = 0) : Calls Tryz.prog 9 #[v] w (OwnBest w p) := by
  obtain ⟨vt', vc, rfl, htl, hcc⟩ := id h
  obtain ⟨x', kx', rfl, g1, g2, g3⟩ := id hcc
  unfold maxLen at g2
  obtain ⟨hh, hl1, hl2, hall, _⟩ := check_ok hc
  obtain ⟨bb, o, rfl, hbb, hco⟩ := prog_base h hl1
  have hin := inP_check hc
  refine plbest_at w _ p vt' bb o kx' rfl (Lib.hid ((Below.refl _ _).alloc (Nat.le_refl _) _)) (Lib.hid (blk_new _ _ _)) hl2 g1 (by omega) hbb (Lib.hid hco) (Lib.hid fun i hm h11 => ?_) (Lib.hid fun k => fresh_part.2.lt k)
    (Lib.hid fun w1 hb => plnone_o _ p w1 (h.below hb) hs (hO.below hb) hc) (Lib.hid fun w1 hb => yin_n _ p w1 (h.below hb) hs hin hl2)
    (Lib.hid fun w1 k hb hk => plonce_in w1 _ k (loopL p k) ⟨_, _, _, _, rfl⟩ (Lib.hid fun w2 hb2 => ?_)) (Lib.hid fun w1 k hb hk => ?_) (Lib.hid fun w1 k hb hk => ?_)
  · obtain ⟨_, _, _, hk⟩ := ins_parts (hall i hm)
    obtain ⟨o0, o1, a0, a1, b0, b1, c0, c1, n0, n1⟩ := hs.ins i hm
    have hl : 0 ≤ localI p i.a ∧ sameT (localI p i.b) (toP p.types (localI p i.a) i.n) = true := by unfold kindsB at hk; rw [h11] at hk; simpa using hk
    have hlt := (local_lt hh a0 hl.1).1
    have := (head_parts hh).2.2.1
    omega
  · refine floops_n _ p w2 k (loopL p k) (h.below (hb.trans (hb2.mono hb.size))) hs hin hl2 ?_
    unfold loopV wayV
    rw [if_pos ⟨by omega, by omega⟩]
    simp [loopL]
  · have h9 := jleaks_n _ p w1 k (h.below hb) hs hc
    rw [leakV_nat] at h9
    exact h9
  · have h9 := ufull_n _ p w1 k (h.below hb) hs hc
    rw [lastV_nat hk] at h9
    exact h9
theorem plbest_n (v : Value) (p : PProg) (w : World) (h : ProgAt w v p) (hs : OkP p) (hO : HasO w) (hc : (checkL p).2 = 0) : Calls Tryz.prog 9 #[v] w (FactsPost w (bestL p)) := by
  refine (plbest_o v p w h hs hO hc).mono ?_
  rintro e w' ⟨g, rfl, _, hr, hb⟩
  exact ⟨_, rfl, best_facts hr (check_ok hc).2.2.1, hb⟩
theorem plfits_n (v vl : Value) (p : PProg) (l : List PFact) (w : World) (h : ProgAt w v p) (hs : OkP p) (hO : HasO w) (hc : (checkL p).2 = 0) (hl : FactsAt w vl l) : Calls Tryz.prog 10 #[v, vl] w (AggPost w (.bool (fitsL l (bestL p)))) := by
  obtain ⟨vt', vc, rfl, htl, hcc⟩ := id h
  obtain ⟨x', kx', rfl, g1, g2, g3⟩ := id hcc
  obtain ⟨a, c, rfl, h1, h2⟩ := hl.form
  exact plfits_at w _ p vt' x' kx' a c l rfl (Lib.hid ((Below.refl _ _).alloc (Nat.le_refl _) _)) (Lib.hid (blk_new _ _ _)) (Lib.hid hl) h1 h2 (Lib.hid fun w1 hb => plbest_n _ p w1 (h.below hb) hs (hO.below hb) hc)
end Go.Proofs.YtapjgobkpehgfaaGreatDoor

/- Layer 12: the contract of alive: answers that the document fixes. -/
namespace Go.Proofs.YtapjgobkpehgfaaGreatDoor
set_option linter.unusedSimpArgs false
set_option linter.unusedVariables false
open Go.RowKit

def PLA : PProg := ⟨[[105, 48]], [48], [], [⟨5, 0, 0, 0, 0⟩, ⟨9, 0, 0, 0, 0⟩, ⟨11, 0, 0, 0, 1⟩, ⟨5, 0, 0, 0, 0⟩]⟩
theorem pla_ok : OkP PLA := ⟨by intro t ht; simp [PLA] at ht; subst ht; decide, by decide, by decide, by intro i hi; simp [PLA] at hi; rcases hi with rfl | rfl | rfl | rfl <;> (constructor <;> decide)⟩
theorem pla_check : (checkL PLA).2 = 0 := by kernel_rfl
theorem pla_leak {k : Nat} (h : k = 0 ∨ k = 3) : leakB PLA k = true := leakB_iff.2 ⟨⟨11, 0, 0, 0, 1⟩, by simp [PLA], .inl rfl, by
  rcases h with rfl | rfl
  · exact .new (i := ⟨5, 0, 0, 0, 0⟩) rfl rfl
  · exact .new (i := ⟨5, 0, 0, 0, 0⟩) rfl rfl⟩
theorem pla_l0 : lastL PLA 0 = 2 := by kernel_rfl
theorem pla_l3 : lastL PLA 3 = -1 := by kernel_rfl
theorem pla_fresh : freshL PLA = [255, 1, 1, 1, 1] := by kernel_rfl
theorem pla_b0 : bestK PLA 0 = ⟨false, true, false⟩ := by
  show bestI PLA 0 ⟨5, 0, 0, 0, 0⟩ = _
  unfold bestI; rw [pla_leak (.inl rfl), pla_l0]; rfl
theorem pla_b1 : bestK PLA 1 = noFact := rfl
theorem pla_b2 : bestK PLA 2 = ⟨false, false, true⟩ := by
  show bestI PLA 2 ⟨11, 0, 0, 0, 1⟩ = _
  unfold bestI; rw [pla_fresh]; rfl
theorem pla_b3 : bestK PLA 3 = noFact := by
  show bestI PLA 3 ⟨5, 0, 0, 0, 0⟩ = _
  unfold bestI; rw [pla_leak (.inr rfl), pla_l3]; rfl
theorem pla_best : bestL PLA = [⟨false, true, false⟩, noFact, ⟨false, false, true⟩, noFact] := by
  show [bestK PLA 0, bestK PLA 1, bestK PLA 2, bestK PLA 3] = _
  rw [pla_b0, pla_b1, pla_b2, pla_b3]
theorem pla_none : noneL PLA = [noFact, noFact, noFact, noFact] := rfl
abbrev plaC : Array Value := #[.int .u8 5, .int .u8 0, .int .u8 0, .int .u8 0, .int .i64 0, .int .u8 9, .int .u8 0, .int .u8 0, .int .u8 0, .int .i64 0, .int .u8 11, .int .u8 0, .int .u8 0, .int .u8 0, .int .i64 1, .int .u8 5, .int .u8 0, .int .u8 0, .int .u8 0, .int .i64 0]
abbrev plaV (w : World) : Array Value := progC (.slice (some ⟨w.heap.size, 0, none⟩) 1 1) PLA (.slice (some ⟨w.heap.size + 1, 0, none⟩) 4 4)
set_option maxRecDepth 100000 in
set_option maxHeartbeats 8000000 in
theorem plalive_at (w W0 : World) (hW0 : W0 = ((w.alloc (.cells #[.string ⟨#[105, 48]⟩] 9)).alloc (.cells plaC 46)).alloc (.cells #[(.slice (some ⟨w.heap.size, 0, none⟩) 1 1), .string ⟨#[48]⟩, .string ⟨#[]⟩, (.slice (some ⟨w.heap.size + 1, 0, none⟩) 4 4)] 25))
    (KP : Hid (Keep W0 (w.heap.size + 1 + 1) (.slice (some ⟨w.heap.size, 0, none⟩) 1 1) (.slice (some ⟨w.heap.size + 1, 0, none⟩) 4 4) PLA)) (HB : Hid (Below w.heap.size w W0)) (HO : Hid (HasO w)) :
    Calls Tryz.prog 7 #[] w (AggPost w (.bool true)) := by
  have HF1 : Hid (∀ w1 vl, Below w.heap.size w w1 → ProgAt w1 (.agg (plaV w)) PLA → FactsAt w1 vl [noFact, noFact, noFact, noFact] → Calls Tryz.prog 10 #[.agg #[.slice (some ⟨w.heap.size, 0, none⟩) 1 1, .string ⟨#[48]⟩, .string ⟨#[]⟩, .slice (some ⟨w.heap.size + 1, 0, none⟩) 4 4], vl] w1 (AggPost w1 (.bool true))) := Lib.hid fun w1 vl hb h1 hl => by
    have h := plfits_n (.agg (plaV w)) vl PLA _ w1 h1 pla_ok (HO.out.below hb) pla_check hl
    rw [pla_best] at h; exact h
  have HF2 : Hid (∀ w1, Below w.heap.size w w1 → ProgAt w1 (.agg (plaV w)) PLA → Calls Tryz.prog 10 #[.agg #[.slice (some ⟨w.heap.size, 0, none⟩) 1 1, .string ⟨#[48]⟩, .string ⟨#[]⟩, .slice (some ⟨w.heap.size + 1, 0, none⟩) 4 4], .slice none 0 0] w1 (AggPost w1 (.bool false))) := Lib.hid fun w1 hb h1 => by
    have h := plfits_n (.agg (plaV w)) _ PLA _ w1 h1 pla_ok (HO.out.below hb) pla_check (rowS_nil w1)
    rw [pla_best] at h; exact h
  have HSV : Hid (∀ w1 vl, FactsAt w1 vl [⟨false, true, false⟩, noFact, ⟨false, false, true⟩, noFact] → Calls Tryz.prog 15 #[vl] w1 (AggPost w1 (.tuple #[.int .i64 0, .int .i64 1, .int .i64 1]))) := Lib.hid fun w1 vl hl => by
    have h := plsaved_n vl _ w1 hl
    rw [show savedV [⟨false, true, false⟩, noFact, ⟨false, false, true⟩, noFact] = .tuple #[.int .i64 0, .int .i64 1, .int .i64 1] from rfl] at h; exact h
  go_enter Tryz.func7, Tryz.ntmps7
  go_upto_region 2 with (fail)
  rw [← hW0]
  clear hW0
  go_upto_region 5 with (first
    | (refine wpList_loadB rfl 25 _ rfl (w.heap.size + 1 + 1) (plaV w) rfl 25 KP.out.blk _ Tryz.underlying25 rfl prog_info ?_)
    | (go_at_call 9; refine (plbest_n _ PLA _ KP.out.at' pla_ok (HO.out.below HB.out) pla_check).mono ?_; rintro e w1 ⟨v1, rfl, hr, hb⟩; rw [pla_best] at hr; obtain ⟨a1, c1, rfl, hc1, hc2⟩ := hr.form; have HL : Hid (FactsAt w1 (.slice a1 4 c1) [⟨false, true, false⟩, noFact, ⟨false, false, true⟩, noFact]) := Lib.hid hr; have HB := Lib.hid (HB.out.trans (hb.mono HB.out.size)); have KP := Lib.hid (KP.out.below hb); clear hr hb)
    | (go_at_call 16; refine (plnone_n _ PLA _ KP.out.at' pla_ok (HO.out.below HB.out) pla_check).mono ?_; rintro e w2 ⟨v2, rfl, hr, hb⟩; rw [pla_none] at hr; obtain ⟨a2, c2, rfl, hd1, hd2⟩ := hr.form; have HN : Hid (FactsAt w2 (.slice a2 4 c2) [noFact, noFact, noFact, noFact]) := Lib.hid hr; have HL := Lib.hid (HL.out.below hb); have HB := Lib.hid (HB.out.trans (hb.mono HB.out.size)); have KP := Lib.hid (KP.out.below hb); clear hr hb)
    | (go_at_call 15; refine (HSV.out _ _ HL.out).mono ?_; rintro e w3 ⟨rfl, hb⟩; have HN := Lib.hid (HN.out.below hb); have HL := Lib.hid (HL.out.below hb); have HB := Lib.hid (HB.out.trans (hb.mono HB.out.size)); have KP := Lib.hid (KP.out.below hb); clear hb))
  obtain ⟨b, o, rfl, q0, q1, q2⟩ := facts_cell HL.out (k := 0) rfl
  obtain ⟨b', o', hbo, q6, q7, q8⟩ := facts_cell HL.out (k := 2) rfl
  obtain ⟨rfl, rfl⟩ : b = b' ∧ o = o' := by simpa using hbo
  have q0 : w3.cell? ⟨b, o, none⟩ = some (.bool false) := q0
  have q1 : w3.cell? ⟨b, o + 1, none⟩ = some (.bool true) := q1
  have q2 : w3.cell? ⟨b, o + 2, none⟩ = some (.bool false) := q2
  have q6 : w3.cell? ⟨b, o + 6, none⟩ = some (.bool false) := q6
  have q7 : w3.cell? ⟨b, o + 7, none⟩ = some (.bool false) := q7
  have q8 : w3.cell? ⟨b, o + 8, none⟩ = some (.bool true) := q8
  clear hbo HL HSV
  have HFA : Hid (∀ w', Keep w' (w.heap.size + 1 + 1) (.slice (some ⟨w.heap.size, 0, none⟩) 1 1) (.slice (some ⟨w.heap.size + 1, 0, none⟩) 4 4) PLA → w'.cell? ⟨w.heap.size + 1 + 1, 0, none⟩ = some (.slice (some ⟨w.heap.size, 0, none⟩) 1 1) ∧ w'.cell? ⟨w.heap.size + 1 + 1, 1, none⟩ = some (.string ⟨#[48]⟩) ∧ w'.cell? ⟨w.heap.size + 1 + 1, 2, none⟩ = some (.string ⟨#[]⟩) ∧ w'.cell? ⟨w.heap.size + 1 + 1, 3, none⟩ = some (.slice (some ⟨w.heap.size + 1, 0, none⟩) 4 4)) := Lib.hid fun w' h => h.cells
  obtain ⟨k0, k1, k2, k3⟩ := HFA.out _ KP.out
  go_wp2_with (first
    | (go_at_call 10; ((with_reducible refine (HF1.out _ _ HB.out KP.out.at' HN.out).mono ?_); rintro e w4 ⟨rfl, hb⟩; have HB := Lib.hid (HB.out.trans (hb.mono HB.out.size)); have KP := Lib.hid (KP.out.below hb); clear hb q0 q1 q2 q6 q7 q8 HN k0 k1 k2 k3; obtain ⟨k0, k1, k2, k3⟩ := HFA.out _ KP.out))
    | (go_at_call 10; ((with_reducible refine (HF2.out _ HB.out KP.out.at').mono ?_); rintro e w5 ⟨rfl, hb⟩; have HB := Lib.hid (HB.out.trans (hb.mono HB.out.size)); clear hb)))
  go_ret
  exact ⟨rfl, HB.out⟩
theorem plalive_n (w : World) (hO : HasO w) : Calls Tryz.prog 7 #[] w (AggPost w (.bool true)) := by
  have hwb : Below w.heap.size w (((w.alloc (.cells #[.string ⟨#[105, 48]⟩] 9)).alloc (.cells plaC 46)).alloc (.cells #[(.slice (some ⟨w.heap.size, 0, none⟩) 1 1), .string ⟨#[48]⟩, .string ⟨#[]⟩, (.slice (some ⟨w.heap.size + 1, 0, none⟩) 4 4)] 25)) := (((Below.refl _ _).alloc (Nat.le_refl _) _).alloc (by rw [World.size_alloc]; omega) _).alloc (by rw [World.size_alloc, World.size_alloc]; omega) _
  have s1 : (w.alloc (.cells #[.string ⟨#[105, 48]⟩] 9)).heap.size = w.heap.size + 1 := World.size_alloc _ _
  have s2 : ((w.alloc (.cells #[.string ⟨#[105, 48]⟩] 9)).alloc (.cells plaC 46)).heap.size = w.heap.size + 1 + 1 := by rw [World.size_alloc, s1]
  have k1 : blk (w.alloc (.cells #[.string ⟨#[105, 48]⟩] 9)) w.heap.size #[.string ⟨#[105, 48]⟩] 9 := blk_new _ _ _
  have k2 : blk ((w.alloc (.cells #[.string ⟨#[105, 48]⟩] 9)).alloc (.cells plaC 46)) (w.heap.size + 1) plaC 46 := by rw [← s1]; exact blk_new _ _ _
  have hp : ProgAt ((w.alloc (.cells #[.string ⟨#[105, 48]⟩] 9)).alloc (.cells plaC 46)) (.agg (plaV w)) PLA :=
    ⟨_, _, rfl, row_blk (blk_alloc k1 _) (by decide), insRow_blk (is := PLA.code) k2 rfl (by decide)⟩
  have kp := keep_new hp
  rw [s2] at kp
  exact plalive_at w _ rfl (Lib.hid kp) (Lib.hid hwb) (Lib.hid hO)
end Go.Proofs.YtapjgobkpehgfaaGreatDoor
