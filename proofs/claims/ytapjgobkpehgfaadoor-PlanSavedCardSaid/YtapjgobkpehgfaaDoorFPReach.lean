/-
  The program's Reach and Loops.
-/
import Derived.Test.YtapjgobkpehgfaaDoorFPSafe
import Derived.Deep.LoopGhost
namespace Go.Proofs.YtapjgobkpehgfaaDoor
set_option linter.unusedSimpArgs false
set_option linter.unusedVariables false
open Go.RowKit

/-- 'append(xs, news...)': xs a row of the call's own, the other one any row of its own. -/
theorem wpList_append_ints {w : World} {ops : Array Oper} {rest : List Oper} {o : Oper} {a : Act} {Q : Exit → Act → World → Prop} (hw : Region.wanted o (yielded ops a.tmps) = true) (s x : Operand)
    (ho : o.op = .call { callee := .builtin .append, args := #[s, x], argTypes := #[64, 64] }) (base : Nat) (v : Value) (xs news : List Int) (hs : a.eval s = v) (hown : w.ownsRow base 3 1 v xs.length (i64s xs))
    (u : Value) (base' : Nat) (hx : a.eval x = u) (hsrc : w.ownsRow base' 3 1 u news.length (i64s news)) (h63 : xs.length + news.length ≤ 1000000) (hbase : base ≤ w.heap.size)
    (h : ∀ v' w', w'.ownsRow base 3 1 v' (xs ++ news).length (i64s (xs ++ news)) → Below base w w' → wpList Tryd.prog ops Q rest (a.put o.dst v') w') : wpList Tryd.prog ops Q (o :: rest) a w := by
  obtain ⟨i0, hi0, hz0, hz1, hz2⟩ := info_parts infoZ
  have hsrc' := hsrc
  rcases hsrc.2 with ⟨rfl, h0⟩ | ⟨g, cap, cur, rfl, hb, hg, h3, h4, h5, h6⟩
  · have hn : news = [] := List.length_eq_zero_iff.1 h0
    subst hn
    refine BigFrame.wpList_want hw fun K hK => ?_
    have hrun := run_append_owned_none (P := Tryd.prog) (w := w) base 64 o.type 3 i0 1 Tryd.underlying64 hi0 v xs.length (i64s xs) hown
    unfold Oper.wp
    simp [execOp, ho, resolve, invoke, builtin, hs, hx, hrun, Result.andThen]
    exact hK _ _ (h v w (by simpa using hown) (Below.refl _ _))
  · have hra := RowAt.of_own hsrc'
    refine BigFrame.wpList_want hw fun K hK => wp_append_own w s x 64 ho base 3 i0 (.int .i64 0) 1 8 Tryd.underlying64 hi0 hz0 hz1 hz2 rfl (by decide) v xs.length (i64s xs) hs hown ⟨g, 0, none⟩ news.length cap (i64s news) hx (by simp) ?_ (by intro u hu; simp [i64s] at hu; obtain ⟨y, -, rfl⟩ := hu; rfl) (by unfold maxLen; omega) (by omega) hbase ?_
    · intro j u hu
      obtain ⟨a', c', e1, _, _, e2⟩ := hra
      rcases e2 with e2 | ⟨b, o', rfl, _, hc⟩
      · rw [e2] at hu; simp at hu
      · simp only [Value.slice.injEq, Option.some.injEq, Addr.mk.injEq] at e1
        obtain ⟨⟨rfl, rfl, -⟩, -⟩ := e1
        have h9 := hc j u hu
        rw [Nat.zero_add] at h9
        rcases j with _ | j <;> simpa [Addr.add] using h9
    · intro v' w' h1 h2 _
      refine hK _ _ (h v' w' (by simpa [i64s] using h1) ((Below.refl _ _).grown h2 hbase (fun k hk => ?_)))
      rcases hown.2 with ⟨rfl, _⟩ | ⟨g', cap', cur', rfl, hg', _⟩
      · simp [Value.ownBlock] at hk
      · simp [Value.ownBlock] at hk; omega
/-- Its first elements. -/
theorem own_first {w : World} {B : Nat} {g c n m : Nat} {xs ys : List Int} (h : w.ownsRow B 3 1 (.slice (some ⟨g, 0, none⟩) n c) n (i64s (xs ++ ys))) (hm : m = xs.length) : w.ownsRow B 3 1 (.slice (some ⟨g, 0, none⟩) m c) m (i64s xs) := by
  subst hm
  obtain ⟨h1, h2⟩ := h
  rcases h2 with ⟨h0, _⟩ | ⟨g', cap, cur, hv, hb, hg, h3, h4, h5, h6⟩
  · cases h0
  cases hv
  have hn : n = xs.length + ys.length := by simp [i64s] at h1; omega
  refine ⟨by simp, .inr ⟨g, c, cur, rfl, hb, hg, by omega, h4, h5, ?_⟩⟩
  rw [Nat.mul_one] at h6 ⊢
  have : xs.length = min xs.length n := by omega
  rw [this, ← List.take_take, h6]
  simp [i64s]
/-- The world in Reach, with the places yet to be seen. -/
abbrev natsV (l : List Nat) : List Int := l.map (fun n : Nat => (n : Int))
structure RkW (w wr : World) (H B : Nat) (C : Array Value) (had : List Bool) (v : Value) (op : List Nat) : Prop where
  rc : RcW w wr H C had
  own : wr.ownsRow B 3 1 v op.length (i64s (natsV op))
  hB : H < B
  hs : B ≤ wr.heap.size
theorem last_or {op : List Nat} (h : 0 < op.length) : ∃ xs m, op = xs ++ [m] := by
  rcases List.eq_nil_or_concat op with rfl | ⟨xs, m, rfl⟩
  · simp at h
  · exact ⟨xs, m, by simp⟩
theorem natsV_last {xs : List Nat} {m : Nat} : (i64s (natsV (xs ++ [m])))[xs.length]? = some (.int .i64 (m : Int)) := by simp [i64s]
set_option maxRecDepth 100000 in
set_option maxHeartbeats 8000000 in
theorem preach_at (w W0 : World) (p : PProg) (vt' : Value) (x' : Option Addr) (k' : Nat) (a : Nat)
    (hW0 : W0 = w.alloc (.cells (progC vt' p (.slice x' p.code.length k')) 32)) (HS : Hid (Below w.heap.size w W0)) (KP : Hid (blk W0 w.heap.size (progC vt' p (.slice x' p.code.length k')) 32))
    (ha : a ≤ p.code.length) (hlen : p.code.length ≤ 200) (hin : Hid (InP p))
    (HN : Hid (∀ (w1 : World) (k : Nat), Below w.heap.size w w1 → Calls Tryd.prog 31 #[.agg (progC vt' p (.slice x' p.code.length k')), .int .i64 k] w1 (RowPost w1 (nextV p k)))) :
    Calls Tryd.prog 33 #[.agg (progC vt' p (.slice x' p.code.length k')), .int .i64 a] w (BoolsPost w (wayL p a)) := by
  have hmk : ∀ w, (Instr.makeSlice 52 (.int .i64 ((p.code.length : Int) + 1)) (.int .i64 ((p.code.length : Int) + 1))).run Tryd.prog w = .ok (.slice (some ⟨w.heap.size, 0, none⟩) (p.code.length + 1) (p.code.length + 1)) (w.alloc (.cells (madeCells #[.bool false] (p.code.length + 1)) 4)) := fun w => run_make_row' _ _ _ _ Tryd.underlying52 infoBool rfl _ _ (p.code.length + 1) (by omega) (by omega) w
  have HPL := Lib.hid (fun w1 => pplace_n w1 p vt' x' k' (a : Int) true (by simp; omega))
  go_enter Tryd.func33, Tryd.ntmps33
  go_upto_region 1 with (fail)
  rw [← hW0]
  clear hW0
  go_upto_region 3 with (first
    | (refine wpList_loadB rfl 32 _ rfl w.heap.size (progC vt' p (.slice x' p.code.length k')) rfl 32 KP.out _ Tryd.underlying32 rfl prog_info ?_)
    | (go_at_call 32; ((with_reducible refine (HPL.out _).mono ?_); rintro e w1 ⟨rfl, hb⟩; have HS1 := Lib.hid (HS.out.trans (hb.mono HS.out.size)); have KP1 := Lib.hid (blk_below KP.out hb); clear hb HS KP HPL)))
  have p3 : w1.cell? ⟨w.heap.size, 3, none⟩ = some (.slice x' p.code.length k') := blk_cell KP1.out 3 _ rfl
  go_upto_region 4 with (fail)
  rw [bArr_zeros]
  have HW0 : Hid (RcW w (w1.alloc (.cells (bArr (List.replicate (p.code.length + 1) false)) 4)) w1.heap.size (progC vt' p (.slice x' p.code.length k')) (List.replicate (p.code.length + 1) false)) := Lib.hid
    ⟨HS1.out.trans (((Below.refl _ _).alloc (Nat.le_refl _) _).mono HS1.out.size), blk_alloc KP1.out _, blk_new _ _ _, blk_lt KP1.out⟩
  have HBH : Hid (w1.heap.size < (w1.alloc (.cells (bArr (List.replicate (p.code.length + 1) false)) 4)).heap.size) := Lib.hid (by simp)
  obtain ⟨H, hH⟩ : ∃ H, H = w1.heap.size := ⟨_, rfl⟩
  obtain ⟨wb, hwb⟩ : ∃ wb, wb = w1.alloc (.cells (bArr (List.replicate (p.code.length + 1) false)) 4) := ⟨_, rfl⟩
  rw [← hwb] at HW0 HBH ⊢
  rw [← hH] at HW0 HBH ⊢
  clear hwb hH p3 hmk KP1 HS1
  obtain ⟨B, hB⟩ : ∃ B, B = wb.heap.size := ⟨_, rfl⟩
  go_upto_region 5 with (first
    | (refine wpList_loadB rfl 32 _ rfl w.heap.size (progC vt' p (.slice x' p.code.length k')) rfl 32 HW0.out.prog _ Tryd.underlying32 rfl prog_info ?_)
    | (go_at_call 31; refine (HN.out _ a HW0.out.below).mono ?_; rintro e1 w5 ⟨v6, rfl, ho, hb⟩; have HW5 := Lib.hid (HW0.out.next hb); have HO5 := Lib.hid ho; have HS5 := Lib.hid hb.size; clear ho hb))
  have HK0 : Hid (RkW w w5 H B (progC vt' p (.slice x' p.code.length k')) (List.replicate (p.code.length + 1) false) v6 (nextL p a)) := Lib.hid (by
    have h1 := HO5.out
    rw [← hB, nextL_cast, List.length_map] at h1
    exact ⟨HW5.out, h1, by rw [hB]; exact HBH.out, by rw [hB]; exact HS5.out⟩)
  have HT0 := Lib.hid (StkAt.start (q := p) a)
  clear hB HO5 HS5 HW5 HBH HW0
  go_wp2_with (fail)
  go_loopg [6] (3 * (p.code.length + 1) + 2) (fun gk v6 wr => ∃ (had : List Bool) (op : List Nat), Hid (RkW w wr H B (progC vt' p (.slice x' p.code.length k')) had v6 op) ∧ Hid (StkAt p a had op) ∧ Hid (3 * (p.code.length + 1 - cnt had) + op.length ≤ gk))
  case atStart => exact ⟨_, _, HK0, HT0, Lib.hid HT0.out.few⟩
  case round =>
    obtain ⟨had, op, HW, HT, HG⟩ := hrel
    clear HK0 HT0
    obtain ⟨ad, cap, hv, hc1, hc2⟩ := own_form HW.out.own
    subst hv
    by_cases hop : 0 < op.length
    · obtain ⟨xs, m, rfl⟩ := last_or hop
      obtain ⟨g, hg⟩ : ∃ g, ad = some ⟨g, 0, none⟩ := by
        rcases ownsRow_forms HW.out.own with ⟨-, h0⟩ | ⟨g, c, h0⟩
        · omega
        · exact ⟨g, by cases h0; rfl⟩
      subst hg
      have hL : (xs ++ [m]).length = xs.length + 1 := by simp
      have HO := Lib.hid HW.out.own
      rw [hL] at HO hc1 hop ⊢
      have hml := (HT.out.way m (by simp)).le hin.out
      have hfew := HT.out.few
      rw [hL] at hfew
      have cm : wr.cell? ⟨g, xs.length, none⟩ = some (.int .i64 (m : Int)) := by
        rw [HO.out.cellAt xs.length (by omega)]; exact natsV_last
      have hxc : (xs.length : Int) ≤ (cap : Int) := by omega
      have hxb : (xs.length : Int) ≤ 1000 := by omega
      have hx0 : (0 : Int) ≤ (xs.length : Int) := by omega
      go_upto_region 9 with (fail)
      have hmi : (m : Int) < (p.code.length : Int) + 1 := by omega
      have hm0 : (0 : Int) ≤ (m : Int) := by omega
      have ch : wr.cell? ⟨H, m, none⟩ = some (.bool (had.getD m false)) := blk_cell HW.out.rc.hd m _ (bArr_get (by have := HT.out.len; omega))
      have fh := blk_frozen HW.out.rc.hd m
      have hmap : natsV (xs ++ [m]) = natsV xs ++ natsV [m] := by simp [natsV]
      rcases hb : had.getD m false with _ | _
      · rw [hb] at ch
        have hnew := HT.out.new hin.out hb
        rw [hL] at hnew
        have HT2 := Lib.hid hnew.1
        have HM2 := Lib.hid hnew.2
        have HW2 := Lib.hid (HW.out.rc.mark m)
        have HX2 : Hid ((wr.setCell ⟨H, m, none⟩ (.bool true)).ownsRow B 3 1 (.slice (some ⟨g, 0, none⟩) xs.length cap) (natsV xs).length (i64s (natsV xs))) := Lib.hid (by
          have h1 := HO.out
          rw [hmap] at h1
          have h2 := own_first (m := xs.length) h1 (by simp)
          rw [setCell_putB HW.out.rc.hd, show (natsV xs).length = xs.length by simp]
          exact own_same h2 (fun g' hg' _ => putB_ne wr (own_ne h2 HW.out.rc.hd (by decide) g' hg') _ _))
        have HS2 : Hid (B ≤ (wr.setCell ⟨H, m, none⟩ (.bool true)).heap.size ∧ H < B) := Lib.hid ⟨by simpa using HW.out.hs, HW.out.hB⟩
        clear hnew hb hmap cm
        have HG2 : Hid (3 * (p.code.length + 1 - cnt had) + (xs.length + 1) ≤ gk) := Lib.hid (by have := HG.out; rw [hL] at this; exact this)
        clear HT HG HO HW hL
        go_upto_region 11 with (fail)
        obtain ⟨w2, hw2⟩ : ∃ w2, w2 = wr.setCell ⟨H, m, none⟩ (.bool true) := ⟨_, rfl⟩
        rw [← hw2] at HW2 HX2 HS2 ⊢
        clear hw2 ch fh
        go_wp2_with (first
          | (refine wpList_loadB rfl 32 _ rfl w.heap.size (progC vt' p (.slice x' p.code.length k')) rfl 32 HW2.out.prog _ Tryd.underlying32 rfl prog_info ?_)
          | (go_at_call 31; refine (HN.out _ m HW2.out.below).mono ?_; rintro e1 w6 ⟨v8, rfl, ho, hb⟩; have HW6 := Lib.hid (HW2.out.next hb); have HX6 := Lib.hid (own_below HX2.out hb); have HO6 := Lib.hid ho; have HS6 : Hid (B ≤ w6.heap.size) := Lib.hid (Nat.le_trans HS2.out.1 hb.size); have hnl : (natsV xs).length + (nextV p (m : Int)).length ≤ 1000000 := (by rw [nextL_cast, List.length_map, List.length_map]; have := (next_sorted (q := p) m).1; omega); clear ho hb)
          | (at_builtin; go_loud (refine wpList_append_ints (by rfl) _ _ rfl B _ (natsV xs) (nextV p (m : Int)) rfl HX6.out _ _ rfl HO6.out hnl HS6.out ?_)))
        intro v9 w9 ho hb9
        have HK9 : Hid (RkW w w9 H B (progC vt' p (.slice x' p.code.length k')) (markK had m) v9 (xs ++ nextL p m)) := Lib.hid (by
          have h1 : w9.ownsRow B 3 1 v9 (xs ++ nextL p m).length (i64s (natsV (xs ++ nextL p m))) := by
            have h0 := ho
            rw [nextL_cast] at h0
            simpa [i64s, natsV, Function.comp_def] using h0
          have hH := HW6.out.hH
          have hHB := HS2.out.2
          exact ⟨⟨HW6.out.below.trans (hb9.mono (by omega)), by have := HW6.out.prog; unfold blk at this ⊢; rw [hb9.block _ (by omega)]; exact this, by have := HW6.out.hd; unfold blk at this ⊢; rw [hb9.block _ hHB]; exact this, hH⟩, h1, hHB, Nat.le_trans HS6.out hb9.size⟩)
        clear ho hb9 HW2 HX2 HX6 HO6 HW6 HS6
        go_wp2
        go_roundg (gk - 1)
        case measure => have := HG2.out; omega
        case rel => exact ⟨_, _, HK9, HT2, Lib.hid (by have := HG2.out; have := HM2.out; omega)⟩
      · rw [hb] at ch
        have HT2 := Lib.hid (HT.out.known hb)
        have HW2 : Hid (RkW w wr H B (progC vt' p (.slice x' p.code.length k')) had (.slice (some ⟨g, 0, none⟩) xs.length cap) xs) := Lib.hid ⟨HW.out.rc, by
          have h1 := HO.out
          rw [hmap] at h1
          exact own_first h1 (by simp), HW.out.hB, HW.out.hs⟩
        have HG2 : Hid (3 * (p.code.length + 1 - cnt had) + (xs.length + 1) ≤ gk) := Lib.hid (by have := HG.out; rw [hL] at this; exact this)
        clear hb hmap cm HT HG HO HW hL
        go_wp2
        go_roundg (gk - 1)
        case measure => have := HG2.out; omega
        case rel => exact ⟨_, _, HW2, HT2, Lib.hid (by have := HG2.out; omega)⟩
    · have he : op = [] := List.length_eq_zero_iff.1 (by omega)
      subst he
      have HE := Lib.hid (HT.out.done hin.out ha)
      have HP : Hid (BoolsPost w (wayL p a) (.returned (.slice (some ⟨H, 0, none⟩) (p.code.length + 1) (p.code.length + 1))) wr) := Lib.hid (by
        have h1 := HW.out.rc.post (by have := HT.out.len; omega)
        rw [HT.out.len, HE.out] at h1
        exact h1)
      clear HW HT HE HG
      go_wp2
      go_ret
      exact HP.out
end Go.Proofs.YtapjgobkpehgfaaDoor
