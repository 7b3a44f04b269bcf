/-
  CodeAgain: the walk.
-/
import Derived.Test.YtgmpggjikebcdaaDoorRBack
import Derived.Test.YtgmpggjikebcdaaDoorRJoin
import Derived.Test.YtgmpggjikebcdaaDoorWLinesR
namespace Go.Proofs.YtgmpggjikebcdaaDoor
open Go.RowKit

theorem lens1_join {x : List Bs} (h : x ≠ []) : lens1 x ≤ (Lib.join x [32]).length + 1 := by
  induction x with
  | nil => exact absurd rfl h
  | cons a r ih =>
    cases r with
    | nil => rw [Lib.join_one, lens1_cons]; simp [lens1]
    | cons b r => rw [join_two, lens1_cons]; have := ih (by simp); simp; omega
theorem fewS_join (G : List (List Bs)) (hG : ∀ x ∈ G, x ≠ []) : fewS G ≤ 2 * (joinL G).length := by
  induction G with
  | nil => simp [fewS]
  | cons a r ih =>
    rw [joinL_cons]
    have h1 := lens1_join (hG a (by simp))
    have h2 := ih (fun x hx => hG x (by simp [hx]))
    unfold fewS at h2 ⊢
    simp; omega
theorem ty_least (ts : List Bs) : 6 * ts.length ≤ (joinL (tyLines ts)).length := by
  induction ts with
  | nil => simp
  | cons a r ih =>
    have e : tyLines (a :: r) = [kType, a] :: tyLines r := rfl
    rw [e, joinL_cons, join_two, Lib.join_one]
    simp [kType]; omega
theorem types_least (p : PProg) : 6 * p.types.length ≤ (joinL (linesP p)).length := by
  have h := ty_least p.types
  rw [← lines_all, joinL_app, joinL_app]
  simp; omega
def OkPost (w : World) (G : List (List Bs)) (e : Ending) (w' : World) : Prop :=
  ∃ a c, e = .returned (.tuple #[.slice a G.length c, .int .i64 0, .int .i64 0]) ∧ Hid (GridAt w' (.slice a G.length c) G) ∧ Hid (Below w.heap.size w w')
theorem linesR_ok (s : ByteArray) (G : List (List Bs)) (w : World) (hs : s.size ≤ maxLen) (hR : linesL s.data.toList = (G, 0, 0)) : Calls Tryd.prog 13 #[.string s] w (OkPost w G) := by
  have := linesR_any s w hs
  rw [hR] at this
  exact this.mono fun e w' ⟨a, c, h1, h2, h3⟩ => ⟨a, c, h1, Lib.hid h2.at, Lib.hid h3⟩

/-- A program that lies in its own block. -/
def Keep (w : World) (b : Nat) (vt vc : Value) (p : PProg) : Prop := blk w b #[vt, str p.locals, str p.globs, vc] 25 ∧ ProgAt w (.agg #[vt, str p.locals, str p.globs, vc]) p
theorem Keep.below {w w' : World} {b : Nat} {vt vc : Value} {p : PProg} (h : Keep w b vt vc p) (hb : Below w.heap.size w w') : Keep w' b vt vc p := ⟨blk_below h.1 hb, h.2.below hb⟩
theorem Keep.cells {w : World} {b : Nat} {vt vc : Value} {p : PProg} (h : Keep w b vt vc p) : w.cell? ⟨b, 0, none⟩ = some vt ∧ w.cell? ⟨b, 1, none⟩ = some (str p.locals) ∧ w.cell? ⟨b, 2, none⟩ = some (str p.globs) ∧ w.cell? ⟨b, 3, none⟩ = some vc :=
  ⟨blk_cell h.1 0 _ rfl, blk_cell h.1 1 _ rfl, blk_cell h.1 2 _ rfl, blk_cell h.1 3 _ rfl⟩
theorem keep_put {w : World} {vt vc : Value} {p : PProg} (h : ProgAt w (.agg #[vt, str p.locals, str p.globs, vc]) p) : Keep (putB (w.alloc (.cells zeroP 25)) w.heap.size #[vt, str p.locals, str p.globs, vc] 25) w.heap.size vt vc p :=
  ⟨putB_at (blk_new w zeroP 25) _ _, h.below (put_new w _)⟩
theorem parse_bad (x : ByteArray) (n e : Nat) (w : World) (hA : HasAll w) (hx : x.size ≤ 140737488355328) (h : parseL x.data.toList = (noneP, n, e)) : Calls Tryd.prog 11 #[.string x] w fun y w' =>
    ∃ a c a' c', y = .returned (.tuple #[.agg #[.slice a 0 c, str [], str [], .slice a' 0 c'], .int .i64 n, .int .i64 e]) ∧ Hid ((#[.slice a 0 c, str [], str [], .slice a' 0 c'] : Array Value).all (·.oneCell') = true) ∧ Hid (Below w.heap.size w w') := by
  refine (parse_str x.data.toList (noneP, n, e) w hA (by show x.size ≤ _; exact hx) h).mono ?_
  rintro y w' ⟨vt, vc, rfl, hX, hb⟩
  obtain ⟨⟨vt', vc', he, ⟨a, c, rfl, -⟩, ⟨a', c', rfl, -⟩⟩, h1⟩ := hX.out
  have he' : vt = .slice a 0 c ∧ vc = .slice a' 0 c' := by
    unfold progC at he
    simp only [Value.agg.injEq, Array.mk.injEq, List.cons.injEq] at he
    exact ⟨he.1, he.2.2.2.1⟩
  obtain ⟨rfl, rfl⟩ := he'
  exact ⟨a, c, a', c', rfl, Lib.hid h1, hb⟩

set_option maxRecDepth 100000 in
set_option maxHeartbeats 2000000 in
theorem again_big (s : ByteArray) (w : World) (hs : 4000 < s.size) (hmax : s.size ≤ maxLen) (hA : HasAll w) :
    Calls Tryd.prog 4 #[.string s] w (AggPost w (.bool true)) := by
  have HA := alive_any w hA
  unfold maxLen at hmax
  go_enter Tryd.func4, Tryd.ntmps4
  go_wp2_with (go_at_call 8; refine HA.mono ?_; rintro e w1 ⟨rfl, hb1⟩)
  go_ret
  exact ⟨rfl, hb1⟩
set_option maxRecDepth 100000 in
set_option maxHeartbeats 2000000 in
theorem again_err (s : ByteArray) (n e : Nat) (w : World) (hs : s.size ≤ 4000) (hA : HasAll w) (he : e ≠ 0) (hR : parseL s.data.toList = (noneP, n, e)) :
    Calls Tryd.prog 4 #[.string s] w (AggPost w (.bool true)) := by
  have HA := alive_any w hA
  have HP := Lib.hid fun w1 (hb : Below w.heap.size w w1) => parse_bad s n e w1 (hA.below hb) (by omega) hR
  have z1 : ((e : Int) == 0) = false := by simp only [beq_eq_false_iff_ne]; omega
  have z2 : ((e : Int) != 0) = true := by simp only [bne_iff_ne, ne_eq]; omega
  clear hR he hA
  go_enter Tryd.func4, Tryd.ntmps4
  go_wp2_with (first
    | (go_at_call 8; refine HA.mono ?_; rintro y w1 ⟨rfl, hb⟩; have HB := Lib.hid hb; clear hb)
    | (go_at_call 11; refine (HP.out _ HB.out).mono ?_; rintro y w2 ⟨a, c, a', c', rfl, HONE, HB2⟩; clear HP)
    | (refine wpList_putB rfl 25 _ _ rfl w2.heap.size #[.slice a 0 c, str [], str [], .slice a' 0 c'] rfl rfl 25 _ (blk_new _ _ _) prog_info rfl HONE.out ?_; have hb := put_new w2 #[.slice a 0 c, str [], str [], .slice a' 0 c']; have hk := putB_at (blk_new w2 zeroP 25) #[.slice a 0 c, str [], str [], .slice a' 0 c'] 25; generalize putB (w2.alloc (.cells zeroP 25)) w2.heap.size #[.slice a 0 c, str [], str [], .slice a' 0 c'] 25 = W3 at *; have HB3 := Lib.hid hb; have x0 := blk_cell hk 0 _ rfl; have x3 := blk_cell hk 3 _ rfl; clear hb hk))
  go_ret
  exact ⟨rfl, HB.out.trans ((HB2.out.trans (HB3.out.mono HB2.out.size)).mono HB.out.size)⟩
set_option maxRecDepth 100000 in
set_option maxHeartbeats 2000000 in
theorem again_walk_ok (s : ByteArray) (G : List (List Bs)) (t : Bs) (p : PProg) (w : World) (hs : s.size ≤ 4000)
    (HAL : Hid (∀ w1, Below w.heap.size w w1 → Calls Tryd.prog 8 #[] w1 (AggPost w1 (.bool true))))
    (HPA : Hid (∀ w1, Below w.heap.size w w1 → Calls Tryd.prog 11 #[.string s] w1 (RdPost w1 p 0 0)))
    (HPB : Hid (∀ w1, Below w.heap.size w w1 → Calls Tryd.prog 11 #[str t] w1 (RdPost w1 p 0 0)))
    (HL : Hid (∀ w1, Below w.heap.size w w1 → Calls Tryd.prog 13 #[.string s] w1 (OkPost w1 G)))
    (HP : Hid (∀ w1 v, Below w.heap.size w w1 → ProgAt w1 v p → Calls Tryd.prog 10 #[v] w1 (PrintPost w1 (t, 0))))
    (HJ : Hid (∀ w1 v, GridAt w1 v G → Calls Tryd.prog 14 #[v] w1 fun e w' => e = .returned (str t) ∧ w1 = w'))
    (HS : Hid (∀ w1 v u, ProgAt w1 v p → ProgAt w1 u p → Calls Tryd.prog 12 #[v, u] w1 (AggPost w1 (.bool true)))) :
    Calls Tryd.prog 4 #[.string s] w (AggPost w (.bool true)) := by
  have HB := Lib.hid (Below.refl w.heap.size w)
  go_enter Tryd.func4, Tryd.ntmps4
  go_wp2_with (first
    | (go_at_call 8; refine (HAL.out _ HB.out).mono ?_; rintro e w1 ⟨rfl, hb⟩; clear HAL; have HB := Lib.hid (HB.out.trans (hb.mono HB.out.size)); clear hb)
    | (go_at_call 11; refine (HPA.out _ HB.out).mono ?_; rintro e wa ⟨vx, vcx, rfl, HX, hb0⟩; clear HPA; have hb := hb0.out; clear hb0; have HB := Lib.hid (HB.out.trans (hb.mono HB.out.size)); clear hb)
    | (refine wpList_putB rfl 25 _ _ rfl wa.heap.size #[vx, str p.locals, str p.globs, vcx] rfl rfl 25 _ (blk_new _ _ _) prog_info rfl HX.out.2 ?_; have hb := put_new wa #[vx, str p.locals, str p.globs, vcx]; have KX := Lib.hid (keep_put HX.out.1); clear HX; generalize putB (wa.alloc (.cells zeroP 25)) wa.heap.size #[vx, str p.locals, str p.globs, vcx] 25 = W1 at *; have HB := Lib.hid (HB.out.trans (hb.mono HB.out.size)); obtain ⟨x0, x1, x2, x3⟩ := KX.out.cells; clear hb)
    | (go_at_call 13; refine (HL.out _ HB.out).mono ?_; rintro e wl ⟨ga, gc, rfl, HG, hb0⟩; clear HL; have hb := hb0.out; clear hb0; have HB := Lib.hid (HB.out.trans (hb.mono HB.out.size)); have KX := Lib.hid (KX.out.below hb); clear x0 x1 x2 x3; obtain ⟨x0, x1, x2, x3⟩ := KX.out.cells; clear hb)
    | (go_at_call 10; refine (HP.out _ _ HB.out KX.out.2).mono ?_; rintro e wp ⟨rfl, hb⟩; clear HP; have HB := Lib.hid (HB.out.trans (hb.mono HB.out.size)); have KX := Lib.hid (KX.out.below hb); clear x0 x1 x2 x3; obtain ⟨x0, x1, x2, x3⟩ := KX.out.cells; have HG := Lib.hid (HG.out.below hb); clear hb)
    | (go_at_call 11; refine (HPB.out _ HB.out).mono ?_; rintro e wb ⟨vy, vcy, rfl, HY, hb0⟩; clear HPB; have hb := hb0.out; clear hb0; have HB := Lib.hid (HB.out.trans (hb.mono HB.out.size)); have KX := Lib.hid (KX.out.below hb); clear x0 x1 x2 x3; obtain ⟨x0, x1, x2, x3⟩ := KX.out.cells; have HG := Lib.hid (HG.out.below hb); clear hb)
    | (refine wpList_putB rfl 25 _ _ rfl wb.heap.size #[vy, str p.locals, str p.globs, vcy] rfl rfl 25 _ (blk_new _ _ _) prog_info rfl HY.out.2 ?_; have hb := put_new wb #[vy, str p.locals, str p.globs, vcy]; have KY := Lib.hid (keep_put HY.out.1); clear HY; generalize putB (wb.alloc (.cells zeroP 25)) wb.heap.size #[vy, str p.locals, str p.globs, vcy] 25 = W2 at *; have HB := Lib.hid (HB.out.trans (hb.mono HB.out.size)); have KX := Lib.hid (KX.out.below hb); clear x0 x1 x2 x3; obtain ⟨x0, x1, x2, x3⟩ := KX.out.cells; have HG := Lib.hid (HG.out.below hb); obtain ⟨y0, y1, y2, y3⟩ := KY.out.cells; clear hb)
    | (go_at_call 14; refine (HJ.out _ _ HG.out).mono ?_; rintro e wj ⟨rfl, rfl⟩; clear HJ)
    | (go_at_call 12; refine (HS.out _ _ _ KX.out.2 KY.out.2).mono ?_; rintro e ws ⟨rfl, hb⟩; clear HS; have HB := Lib.hid (HB.out.trans (hb.mono HB.out.size)); clear hb))
  go_ret
  exact ⟨rfl, HB.out⟩

theorem linesL_size {s : Bs} {G : List (List Bs)} (h : linesL s = (G, 0, 0)) : (joinL G).length ≤ s.length + 1 ∧ ∀ x ∈ G, GoodW x := by
  by_cases hs : s.length ≤ 20000
  · rcases linesL_cases s hs with ⟨h1, h2⟩ | ⟨k, l, h1, _⟩
    · rw [h1] at h
      obtain rfl := (Prod.mk.inj h).1
      exact ⟨again_len s, goodL_good _ h2⟩
    · rw [h1] at h; simp at h
  · unfold linesL at h
    rw [if_pos (by omega)] at h
    simp at h
theorem again_walk (s : ByteArray) (w : World) (hmax : s.size ≤ maxLen) (hA : HasAll w) : Calls Tryd.prog 4 #[.string s] w fun e w' => e = .returned (.bool true) ∧ Below w.heap.size w w' := by
  by_cases hs : s.size ≤ 4000
  case neg => exact again_big s w (by omega) hmax hA
  rcases hl : linesL s.data.toList with ⟨G, n, e⟩
  have hpl : parseL s.data.toList = if e = 0 then (if (programL G).2.2 then ((programL G).1, 0, 0) else (noneP, (programL G).2.1 + 1, 4)) else (noneP, n, e) := by unfold parseL; rw [hl]
  by_cases he : e = 0
  case neg =>
    rw [if_neg he] at hpl
    exact again_err s n e w hs hA he hpl
  subst he
  rw [if_pos rfl] at hpl
  rcases hg : programL G with ⟨p, m, b⟩
  rw [hg] at hpl
  rcases b with _ | _
  · exact again_err s _ 4 w hs hA (by decide) hpl
  obtain rfl : n = 0 := by rcases linesL_err hl with ⟨_, h⟩ | ⟨h, _⟩; exact h; exact absurd rfl h
  obtain ⟨hj, hG⟩ := linesL_size hl
  obtain ⟨hm, hlp, hok⟩ := lines_program hG hg
  have hsz : s.data.toList.length = s.size := len_size s
  have hty := types_least p
  rw [hlp] at hty
  have hpt := parse_text hok hm (by rw [hlp]; omega)
  rw [hlp] at hpt
  have hfew : fewS G ≤ 1000000000 := Nat.le_trans (fewS_join G (fun x hx => (hG x hx).1)) (by omega)
  exact again_walk_ok s G (joinL G) p w hs
    (Lib.hid fun w1 hb => alive_any w1 (hA.below hb))
    (Lib.hid fun w1 hb => parse_str s.data.toList (p, 0, 0) w1 (hA.below hb) (by omega) hpl)
    (Lib.hid fun w1 hb => parse_str (joinL G) (p, 0, 0) w1 (hA.below hb) (by omega) hpt)
    (Lib.hid fun w1 _ => linesR_ok s G w1 hmax hl)
    (Lib.hid fun w1 v hb hv => by have := print_ok v p w1 hv hok (hA.below hb).o (hA.below hb).t hm (by omega) (by rw [hlp]; omega); rw [hlp] at this; exact this)
    (Lib.hid fun w1 v hv => joinR_any v G w1 hv hfew)
    (Lib.hid fun w1 v u hv hu => same_any v u p p true w1 hv hu (by simp))
end Go.Proofs.YtgmpggjikebcdaaDoor
