/-
  CodeParses: the walk.
-/
import Derived.Test.YtgmpggjikebcdaaGreatDoorZParse
import Derived.Test.YtgmpggjikebcdaaGreatDoorCAlive
namespace Go.Proofs.YtgmpggjikebcdaaGreatDoor
open Go.RowKit

/-- A program that lies in its own block. -/
def Keep (w : World) (b : Nat) (vt vc : Value) (p : PProg) : Prop := blk w b #[vt, str p.locals, str p.globs, vc] 25 ∧ ProgAt w (.agg #[vt, str p.locals, str p.globs, vc]) p
theorem Keep.below {w w' : World} {b : Nat} {vt vc : Value} {p : PProg} (h : Keep w b vt vc p) (hb : Below w.heap.size w w') : Keep w' b vt vc p := ⟨blk_below h.1 hb, h.2.below hb⟩
theorem Keep.cells {w : World} {b : Nat} {vt vc : Value} {p : PProg} (h : Keep w b vt vc p) : w.cell? ⟨b, 0, none⟩ = some vt ∧ w.cell? ⟨b, 1, none⟩ = some (str p.locals) ∧ w.cell? ⟨b, 2, none⟩ = some (str p.globs) ∧ w.cell? ⟨b, 3, none⟩ = some vc :=
  ⟨blk_cell h.1 0 _ rfl, blk_cell h.1 1 _ rfl, blk_cell h.1 2 _ rfl, blk_cell h.1 3 _ rfl⟩
theorem keep_put {w : World} {vt vc : Value} {p : PProg} (h : ProgAt w (.agg #[vt, str p.locals, str p.globs, vc]) p) : Keep (putB (w.alloc (.cells zeroP 25)) w.heap.size #[vt, str p.locals, str p.globs, vc] 25) w.heap.size vt vc p :=
  ⟨putB_at (blk_new w zeroP 25) _ _, h.below (put_new w _)⟩

set_option maxRecDepth 100000 in
set_option maxHeartbeats 1000000 in
theorem parses_big (s : ByteArray) (w : World) (hs : 4000 < s.size) (hmax : s.size ≤ maxLen) (hA : HasAll w) :
    Calls Tryz.prog 4 #[.string s] w (AggPost w (.bool true)) := by
  have HA := alive_any w hA
  unfold maxLen at hmax
  go_enter Tryz.func4, Tryz.ntmps4
  go_wp2_with (go_at_call 5; refine HA.mono ?_; rintro e w1 ⟨rfl, hb1⟩)
  go_ret
  exact ⟨rfl, hb1⟩
set_option maxRecDepth 100000 in
set_option maxHeartbeats 1500000 in
theorem parses_ok (s : ByteArray) (p : PProg) (n e : Int) (w : World) (hs : s.size ≤ 4000)
    (HAL : Hid (∀ w1, Below w.heap.size w w1 → Calls Tryz.prog 5 #[] w1 (AggPost w1 (.bool true))))
    (HPA : Hid (∀ w1, Below w.heap.size w w1 → Calls Tryz.prog 11 #[.string s] w1 (RdPost w1 p n e)))
    (HPB : Hid (∀ w1, Below w.heap.size w w1 → Calls Tryz.prog 12 #[.string s] w1 (RdPost w1 p n e)))
    (HS : Hid (∀ w1 v u, ProgAt w1 v p → ProgAt w1 u p → Calls Tryz.prog 13 #[v, u] w1 (AggPost w1 (.bool true)))) :
    Calls Tryz.prog 4 #[.string s] w (AggPost w (.bool true)) := by
  have HB := Lib.hid (Below.refl w.heap.size w)
  go_enter Tryz.func4, Tryz.ntmps4
  go_wp2_with (first
    | (go_at_call 5; refine (HAL.out _ HB.out).mono ?_; rintro y w1 ⟨rfl, hb⟩; clear HAL; have HB := Lib.hid (HB.out.trans (hb.mono HB.out.size)); clear hb)
    | (go_at_call 11; refine (HPA.out _ HB.out).mono ?_; rintro y wa ⟨vx, vcx, rfl, HX, hb0⟩; clear HPA; have hb := hb0.out; clear hb0; have HB := Lib.hid (HB.out.trans (hb.mono HB.out.size)); clear hb)
    | (refine wpList_putB rfl 25 _ _ rfl wa.heap.size #[vx, str p.locals, str p.globs, vcx] rfl rfl 25 _ (blk_new _ _ _) prog_info rfl HX.out.2 ?_; have hb := put_new wa #[vx, str p.locals, str p.globs, vcx]; have KX := Lib.hid (keep_put HX.out.1); clear HX; generalize putB (wa.alloc (.cells zeroP 25)) wa.heap.size #[vx, str p.locals, str p.globs, vcx] 25 = W1 at *; have HB := Lib.hid (HB.out.trans (hb.mono HB.out.size)); obtain ⟨x0, x1, x2, x3⟩ := KX.out.cells; clear hb)
    | (go_at_call 12; refine (HPB.out _ HB.out).mono ?_; rintro y wb ⟨vy, vcy, rfl, HY, hb0⟩; clear HPB; have hb := hb0.out; clear hb0; have HB := Lib.hid (HB.out.trans (hb.mono HB.out.size)); have KX := Lib.hid (KX.out.below hb); clear x0 x1 x2 x3; obtain ⟨x0, x1, x2, x3⟩ := KX.out.cells; clear hb)
    | (refine wpList_putB rfl 25 _ _ rfl wb.heap.size #[vy, str p.locals, str p.globs, vcy] rfl rfl 25 _ (blk_new _ _ _) prog_info rfl HY.out.2 ?_; have hb := put_new wb #[vy, str p.locals, str p.globs, vcy]; have KY := Lib.hid (keep_put HY.out.1); clear HY; generalize putB (wb.alloc (.cells zeroP 25)) wb.heap.size #[vy, str p.locals, str p.globs, vcy] 25 = W2 at *; have HB := Lib.hid (HB.out.trans (hb.mono HB.out.size)); have KX := Lib.hid (KX.out.below hb); clear x0 x1 x2 x3; obtain ⟨x0, x1, x2, x3⟩ := KX.out.cells; obtain ⟨y0, y1, y2, y3⟩ := KY.out.cells; clear hb)
    | (go_at_call 13; refine (HS.out _ _ _ KX.out.2 KY.out.2).mono ?_; rintro y ws ⟨rfl, hb⟩; clear HS; have HB := Lib.hid (HB.out.trans (hb.mono HB.out.size)); clear hb))
  go_ret
  exact ⟨rfl, HB.out⟩
theorem parses_walk (s : ByteArray) (w : World) (hmax : s.size ≤ maxLen) (hA : HasAll w) : Calls Tryz.prog 4 #[.string s] w fun e w' => e = .returned (.bool true) ∧ Below w.heap.size w w' := by
  by_cases hs : s.size ≤ 4000
  case neg => exact parses_big s w (by omega) hmax hA
  rcases hr : parseL s.data.toList with ⟨p, n, e⟩
  have hsz : s.data.toList.length = s.size := len_size s
  exact parses_ok s p n e w hs
    (Lib.hid fun w1 hb => alive_any w1 (hA.below hb))
    (Lib.hid fun w1 hb => parse_str s.data.toList (p, n, e) w1 (hA.below hb) (by omega) hr)
    (Lib.hid fun w1 _ => rparse_str s.data.toList (p, n, e) w1 (by omega) hr)
    (Lib.hid fun w1 v u hv hu => same_any v u p p true w1 hv hu (by simp))
end Go.Proofs.YtgmpggjikebcdaaGreatDoor
