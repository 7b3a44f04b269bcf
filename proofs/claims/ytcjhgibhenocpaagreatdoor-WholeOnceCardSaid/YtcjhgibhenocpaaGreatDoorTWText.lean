/-
  WholeText: a program that may be run comes back from its text, and what may be left out of it is the same.
-/
import Derived.Test.YtcjhgibhenocpaaGreatDoorUBR
import Derived.Test.YtcjhgibhenocpaaGreatDoorUBE
import Derived.Deep.QuietTactic
import Derived.BigQuiet
namespace Go.Proofs.YtcjhgibhenocpaaGreatDoor
set_option linter.unusedSimpArgs false
set_option linter.unusedVariables false
open Go.RowKit

structure TxW (w wr : World) (C D : Array Value) (NQ : Nat) (p : PProg) : Prop where
  below : Below w.heap.size w wr
  prog : blk wr w.heap.size C 25
  other : blk wr NQ D 25
  here : ProgAt wr (.agg C) p
  there : ProgAt wr (.agg D) p
theorem TxW.next {w wr w' : World} {C D : Array Value} {NQ : Nat} {p : PProg} (h : TxW w wr C D NQ p) (hb : Below wr.heap.size wr w') : TxW w w' C D NQ p :=
  ⟨h.below.trans (hb.mono h.below.size), blk_below h.prog hb, blk_below h.other hb, h.here.below hb, h.there.below hb⟩
theorem drewB (w : World) (n : Nat) : Below w.heap.size w (w.drewN n) := ⟨rfl, rfl, rfl, Nat.le_refl _, fun _ _ => rfl⟩
set_option maxRecDepth 100000 in
set_option maxHeartbeats 4000000 in
theorem wtext_no (w W0 : World) (p : PProg) (vt vc : Value)
    (hW0 : W0 = w.alloc (.cells (progC vt p vc) 25)) (KP : Hid (blk W0 w.heap.size (progC vt p vc) 25)) (HS : Hid (Below w.heap.size w W0))
    (HSO : Hid (∀ w1, Below w.heap.size w w1 → Calls Tryz.prog 5 #[.agg (progC vt p vc)] w1 (AggPost w1 (.bool false))))
    (HWO : Hid (∀ w1, Below w.heap.size w w1 → Calls Tryz.prog 6 #[] w1 (AggPost w1 (.bool true)))) :
    Calls Tryz.prog 3 #[.agg (progC vt p vc)] w (AggPost w (.bool true)) := by
  go_enter Tryz.func3, Tryz.ntmps3
  go_upto_region 1 with (fail)
  rw [← hW0]
  clear hW0
  go_wp2_with (first
    | (refine wpList_loadB rfl 25 _ rfl w.heap.size (progC vt p vc) rfl 25 KP.out _ Tryz.underlying25 rfl prog_info ?_)
    | (go_at_call 5; refine (HSO.out _ HS.out).mono ?_; rintro e w1 ⟨rfl, hb⟩; have HS := Lib.hid (HS.out.trans (hb.mono HS.out.size)); clear hb)
    | (go_at_call 6; refine (HWO.out _ HS.out).mono ?_; rintro e w2 ⟨rfl, hb⟩; have HS := Lib.hid (HS.out.trans (hb.mono HS.out.size)); clear hb))
  go_ret
  exact ⟨rfl, HS.out⟩
set_option maxRecDepth 100000 in
set_option maxHeartbeats 8000000 in
theorem wtext_yes (w W0 : World) (p : PProg) (vt vc : Value) (tp : Bs)
    (hW0 : W0 = w.alloc (.cells (progC vt p vc) 25)) (KP : Hid (blk W0 w.heap.size (progC vt p vc) 25)) (HS : Hid (Below w.heap.size w W0)) (HP0 : Hid (ProgAt w (.agg (progC vt p vc)) p)) (hlen : p.code.length ≤ 200)
    (HSO : Hid (∀ w1, Below w.heap.size w w1 → Calls Tryz.prog 5 #[.agg (progC vt p vc)] w1 (AggPost w1 (.bool true))))
    (HWO : Hid (∀ w1, Below w.heap.size w w1 → Calls Tryz.prog 6 #[] w1 (AggPost w1 (.bool true))))
    (HPR : Hid (∀ w1, Below w.heap.size w w1 → Calls Tryz.prog 7 #[.agg (progC vt p vc)] w1 (PrintPost w1 (tp, 0))))
    (HPA : Hid (∀ w1, Below w.heap.size w w1 → Calls Tryz.prog 8 #[str tp] w1 (RdPost w1 p 0 0)))
    (HCK : Hid (∀ w1 v, Below w.heap.size w w1 → ProgAt w1 v p → Calls Tryz.prog 9 #[v] w1 (ChkPost w1 (-1) 0)))
    (HBE : Hid (∀ w1 v, Below w.heap.size w w1 → ProgAt w1 v p → Calls Tryz.prog 10 #[v] w1 (BestPost w1 p))) :
    Calls Tryz.prog 3 #[.agg (progC vt p vc)] w (AggPost w (.bool true)) := by
  have hnn : ((p.code.length : Int) != (p.code.length : Int)) = false := by simp
  go_enter Tryz.func3, Tryz.ntmps3
  go_upto_region 1 with (fail)
  rw [← hW0]
  clear hW0
  go_upto_region 5 with (first
    | (refine wpList_loadB rfl 25 _ rfl w.heap.size (progC vt p vc) rfl 25 KP.out _ Tryz.underlying25 rfl prog_info ?_)
    | (go_at_call 5; refine (HSO.out _ HS.out).mono ?_; rintro e w1 ⟨rfl, hb⟩; have KP := Lib.hid (blk_below KP.out hb); have HS := Lib.hid (HS.out.trans (hb.mono HS.out.size)); clear hb)
    | (go_at_call 6; refine (HWO.out _ HS.out).mono ?_; rintro e w2 ⟨rfl, hb⟩; have KP := Lib.hid (blk_below KP.out hb); have HS := Lib.hid (HS.out.trans (hb.mono HS.out.size)); clear hb)
    | (go_at_call 7; refine (HPR.out _ HS.out).mono ?_; rintro e w3 ⟨rfl, hb⟩; have KP := Lib.hid (blk_below KP.out hb); have HS := Lib.hid (HS.out.trans (hb.mono HS.out.size)); clear hb)
    | (go_at_call 8; refine (HPA.out _ HS.out).mono ?_; rintro e wpa ⟨vx, vcx, rfl, HX, hb0⟩; have hb := hb0.out; have KP := Lib.hid (blk_below KP.out hb); have HS := Lib.hid (HS.out.trans (hb.mono HS.out.size)); clear hb hb0)
    | (refine wpList_putB rfl 25 _ _ rfl wpa.heap.size #[vx, str p.locals, str p.globs, vcx] rfl rfl 25 _ (blk_new _ _ _) prog_info rfl HX.out.2 ?_; have hb := put_new wpa #[vx, str p.locals, str p.globs, vcx]; have hk := putB_at (blk_new wpa zeroP 25) #[vx, str p.locals, str p.globs, vcx] 25; generalize putB (wpa.alloc (.cells zeroP 25)) wpa.heap.size #[vx, str p.locals, str p.globs, vcx] 25 = W7 at *; have HT : Hid (TxW w W7 (progC vt p vc) #[vx, str p.locals, str p.globs, vcx] wpa.heap.size p) := Lib.hid ⟨HS.out.trans (hb.mono HS.out.size), blk_below KP.out hb, hk, HP0.out.below (HS.out.trans (hb.mono HS.out.size)), HX.out.1.below hb⟩; clear hk hb))
  obtain ⟨NQ, hNQ⟩ : ∃ NQ, NQ = wpa.heap.size := ⟨_, rfl⟩
  rw [← hNQ] at HT ⊢
  clear hNQ HX KP HS HP0 HSO HWO HPR HPA
  go_upto_region 6 with (first
    | (refine wpList_loadB rfl 25 _ rfl NQ #[vx, str p.locals, str p.globs, vcx] rfl 25 HT.out.other _ Tryz.underlying25 rfl prog_info ?_)
    | (go_at_call 9; refine (HCK.out _ _ HT.out.below HT.out.there).mono ?_; rintro e w8 ⟨rfl, hb⟩; have HT8 := Lib.hid (HT.out.next hb); clear hb))
  clear HT HCK
  go_upto_region 7 with (first
    | (refine wpList_loadB rfl 25 _ rfl w.heap.size (progC vt p vc) rfl 25 HT8.out.prog _ Tryz.underlying25 rfl prog_info ?_)
    | (go_at_call 10; refine (HBE.out _ _ HT8.out.below HT8.out.here).mono ?_; rintro e w9 ⟨a, ca, rfl, hc1, hc2, hr, hb⟩; have HT9 := Lib.hid (HT8.out.next hb); have HR := Lib.hid hr; clear hb hr))
  clear HT8
  go_upto_region 8 with (first
    | (refine wpList_loadB rfl 25 _ rfl NQ #[vx, str p.locals, str p.globs, vcx] rfl 25 HT9.out.other _ Tryz.underlying25 rfl prog_info ?_)
    | (go_at_call 10; refine (HBE.out _ _ HT9.out.below HT9.out.there).mono ?_; rintro e w10 ⟨a', ca', rfl, hd1, hd2, hr, hb⟩; have HB10 := Lib.hid (HT9.out.below.trans (hb.mono HT9.out.below.size)); have HR2 := Lib.hid hr; have HR := Lib.hid (HR.out.below hb); clear hb hr))
  clear HT9 HBE
  go_wp2_with (fail)
  go_loopw [80] (fun v80 wr => ∃ k : Nat, k ≤ p.code.length ∧ v80 = .int .i64 k ∧ Hid (Below w10.heap.size w10 wr)) (fun v80 _ => p.code.length - (intOf v80).toNat)
  case atStart => exact ⟨0, Nat.zero_le _, rfl, Lib.hid (Below.refl _ _)⟩
  case round =>
    obtain ⟨k, hk, rfl, HB⟩ := hrel
    by_cases hkl : k < p.code.length
    · have hki : (k : Int) < (p.code.length : Int) := by omega
      have hk0 : (0 : Int) ≤ (k : Int) := by omega
      obtain ⟨x, hx⟩ : ∃ x, (bestL p)[k]? = some x := ⟨_, List.getElem?_eq_getElem (by rw [best_len]; exact hkl)⟩
      obtain ⟨b1, o1, rfl, q0, q1, q2⟩ := facts_cell (HR.out.below HB.out) hx
      obtain ⟨b2, o2, rfl, r0, r1, r2⟩ := facts_cell (HR2.out.below HB.out) hx
      obtain ⟨x0, x1, x2⟩ := x
      dsimp only at q0 q1 q2 r0 r1 r2
      clear hx
      rcases x0 with _ | _ <;> rcases x1 with _ | _ <;> rcases x2 with _ | _ <;>
        (go_wp2
         go_quiet (fail)
         go_wp2
         go_roundw
         case rel => exact ⟨k + 1, by omega, by go_num, Lib.hid (HB.out.trans ((drewB _ _).mono HB.out.size))⟩
         case measure => simp [intOf]; omega)
    · have hkn : ¬ ((k : Int) < (p.code.length : Int)) := by omega
      go_wp2
      go_ret
      exact ⟨rfl, HB10.out.trans (HB.out.mono HB10.out.size)⟩
theorem wtext_walk (v : Value) (p : PProg) (w : World) (h : ProgAt w v p) (hs : OkP p) (hl : p.types.length ≤ 8796093022208) (hA : HasAll w) : Calls Tryz.prog 3 #[v] w fun e w' => e = .returned (.bool true) ∧ Below w.heap.size w w' := by
  obtain ⟨vt, vc, rfl, ht, hc⟩ := id h
  have HS : Hid (Below w.heap.size w (w.alloc (.cells (progC vt p vc) 25))) := Lib.hid ((Below.refl _ _).alloc (Nat.le_refl _) _)
  have KP : Hid (blk (w.alloc (.cells (progC vt p vc) 25)) w.heap.size (progC vt p vc) 25) := Lib.hid (blk_new _ _ _)
  have hso := fun w1 (hb : Below w.heap.size w w1) (r : Bool) (hr : soundB p = r) => sound_n _ p w1 r (h.below hb) hs (hA.t.below hb) hr
  rcases hsd : soundB p with _ | _
  · exact wtext_no w _ p vt vc rfl KP HS (Lib.hid fun w1 hb => hso w1 hb _ hsd) (Lib.hid fun w1 hb => wworks_n w1 (hA.below hb))
  · obtain ⟨hf, hlen, hck, hin, h1⟩ := sound_parts hsd
    obtain ⟨hh, hl1, hl2, hall, _⟩ := check_ok hck
    have hcn := check_none hh hl1 hl2 hall
    have hm := may_check hck
    have e : printL p = (joinL (linesP p), 0) := by unfold printL; rw [hm]; rfl
    obtain ⟨t1, t2⟩ := text_short hs hm hf hl
    exact wtext_yes w _ p vt vc (joinL (linesP p)) rfl KP HS (Lib.hid h) (by omega) (Lib.hid fun w1 hb => hso w1 hb _ hsd) (Lib.hid fun w1 hb => wworks_n w1 (hA.below hb))
      (Lib.hid fun w1 hb => by have h9 := print_few _ p w1 (h.below hb) hs (hA.below hb) hf hl; rw [e] at h9; exact h9)
      (Lib.hid fun w1 hb => parse_str (joinL (linesP p)) (p, 0, 0) w1 (hA.below hb) (by omega) (parse_text hs hm t1))
      (Lib.hid fun w1 v hb h1 => check_n v p (-1) 0 w1 h1 hs (hA.o.below hb) (by rw [hcn]) (by rw [hcn]; rfl))
      (Lib.hid fun w1 v hb h1 => best_post h1 hs (hA.o.below hb) hck)
end Go.Proofs.YtcjhgibhenocpaaGreatDoor
