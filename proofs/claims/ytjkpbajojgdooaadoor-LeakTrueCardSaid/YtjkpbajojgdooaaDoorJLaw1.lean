/-
  LeakTrue: the walk.
-/
import Derived.Test.YtjkpbajojgdooaaDoorJKept
import Derived.Test.YtjkpbajojgdooaaDoorQuietIn
import Derived.Test.YtjkpbajojgdooaaDoorJRu
import Derived.Test.YtjkpbajojgdooaaDoorVPa
import Derived.Lib.AppendZeros
import Derived.Deep.LoopGhost
import Derived.Deep.RegionHeld3
import Derived.Deep.CutRange
import Derived.Deep.CutBlock
import Derived.Deep.QuietTactic
import Derived.Deep.RegionWith
namespace Go.Proofs.YtjkpbajojgdooaaDoor
set_option linter.unusedSimpArgs false
set_option linter.unusedVariables false
open Go.RowKit

theorem cell_keep {w w' : World} {a : Addr} {v : Value} (h : w.cell? a = some v) (hb : Below w.heap.size w w') : w'.cell? a = some v := by rw [hb.cell (World.block_lt_of_cell? w _ h)]; exact h
set_option maxRecDepth 100000 in
theorem idxG (l : List Int) (hl : l.length = 4) (k : Nat) (hk : k < 4) (w : World) : (Instr.index 32 (.agg (xC l)) (.int .i64 (k : Int))).run Tryd.prog w = .ok (.int .i64 (l.getD k 0)) w := by
  match l, hl with
  | [a, b, c, d], _ =>
    obtain rfl | rfl | rfl | rfl : k = 0 ∨ k = 1 ∨ k = 2 ∨ k = 3 := by omega
    all_goals rfl
set_option maxRecDepth 100000 in
set_option maxHeartbeats 8000000 in
theorem jtrue_at (w W0 : World) (p : PProg) (a0 : Nat) (x : Option Addr) (bb o kx kx' : Nat)
    (hW0 : W0 = w.alloc (.cells (progC (.slice x p.types.length kx) p (.slice (some ⟨bb, o, none⟩) p.code.length kx')) 25)) (KP : Hid (Keep W0 w.heap.size (.slice x p.types.length kx) (.slice (some ⟨bb, o, none⟩) p.code.length kx') p)) (HB : Hid (Below w.heap.size w W0))
    (HAL : Hid (∀ w1, Calls Tryd.prog 7 #[] w1 (AggPost w1 (.bool true))))
    (HSO : Hid (∀ w1, ProgAt w1 (.agg (progC (.slice x p.types.length kx) p (.slice (some ⟨bb, o, none⟩) p.code.length kx'))) p → Below w.heap.size w w1 → Calls Tryd.prog 6 #[.agg (progC (.slice x p.types.length kx) p (.slice (some ⟨bb, o, none⟩) p.code.length kx'))] w1 (AggPost w1 (.bool (soundB p)))))
    (g2 : kx' ≤ 9223372036854775807) (g1 : p.code.length ≤ kx') (ha0 : a0 ≤ 255) (HOK : Hid (OkP p)) (hsd : soundB p = true)
    (HMY : Hid (∀ w1, ProgAt w1 (.agg (progC (.slice x p.types.length kx) p (.slice (some ⟨bb, o, none⟩) p.code.length kx'))) p → Calls Tryd.prog 8 #[.agg (progC (.slice x p.types.length kx) p (.slice (some ⟨bb, o, none⟩) p.code.length kx'))] w1 (MayPost w1 p)))
    (HLK : Hid (∀ (w1 : World) (k : Nat), ProgAt w1 (.agg (progC (.slice x p.types.length kx) p (.slice (some ⟨bb, o, none⟩) p.code.length kx'))) p → Calls Tryd.prog 10 #[.agg #[.slice x p.types.length kx, str p.locals, str p.globs, .slice (some ⟨bb, o, none⟩) p.code.length kx'], .int .i64 k] w1 (AggPost w1 (.bool (leakB p k)))))
    (HTO : Hid (∀ (w1 : World) (t f : Int), Below w.heap.size w w1 → Calls Tryd.prog 11 #[.slice x p.types.length kx, .int .i64 t, .int .i64 f] w1 fun e w' => e = .returned (.int .i64 (toP p.types t f)) ∧ w1 = w'))
    (HCO : Hid (∀ w1, Below w.heap.size w w1 → ∀ m i, p.code[m]? = some i → w1.rangeAt bb (o + m * 5) (insC i).toList))
    (HPA : Hid (∀ w1, Below w.heap.size w w1 → ProgAt w1 (.agg (progC (.slice x p.types.length kx) p (.slice (some ⟨bb, o, none⟩) p.code.length kx'))) p))
    (HST : Hid (∀ w1 s vo vt ts n, Below w.heap.size w w1 → StN w1 vo vt s → SizeOk s → n ≤ 1000000 → RunOk p s ts n → Calls Tryd.prog 12 #[.agg (progC (.slice x p.types.length kx) p (.slice (some ⟨bb, o, none⟩) p.code.length kx')), .agg (stC s vo vt)] w1 (StepPost w1 (stepL p s)))) :
    Calls Tryd.prog 3 #[.agg (progC (.slice x p.types.length kx) p (.slice (some ⟨bb, o, none⟩) p.code.length kx')), .int .u8 a0] w (AggPost w (.bool true)) := by
  go_enter Tryd.func3, Tryd.ntmps3
  go_upto_region 1 with (fail)
  rw [← hW0]
  clear hW0
  obtain ⟨hfw, hl60, hck, hin0, hl1⟩ := sound_parts hsd
  have HIN := Lib.hid hin0
  have HCK := Lib.hid hck
  rw [hsd] at HSO
  clear hin0 hck hsd
  go_upto_region 4 with (first
    | (refine wpList_loadB rfl 25 _ rfl w.heap.size (progC (.slice x p.types.length kx) p (.slice (some ⟨bb, o, none⟩) p.code.length kx')) rfl 25 KP.out.blk _ Tryd.underlying25 rfl prog_info ?_)
    | (refine wpList_loadBw (by rfl) 25 _ rfl w.heap.size (progC (.slice x p.types.length kx) p (.slice (some ⟨bb, o, none⟩) p.code.length kx')) rfl 25 KP.out.blk _ Tryd.underlying25 rfl prog_info ?_)
    | (go_at_call 7; ((with_reducible refine (HAL.out _).mono ?_); rintro e w1 ⟨rfl, hb⟩; have KP := Lib.hid (KP.out.below hb); have HB := Lib.hid (HB.out.trans (hb.mono HB.out.size)); clear hb))
    | (go_at_call 6; ((with_reducible refine (HSO.out _ KP.out.at' HB.out).mono ?_); rintro e w2 ⟨rfl, hb⟩; have KP := Lib.hid (KP.out.below hb); have HB := Lib.hid (HB.out.trans (hb.mono HB.out.size)); clear hb))
    | (go_at_call 8; ((with_reducible refine (HMY.out _ KP.out.at').mono ?_); rintro e wm ⟨vm0, rfl, hm, hb⟩; have KP := Lib.hid (KP.out.below hb); have HB := Lib.hid (HB.out.trans (hb.mono HB.out.size)); clear hb; have HM := Lib.hid hm; clear hm)))
  obtain ⟨xm, cm, rfl, hc1, hc2⟩ := HM.out.form
  have hll : p.locals.length ≤ 8 := (head_parts (check_ok HCK.out).1).2.2.1
  have p1 : wm.cell? ⟨w.heap.size, 1, none⟩ = some (str p.locals) := blk_cell KP.out.blk 1 _ rfl
  clear HSO HAL HMY
  go_upto_region 9 with (fail)
  clear p1
  have hw0 := TlW.start wm
  have HBA : Hid (∀ w', Below wm.heap.size wm w' → blk w' w.heap.size (progC (.slice x p.types.length kx) p (.slice (some ⟨bb, o, none⟩) p.code.length kx')) 25 ∧ MayAt w' (.slice xm p.locals.length cm) p ∧ Below w.heap.size w w') := Lib.hid fun w' hb => ⟨blk_below KP.out.blk hb, HM.out.below hb, HB.out.trans (hb.mono HB.out.size)⟩
  have HP5 : Hid (∀ w', Below wm.heap.size wm w' → w'.cell? ⟨w.heap.size, 0, none⟩ = some (.slice x p.types.length kx) ∧ w'.cell? ⟨w.heap.size, 1, none⟩ = some (str p.locals) ∧ w'.cell? ⟨w.heap.size, 2, none⟩ = some (str p.globs) ∧ w'.cell? ⟨w.heap.size, 3, none⟩ = some (.slice (some ⟨bb, o, none⟩) p.code.length kx')) := Lib.hid fun w' hb => ⟨blk_cell (HBA.out _ hb).1 0 _ rfl, blk_cell (HBA.out _ hb).1 1 _ rfl, blk_cell (HBA.out _ hb).1 2 _ rfl, blk_cell (HBA.out _ hb).1 3 _ rfl⟩
  generalize hwb : (wm.alloc (.cells zeroS 36)).alloc (.cells #[.slice none 0 0] 37) = wb at hw0 ⊢
  clear hwb
  generalize hB : wm.heap.size + 1 = bm at hw0 ⊢
  clear hB
  generalize hB : wm.heap.size = b at hw0 ⊢
  clear hB
  have HW0 := Lib.hid hw0
  have HR0 := Lib.hid (run_0 p)
  have HL0 := Lib.hid (lk_0 p)
  clear hw0 KP HB HM
  have hmf : ∀ (fn : Fn) (first cap : Array Value) (w : World), (Instr.makeFunc fn first cap).run Tryd.prog w = .ok (.func fn first cap) w := fun _ _ _ _ => rfl
  go_wp2_with (fail)
  go_loopw [8, 38] (fun v8 v38 wr => ∃ (n : Nat) (s : PSt) (ts made : List Nat) (vo vt vm vy : Value), n ≤ a0 ∧ vy = v8 ∧ v38 = .int .i64 n ∧ Hid (TlW wm wr b bm s vo vt vm vy made ts) ∧ Hid (RunOk p s ts n) ∧ Hid (LkI p s ts made)) (fun _ v38 _ => a0 - (intOf v38).toNat)
  case atStart => exact ⟨0, st0, [], [], _, _, _, _, Nat.zero_le _, rfl, rfl, HW0, HR0, HL0⟩
  case round =>
    clear HW0 HR0 HL0
    obtain ⟨n, s, ts, made, vo, vt, vm, vy, hn, rfl, rfl, HW, HR, HL⟩ := hrel
    by_cases hna : n < a0
    · have hni : (n : Int) < (a0 : Int) := by omega
      have HKE : Hid (∀ w1 v, TlW wm w1 b bm s vo vt vm vy made ts → Calls Tryd.prog 9 #[.int .i64 v, .pointer (some ⟨bm, 0, none⟩), .pointer (some ⟨w.heap.size, 0, none⟩)] w1 (AggPost w1 (.bool (keptB p made v)))) := Lib.hid fun w1 v hq => jkept_n w1 bm w.heap.size vm _ _ wm.heap.size p made v hq.box (HBA.out _ hq.below).1 hq.mr (fun w2 k hb => HLK.out w2 k (HPA.out _ ((HBA.out _ hq.below).2.2.trans (hb.mono (HBA.out _ hq.below).2.2.size))))
      have hp8 : s.p.length = 8 := HW.out.at'.len.p
      go_wp2_with (fail)
      go_loopw [43] (fun v43 wx => ∃ (a : Nat), a ≤ p.locals.length ∧ v43 = .int .i64 a ∧ Hid (TlW wm wx b bm s vo vt vm vy made ts)) (fun v43 _ => p.locals.length - (intOf v43).toNat)
      case atStart => exact ⟨0, Nat.zero_le _, rfl, HW⟩
      case round =>
        obtain ⟨a, ha, rfl, HW⟩ := hrel
        by_cases hal : a < p.locals.length
        · have hai : (a : Int) < (p.locals.length : Int) := by omega
          have hai8 : (a : Int) < 8 := by omega
          have haz : (0 : Int) ≤ (a : Int) := by omega
          have HLL := Lib.hid (fun h => lk_local HL.out (a := a) hal h)
          have cS : wr.cell? ⟨b, 8 + a, none⟩ = some (.int .i64 (s.p.getD a 0)) := blk_cell HW.out.st _ _ (stC_p HW.out.at'.len a (by omega))
          obtain ⟨v, hv⟩ : ∃ v, v = s.p.getD a 0 := ⟨_, rfl⟩
          rw [← hv] at HLL cS
          clear hv
          go_upto_region 15 with (fail)
          by_cases hk : KeptN p made v
          /-A1-/
          · obtain ⟨hzl, hzm⟩ := HLL.out hk
            obtain ⟨hv0, hv1, -⟩ := id hk
            obtain ⟨g, c, e, h2, h3, h4⟩ := own_nat HW.out.mr (k := (v - 1).toNat) (by omega)
            have hpl : made.getD (v - 1).toNat 0 = placeN made v := by unfold placeN; congr 1; omega
            rw [hpl] at h4
            have HKT : Hid (∀ w1, TlW wm w1 b bm s vo vt vm vy made ts → Calls Tryd.prog 9 #[.int .i64 v, .pointer (some ⟨bm, 0, none⟩), .pointer (some ⟨w.heap.size, 0, none⟩)] w1 (AggPost w1 (.bool true))) := Lib.hid fun w1 hq => by have h9 := HKE.out w1 v hq; rwa [keptB_iff.2 hk] at h9
            have cM : wr.cell? ⟨bm, 0, none⟩ = some (.slice (some ⟨g, 0, none⟩) made.length c) := by rw [← e]; exact blk_cell HW.out.box 0 _ rfl
            obtain ⟨b1, o1, b2, o2, c2, e2, -, -, h5, h6, cR, hcb⟩ := (HBA.out _ HW.out.below).2.1.row hal
            have cB := hcb _ (Nat.le_of_lt hzl)
            rw [hzm] at cB
            generalize placeN made v = z at h4 cB hzl
            obtain ⟨n0, hn0⟩ : ∃ n0, n0 = (v - 1).toNat := ⟨_, rfl⟩
            have hv2 : v - 1 = (n0 : Int) := by omega
            rw [← hn0] at h4
            have hn1 : (n0 : Int) < (made.length : Int) := by omega
            have hn2 : (0 : Int) ≤ (n0 : Int) := by omega
            have hw1 : IntKind.i64.wrap (n0 : Int) = (n0 : Int) := by rw [IntKind.wrap_i64]; omega
            have hzd : decide ((p.code.length : Int) + 1 ≤ (z : Int)) = false := by simp; omega
            have hz2 : (z : Int) < (p.code.length : Int) + 1 := by omega
            have hz3 : (0 : Int) ≤ (z : Int) := by omega
            have HFA : Hid (∀ w', Below wr.heap.size wr w' → w'.cell? ⟨b, 8 + a, none⟩ = some (.int .i64 v) ∧ w'.cell? ⟨bm, 0, none⟩ = some (.slice (some ⟨g, 0, none⟩) made.length c) ∧ w'.cell? ⟨g, n0, none⟩ = some (.int .i64 (z : Int)) ∧ w'.cell? ⟨b1, o1 + a, none⟩ = some (.slice (some ⟨b2, o2, none⟩) (p.code.length + 1) c2) ∧ w'.cell? ⟨b2, o2 + z, none⟩ = some (.bool true)) := Lib.hid fun w' hb => ⟨cell_keep cS hb, cell_keep cM hb, cell_keep h4 hb, cell_keep cR hb, cell_keep cB hb⟩
            have HE2 := Lib.hid e2
            obtain rfl := HE2.out
            have hne : Nonempty (InW (TlG wm wr b bm s vo vt vm vy made ts)) := ⟨⟨_, TlG.start HW.out⟩⟩
            refine wp_quiet_in (TlG wm wr b bm s vo vt vm vy made ts) (by kernel_rfl) (by kernel_rfl) (TlG.start HW.out) ?_
            have q0 : ∀ u : InW (TlG wm wr b bm s vo vt vm vy made ts), u.w.cell? ⟨b, 8 + a, none⟩ = some (.int .i64 v) := fun u => (HFA.out _ u.ok.2).1
            have q1 : ∀ u : InW (TlG wm wr b bm s vo vt vm vy made ts), u.w.cell? ⟨bm, 0, none⟩ = some (.slice (some ⟨g, 0, none⟩) made.length c) := fun u => (HFA.out _ u.ok.2).2.1
            have q2 : ∀ u : InW (TlG wm wr b bm s vo vt vm vy made ts), u.w.cell? ⟨g, n0, none⟩ = some (.int .i64 (z : Int)) := fun u => (HFA.out _ u.ok.2).2.2.1
            have q3 : ∀ u : InW (TlG wm wr b bm s vo vt vm vy made ts), u.w.cell? ⟨b1, o1 + a, none⟩ = some (.slice (some ⟨b2, o2, none⟩) (p.code.length + 1) c2) := fun u => (HFA.out _ u.ok.2).2.2.2.1
            have q4 : ∀ u : InW (TlG wm wr b bm s vo vt vm vy made ts), u.w.cell? ⟨b2, o2 + z, none⟩ = some (.bool true) := fun u => (HFA.out _ u.ok.2).2.2.2.2
            have HKQ : Hid (∀ u : InW (TlG wm wr b bm s vo vt vm vy made ts), Calls Tryd.prog 9 #[.int .i64 v, .pointer (some ⟨bm, 0, none⟩), .pointer (some ⟨w.heap.size, 0, none⟩)] u.w fun e w'' => e = .returned (.bool true) ∧ ∃ u' : InW (TlG wm wr b bm s vo vt vm vy made ts), w'' = u'.w) := Lib.hid fun u => (HKT.out u.w u.ok.1).mono fun e w'' ⟨he, hb⟩ => ⟨he, ⟨⟨w'', u.ok.next hb⟩, rfl⟩⟩
            clear hk hpl hcb hn0 hzl hzm e e2 HLL hv0 hv1 HKT HFA cS cM h4 cR cB
            repeat (first | go_big_quiet_step ((go_at_call 9; exact HKQ.out _)) | quiet_step ((go_at_call 9; exact HKQ.out _)))
            refine wpQuiet_nil ?_
            intro _ hw'
            obtain ⟨u, hw''⟩ := hw'
            subst hw''
            have HW := Lib.hid u.ok.1
            clear q0 q1 q2 q3 q4 HKQ h2 h3 h5 h6 HE2
            go_wp2
            go_roundw
            case rel => exact ⟨a + 1, by omega, by go_num, HW⟩
            case measure => simp [intOf]; omega
          /-A2-/
          · have HKT : Hid (∀ w1, TlW wm w1 b bm s vo vt vm vy made ts → Calls Tryd.prog 9 #[.int .i64 v, .pointer (some ⟨bm, 0, none⟩), .pointer (some ⟨w.heap.size, 0, none⟩)] w1 (AggPost w1 (.bool false))) := Lib.hid fun w1 hq => by have h9 := HKE.out w1 v hq; rwa [keptB_no hk] at h9
            have HFA : Hid (∀ w', Below wr.heap.size wr w' → w'.cell? ⟨b, 8 + a, none⟩ = some (.int .i64 v)) := Lib.hid fun w' hb => cell_keep cS hb
            have hne : Nonempty (InW (TlG wm wr b bm s vo vt vm vy made ts)) := ⟨⟨_, TlG.start HW.out⟩⟩
            refine wp_quiet_in (TlG wm wr b bm s vo vt vm vy made ts) (by kernel_rfl) (by kernel_rfl) (TlG.start HW.out) ?_
            have q0 : ∀ u : InW (TlG wm wr b bm s vo vt vm vy made ts), u.w.cell? ⟨b, 8 + a, none⟩ = some (.int .i64 v) := fun u => HFA.out _ u.ok.2
            have HKQ : Hid (∀ u : InW (TlG wm wr b bm s vo vt vm vy made ts), Calls Tryd.prog 9 #[.int .i64 v, .pointer (some ⟨bm, 0, none⟩), .pointer (some ⟨w.heap.size, 0, none⟩)] u.w fun e w'' => e = .returned (.bool false) ∧ ∃ u' : InW (TlG wm wr b bm s vo vt vm vy made ts), w'' = u'.w) := Lib.hid fun u => (HKT.out u.w u.ok.1).mono fun e w'' ⟨he, hb⟩ => ⟨he, ⟨⟨w'', u.ok.next hb⟩, rfl⟩⟩
            clear hk HLL HKT HFA cS
            repeat (first | go_big_quiet_step ((go_at_call 9; exact HKQ.out _)) | quiet_step ((go_at_call 9; exact HKQ.out _)))
            refine wpQuiet_nil ?_
            intro _ hw'
            obtain ⟨u, hw''⟩ := hw'
            subst hw''
            have HW := Lib.hid u.ok.1
            clear q0 HKQ
            go_wp2
            go_roundw
            case rel => exact ⟨a + 1, by omega, by go_num, HW⟩
            case measure => simp [intOf]; omega
        · have haw : ¬ ((a : Int) < (p.locals.length : Int)) := by omega
          clear hal ha hp8
          go_wp2_with (refine wpList_ldG rfl (.tmp 86) rfl rfl HW.out.st HW.out.at'.len ?_)
          go_loopw [88] (fun v88 wx => ∃ (k : Nat), k ≤ 4 ∧ v88 = .int .i64 k ∧ Hid (TlW wm wx b bm s vo vt vm vy made ts)) (fun v88 _ => 4 - (intOf v88).toNat)
          case atStart => exact ⟨0, Nat.zero_le _, rfl, HW⟩
          case round =>
            clear HW
            obtain ⟨k, hk, rfl, HW⟩ := hrel
            by_cases hkl : k < 4
            · have hki : (k : Int) < 4 := by omega
              have hk0 : (0 : Int) ≤ (k : Int) := by omega
              have hix := idxG s.g HW.out.at'.len.g k hkl
              have hno := keptB_no (lk_glob HL.out HR.out.inv k)
              obtain ⟨v, hv⟩ : ∃ v, v = s.g.getD k 0 := ⟨_, rfl⟩
              rw [← hv] at hix hno
              have HKT : Hid (∀ w1, TlW wm w1 b bm s vo vt vm vy made ts → Calls Tryd.prog 9 #[.int .i64 v, .pointer (some ⟨bm, 0, none⟩), .pointer (some ⟨w.heap.size, 0, none⟩)] w1 (AggPost w1 (.bool false))) := Lib.hid fun w1 hq => by have h9 := HKE.out w1 v hq; rwa [hno] at h9
              clear hv hno
              go_wp2_with (go_at_call 9; ((with_reducible refine (HKT.out _ HW.out).mono ?_); rintro e w3 ⟨rfl, hb⟩; have HW := Lib.hid (HW.out.next hb); clear hb))
              go_roundw
              case rel => exact ⟨k + 1, by omega, by go_num, HW⟩
              case measure => simp [intOf]; omega
            · have hkw : ¬ ((k : Int) < 4) := by omega
              have HSL := Lib.hid HR.out.inv.lo
              obtain ⟨ao, co, hvo, hco, hco2⟩ := HW.out.at'.objs.form
              obtain ⟨ay, cy, hvy, hcy, hcy2⟩ := own_natF HW.out.tr
              subst hvo hvy
              have hlt := HR.out.lt
              clear hkl hk
              have cO : wr.cell? ⟨b, 20, none⟩ = some (.slice ao s.objs.length co) := blk_cell HW.out.st _ _ (stC_rest (vt := vt) HW.out.at'.len).1
              go_wp2_with (fail)
              clear cO
              go_loopw [98] (fun v98 wx => ∃ (k : Nat), k ≤ s.objs.length ∧ v98 = .int .i64 k ∧ Hid (TlW wm wx b bm s (.slice ao s.objs.length co) vt vm (.slice ay ts.length cy) made ts)) (fun v98 _ => s.objs.length - (intOf v98).toNat)
              case atStart => exact ⟨0, Nat.zero_le _, rfl, HW⟩
              case round =>
                clear HW
                obtain ⟨k, hk, rfl, HW⟩ := hrel
                by_cases hkl : k < s.objs.length
                · have hki : (k : Int) < (s.objs.length : Int) := by omega
                  have hk0 : (0 : Int) ≤ (k : Int) := by omega
                  have hkt : (k : Int) < (ts.length : Int) := by have := HSL.out; omega
                  obtain ⟨b1, o1, b2, o2, c2, e1, cR, hc3, hc4, hcf⟩ := gridN_at HW.out.at'.objs hkl
                  obtain ⟨gy, cy2, e2, -, -, cT⟩ := own_nat HW.out.tr (k := k) (by have := HSL.out; omega)
                  simp only [Value.slice.injEq] at e2
                  obtain ⟨e2, -, e3⟩ := e2
                  have hfd := HL.out.fld k (by have := HSL.out; omega)
                  subst e1 e2 e3
                  have HFD := Lib.hid hfd
                  have HCF := Lib.hid hcf
                  have HCT := Lib.hid cT
                  obtain ⟨wc, hwc⟩ : ∃ wc, wc = wr := ⟨_, rfl⟩
                  obtain ⟨m, hm⟩ : ∃ m, m = (s.objs.getD k []).length := ⟨_, rfl⟩
                  rw [← hm] at cR hc3 HCF
                  have HWG : Hid (Below wc.heap.size wc wr) := Lib.hid (by rw [hwc]; exact Below.refl _ _)
                  rw [← hwc] at HCF HCT
                  clear hfd hcf cT hm hwc
                  go_wp2_with (fail)
                  clear cR
                  have HG0 : Hid (TlG wm wc b bm s (.slice (some ⟨b1, o1, none⟩) s.objs.length co) vt vm (.slice (some ⟨gy, 0, none⟩) ts.length cy) made ts wr) := Lib.hid ⟨HW.out, HWG.out⟩
                  clear HW HWG
                  go_loopw [105] (fun v105 wx => ∃ (f : Nat), f ≤ m ∧ v105 = .int .i64 f ∧ Hid (TlG wm wc b bm s (.slice (some ⟨b1, o1, none⟩) s.objs.length co) vt vm (.slice (some ⟨gy, 0, none⟩) ts.length cy) made ts wx)) (fun v105 _ => m - (intOf v105).toNat)
                  case atStart => exact ⟨0, Nat.zero_le _, rfl, HG0⟩
                  case round =>
                    clear HG0
                    obtain ⟨f, hf, rfl, HG⟩ := hrel
                    by_cases hfl : f < m
                    · have hfi : (f : Int) < (m : Int) := by omega
                      have hf0 : (0 : Int) ≤ (f : Int) := by omega
                      have cF := cell_keep (HCF.out f hfl) HG.out.2
                      obtain ⟨v, hv⟩ : ∃ v, v = (s.objs.getD k []).getD f 0 := ⟨_, rfl⟩
                      have HNO := Lib.hid (fun h => keptB_no (HFD.out f h))
                      rw [← hv] at cF HNO
                      clear hv
                      obtain ⟨z, hz⟩ : ∃ z, z = ts.getD k 0 := ⟨_, rfl⟩
                      have HTP : Hid (∀ w1, Below w.heap.size w w1 → Calls Tryd.prog 11 #[.slice x p.types.length kx, .int .i64 (z : Int), .int .i64 (f : Int)] w1 fun e w' => e = .returned (.int .i64 (toP p.types (z : Int) (f : Int))) ∧ w1 = w') := Lib.hid fun w1 hb => HTO.out w1 _ _ hb
                      rw [← hz] at HNO
                      have cZ : wc.cell? ⟨gy, k, none⟩ = some (.int .i64 (z : Int)) := by rw [hz]; exact HCT.out
                      clear hz
                      generalize toP p.types (z : Int) (f : Int) = t at HTP HNO
                      go_upto_region 30 with (fail)
                      clear cF
                      have hne : Nonempty (InW (TlG wm wc b bm s (.slice (some ⟨b1, o1, none⟩) s.objs.length co) vt vm (.slice (some ⟨gy, 0, none⟩) ts.length cy) made ts)) := ⟨⟨_, HG.out.next (Below.refl _ _).drew⟩⟩
                      have HTQ : Hid (∀ u : InW (TlG wm wc b bm s (.slice (some ⟨b1, o1, none⟩) s.objs.length co) vt vm (.slice (some ⟨gy, 0, none⟩) ts.length cy) made ts), Calls Tryd.prog 11 #[.slice x p.types.length kx, .int .i64 (z : Int), .int .i64 (f : Int)] u.w fun e w'' => e = .returned (.int .i64 t) ∧ ∃ u' : InW (TlG wm wc b bm s (.slice (some ⟨b1, o1, none⟩) s.objs.length co) vt vm (.slice (some ⟨gy, 0, none⟩) ts.length cy) made ts), w'' = u'.w) := Lib.hid fun u => (HTP.out u.w (HBA.out _ u.ok.1.below).2.2).mono fun e w'' ⟨he, hw⟩ => ⟨he, ⟨u, hw.symm⟩⟩
                      have q0 : ∀ u : InW (TlG wm wc b bm s (.slice (some ⟨b1, o1, none⟩) s.objs.length co) vt vm (.slice (some ⟨gy, 0, none⟩) ts.length cy) made ts), u.w.cell? ⟨w.heap.size, 0, none⟩ = some (.slice x p.types.length kx) := fun u => (HP5.out _ u.ok.1.below).1
                      have q1 : ∀ u : InW (TlG wm wc b bm s (.slice (some ⟨b1, o1, none⟩) s.objs.length co) vt vm (.slice (some ⟨gy, 0, none⟩) ts.length cy) made ts), u.w.cell? ⟨gy, k, none⟩ = some (.int .i64 (z : Int)) := fun u => cell_keep cZ u.ok.2
                      by_cases ht : 0 ≤ t
                      · have htd : decide (0 ≤ t) = true := by simpa using ht
                        have hno := HNO.out ht
                        have HKQ : Hid (∀ u : InW (TlG wm wc b bm s (.slice (some ⟨b1, o1, none⟩) s.objs.length co) vt vm (.slice (some ⟨gy, 0, none⟩) ts.length cy) made ts), Calls Tryd.prog 9 #[.int .i64 v, .pointer (some ⟨bm, 0, none⟩), .pointer (some ⟨w.heap.size, 0, none⟩)] u.w fun e w'' => e = .returned (.bool false) ∧ ∃ u' : InW (TlG wm wc b bm s (.slice (some ⟨b1, o1, none⟩) s.objs.length co) vt vm (.slice (some ⟨gy, 0, none⟩) ts.length cy) made ts), w'' = u'.w) := Lib.hid fun u => by
                          have h9 := HKE.out u.w v u.ok.1
                          rw [hno] at h9
                          exact h9.mono fun e w'' ⟨he, hb⟩ => ⟨he, ⟨⟨w'', u.ok.next hb⟩, rfl⟩⟩
                        clear hno HNO HTP cZ
                        refine wp_quiet_in (TlG wm wc b bm s (.slice (some ⟨b1, o1, none⟩) s.objs.length co) vt vm (.slice (some ⟨gy, 0, none⟩) ts.length cy) made ts) (by kernel_rfl) (by kernel_rfl) (HG.out.next (Below.refl _ _).drew) ?_
                        clear HG
                        repeat (first | go_big_quiet_step ((first | (go_at_call 9; exact HKQ.out _) | (go_at_call 11; exact HTQ.out _))) | quiet_step ((first | (go_at_call 9; exact HKQ.out _) | (go_at_call 11; exact HTQ.out _))))
                        refine wpQuiet_nil ?_
                        intro _ hw'
                        obtain ⟨u, hw''⟩ := hw'
                        subst hw''
                        have HG := Lib.hid u.ok
                        clear q0 q1 HKQ HTQ
                        go_wp2
                        go_roundw
                        case rel => exact ⟨f + 1, by omega, by go_num, HG⟩
                        case measure => simp [intOf]; omega
                      · have htd : decide (0 ≤ t) = false := by simpa using ht
                        clear HNO HTP cZ
                        refine wp_quiet_in (TlG wm wc b bm s (.slice (some ⟨b1, o1, none⟩) s.objs.length co) vt vm (.slice (some ⟨gy, 0, none⟩) ts.length cy) made ts) (by kernel_rfl) (by kernel_rfl) (HG.out.next (Below.refl _ _).drew) ?_
                        clear HG
                        repeat (first | go_big_quiet_step ((go_at_call 11; exact HTQ.out _)) | quiet_step ((go_at_call 11; exact HTQ.out _)))
                        refine wpQuiet_nil ?_
                        intro _ hw'
                        obtain ⟨u, hw''⟩ := hw'
                        subst hw''
                        have HG := Lib.hid u.ok
                        clear q0 q1 HTQ
                        go_wp2
                        go_roundw
                        case rel => exact ⟨f + 1, by omega, by go_num, HG⟩
                        case measure => simp [intOf]; omega
                    · have hfw : ¬ ((f : Int) < (m : Int)) := by omega
                      have HW := Lib.hid HG.out.1
                      clear HG
                      go_wp2
                      go_roundw
                      case rel => exact ⟨k + 1, by omega, by go_num, HW⟩
                      case measure => simp [intOf]; omega
                · have hkw : ¬ ((k : Int) < (s.objs.length : Int)) := by omega
                  have hsz := size_run HCK.out HR.out (by omega)
                  have HSP : Hid (∀ w1, Below w.heap.size w w1 → StN w1 (.slice ao s.objs.length co) vt s → Calls Tryd.prog 12 #[.agg (progC (.slice x p.types.length kx) p (.slice (some ⟨bb, o, none⟩) p.code.length kx')), .agg (stC s (.slice ao s.objs.length co) vt)] w1 (StepPost w1 (stepL p s))) := Lib.hid fun w1 hb1 hs1 => HST.out w1 s _ vt ts n hb1 hs1 hsz (by omega) HR.out
                  have hcase : (∃ (d : Bool) (z : Nat), stepL p s = (s, d, z) ∧ (d = true ∨ z ≠ 0)) ∨ ∃ t i, stepL p s = (t, false, 0) ∧ p.code[s.pc]? = some i ∧ RunOk p t (typesN p s t i ts) (n + 1) ∧ LkI p t (typesN p s t i ts) (madeN s t made) ∧ (s.objs.length < t.objs.length ↔ i.op = 5) ∧ (i.op = 5 → 0 ≤ localI p i.a) := by
                    rcases step_one HCK.out HR.out with ⟨_, he⟩ | ⟨i, hi, _, ⟨hd, he⟩ | ⟨t, hd, he⟩⟩
                    · exact .inl ⟨true, 0, he, .inl rfl⟩
                    · exact .inl ⟨false, 9, he, .inr (by decide)⟩
                    · obtain ⟨h1, h2, h3, h4⟩ := lk_next HCK.out HOK.out.ins (by omega) HR.out HL.out hi hd
                      exact .inr ⟨t, i, he, hi, h1, h2, h3, h4⟩
                  have HLN := HL.out.len
                  have HML := Lib.hid HLN
                  clear hkl hk hsz HST HKE HLN
                  rcases hcase with ⟨d, z, hs', hdz⟩ | ⟨t, i, hs', hi, hrn, hln, hgr, hloc⟩
                  · rw [hs'] at HSP
                    clear hs'
                    rcases d with _ | _
                    · have ez : ((z : Int) != 0) = true := by have := hdz.resolve_left (by decide); simp; omega
                      clear hdz
                      go_wp2_with (first
                        | (refine wpList_loadB rfl 25 _ rfl w.heap.size (progC (.slice x p.types.length kx) p (.slice (some ⟨bb, o, none⟩) p.code.length kx')) rfl 25 (HBA.out _ HW.out.below).1 _ Tryd.underlying25 rfl prog_info ?_)
                        | (refine wpList_loadB rfl 36 _ rfl b (stC s (.slice ao s.objs.length co) vt) rfl 36 HW.out.st _ Tryd.underlying36 rfl (rstate_size HW.out.at'.len) ?_)
                        | (go_at_call 12; refine (HSP.out _ (HBA.out _ HW.out.below).2.2 HW.out.at').mono ?_; rintro e1 w4 ⟨vo2, vt2, rfl, hst2, hb⟩; have HT := Lib.hid hst2; have HW := Lib.hid (HW.out.next hb); clear hb hst2)
                        | ((have HBT : Hid (Below w4.heap.size w4 (putB (w4.alloc (.cells zeroS 36)) w4.heap.size (stC s vo2 vt2) 36)) := Lib.hid (((Below.refl _ _).alloc (Nat.le_refl _) _).trans (putB_below _ (Nat.le_refl _) _ _))); refine wpList_putB rfl 36 _ _ rfl w4.heap.size (stC s vo2 vt2) rfl rfl 36 zeroS (blk_new w4 zeroS 36) (rstate_size HT.out.len) (by rw [stC_size HT.out.len]; rfl) HT.out.one ?_; (have HW := Lib.hid (HW.out.next HBT.out)); (have HT := Lib.hid (HT.out.below HBT.out)); (have KT := Lib.hid (putB_at (blk_new w4 zeroS 36) (stC s vo2 vt2) 36)); clear HBT))
                      go_ret
                      exact ⟨rfl, (HBA.out _ HW.out.below).2.2⟩
                    · clear hdz
                      go_wp2_with (first
                        | (refine wpList_loadB rfl 25 _ rfl w.heap.size (progC (.slice x p.types.length kx) p (.slice (some ⟨bb, o, none⟩) p.code.length kx')) rfl 25 (HBA.out _ HW.out.below).1 _ Tryd.underlying25 rfl prog_info ?_)
                        | (refine wpList_loadB rfl 36 _ rfl b (stC s (.slice ao s.objs.length co) vt) rfl 36 HW.out.st _ Tryd.underlying36 rfl (rstate_size HW.out.at'.len) ?_)
                        | (go_at_call 12; refine (HSP.out _ (HBA.out _ HW.out.below).2.2 HW.out.at').mono ?_; rintro e1 w4 ⟨vo2, vt2, rfl, hst2, hb⟩; have HT := Lib.hid hst2; have HW := Lib.hid (HW.out.next hb); clear hb hst2)
                        | ((have HBT : Hid (Below w4.heap.size w4 (putB (w4.alloc (.cells zeroS 36)) w4.heap.size (stC s vo2 vt2) 36)) := Lib.hid (((Below.refl _ _).alloc (Nat.le_refl _) _).trans (putB_below _ (Nat.le_refl _) _ _))); refine wpList_putB rfl 36 _ _ rfl w4.heap.size (stC s vo2 vt2) rfl rfl 36 zeroS (blk_new w4 zeroS 36) (rstate_size HT.out.len) (by rw [stC_size HT.out.len]; rfl) HT.out.one ?_; (have HW := Lib.hid (HW.out.next HBT.out)); (have HT := Lib.hid (HT.out.below HBT.out)); (have KT := Lib.hid (putB_at (blk_new w4 zeroS 36) (stC s vo2 vt2) 36)); clear HBT))
                      go_ret
                      exact ⟨rfl, (HBA.out _ HW.out.below).2.2⟩
                  · rw [hs'] at HSP
                    have HII := Lib.hid hi
                    have HRN := Lib.hid hrn
                    have HLN := Lib.hid hln
                    have HGR := Lib.hid hgr
                    have HLO := Lib.hid hloc
                    clear hs' hi hrn hln hgr hloc
                    go_upto_region 37 with (first
                      | (refine wpList_loadB rfl 25 _ rfl w.heap.size (progC (.slice x p.types.length kx) p (.slice (some ⟨bb, o, none⟩) p.code.length kx')) rfl 25 (HBA.out _ HW.out.below).1 _ Tryd.underlying25 rfl prog_info ?_)
                      | (refine wpList_loadB rfl 36 _ rfl b (stC s (.slice ao s.objs.length co) vt) rfl 36 HW.out.st _ Tryd.underlying36 rfl (rstate_size HW.out.at'.len) ?_)
                      | (go_at_call 12; refine (HSP.out _ (HBA.out _ HW.out.below).2.2 HW.out.at').mono ?_; rintro e1 w4 ⟨vo2, vt2, rfl, hst2, hb⟩; have HT := Lib.hid hst2; have HW := Lib.hid (HW.out.next hb); clear hb hst2)
                      | ((have HBT : Hid (Below w4.heap.size w4 (putB (w4.alloc (.cells zeroS 36)) w4.heap.size (stC t vo2 vt2) 36)) := Lib.hid (((Below.refl _ _).alloc (Nat.le_refl _) _).trans (putB_below _ (Nat.le_refl _) _ _))); refine wpList_putB rfl 36 _ _ rfl w4.heap.size (stC t vo2 vt2) rfl rfl 36 zeroS (blk_new w4 zeroS 36) (rstate_size HT.out.len) (by rw [stC_size HT.out.len]; rfl) HT.out.one ?_; (have HW := Lib.hid (HW.out.next HBT.out)); (have HT := Lib.hid (HT.out.below HBT.out)); (have KT := Lib.hid (putB_at (blk_new w4 zeroS 36) (stC t vo2 vt2) 36)); clear HBT))
                    obtain ⟨ao2, co2, hvo2, hco3, hco4⟩ := HT.out.objs.form
                    subst hvo2
                    have hw2 : T2W wm (putB (w4.alloc (.cells zeroS 36)) w4.heap.size (stC t (.slice ao2 t.objs.length co2) vt2) 36) b bm w4.heap.size s t (.slice ao s.objs.length co) vt (.slice ao2 t.objs.length co2) vt2 vm (.slice ay ts.length cy) made ts := ⟨HW.out, KT.out, HT.out⟩
                    clear HW KT HT HSP
                    generalize putB (w4.alloc (.cells zeroS 36)) w4.heap.size (stC t (.slice ao2 t.objs.length co2) vt2) 36 = wx at hw2 ⊢
                    generalize w4.heap.size = c at hw2 ⊢
                    have HT2 := Lib.hid hw2
                    clear hw2
                    have c20 : wx.cell? ⟨c, 20, none⟩ = some (.slice ao2 t.objs.length co2) := blk_cell HT2.out.st _ _ (stC_rest (vt := vt2) HT2.out.at'.len).1
                    have b20 : wx.cell? ⟨b, 20, none⟩ = some (.slice ao s.objs.length co) := blk_cell HT2.out.l.st _ _ (stC_rest (vt := vt) HT2.out.l.at'.len).1
                    by_cases hg : s.objs.length < t.objs.length
                    · have hgi : (s.objs.length : Int) < (t.objs.length : Int) := by omega
                      have h5 := HGR.out.1 hg
                      have hl0 := HLO.out h5
                      have HMN : Hid (madeN s t made = made ++ [s.pc]) := Lib.hid (by unfold madeN; rw [if_pos hg])
                      have HTN : Hid (typesN p s t i ts = ts ++ [(localI p i.a).toNat]) := Lib.hid (by unfold typesN; rw [if_pos hg])
                      have hml : made.length ≤ 1000000 := by have := HML.out; omega
                      obtain ⟨g, cap, w5, hap, hbm, hT2⟩ := HT2.out.place s.pc hml
                      have cbm : wx.cell? ⟨bm, 0, none⟩ = some vm := blk_cell HT2.out.l.box 0 _ rfl
                      have c22 : wx.cell? ⟨b, 22, none⟩ = some (.int .i64 (s.pc : Int)) := blk_cell HT2.out.l.st _ _ (stC_rest (vo := (.slice ao s.objs.length co)) (vt := vt) HT2.out.l.at'.len).2.2.1
                      have cb5 : w5.cell? ⟨bm, 0, none⟩ = some vm := blk_cell hbm 0 _ rfl
                      have fb5 : w5.frozen? ⟨bm, 0, none⟩ = false := blk_frozen hbm 0
                      have hset : w5.setCell ⟨bm, 0, none⟩ (.slice (some ⟨g, 0, none⟩) (made.length + 1) cap) = putB w5 bm #[.slice (some ⟨g, 0, none⟩) (made.length + 1) cap] 37 := by rw [setCell_putB hbm]; rfl
                      clear hg
                      go_upto_region 39 with (at_builtin; refine Lib.wpList_append_run _ rfl (.tmp 151) (.tmp 154) 37 37 rfl _ _ rfl rfl _ _ hap ?_)
                      try rw [hset]
                      have HT3 := Lib.hid hT2
                      clear hset hap hbm hT2 cbm c22 cb5 fb5 HT2 c20 b20
                      generalize putB w5 bm #[.slice (some ⟨g, 0, none⟩) (made.length + 1) cap] 37 = w6 at HT3 ⊢
                      have HT4 := Lib.hid (HT3.out.next (Below.refl _ _).drew)
                      obtain ⟨lN, hlN⟩ : ∃ lN, lN = (localI p i.a).toNat := ⟨_, rfl⟩
                      rw [← hlN] at HTN
                      have HRN2 : Hid (RunOk p t (ts ++ [lN]) (n + 1)) := Lib.hid (by rw [← HTN.out]; exact HRN.out)
                      have HLN2 : Hid (LkI p t (ts ++ [lN]) (made ++ [s.pc])) := Lib.hid (by rw [← HTN.out, ← HMN.out]; exact HLN.out)
                      clear HRN HLN HMN HTN
                      obtain ⟨g3, cap3, w7, hap0, hT5⟩ := HT4.out.typ lN (by have := HSL.out; have := HML.out; omega)
                      have hap : (Builtin.append_ #[37, 37] 37 #[(.slice ay ts.length cy), .slice (some ⟨w6.heap.size, 0, none⟩) 1 1]).run Tryd.prog (w6.alloc (.cells #[.int .i64 (lN : Int)] 3)).drew = .ok (.slice (some ⟨g3, 0, none⟩) (ts.length + 1) cap3) w7 := hap0
                      have HT5 := Lib.hid hT5
                      have HB6 := Lib.hid (HBA.out _ HT3.out.l.below).2.2
                      have hrg := HCO.out _ HB6.out s.pc i HII.out
                      obtain ⟨-, q1, -, -⟩ := HP5.out _ HT3.out.l.below
                      obtain ⟨-, -, -, q3⟩ := HP5.out _ HT3.out.l.below
                      have c22 : w6.cell? ⟨b, 22, none⟩ = some (.int .i64 (s.pc : Int)) := blk_cell HT3.out.l.st _ _ (stC_rest (vo := (.slice ao s.objs.length co)) (vt := vt) HT3.out.l.at'.len).2.2.1
                      have hoki := HOK.out.ins i (List.mem_of_getElem? HII.out)
                      have hla := local_lt (check_ok HCK.out).1 hoki.a0 hl0
                      have hny := names_yes (head_parts (check_ok HCK.out).1).1 hoki.a0 hla.1
                      have hpcl := (List.getElem?_eq_some_iff.1 HII.out).1
                      have hpi : (s.pc : Int) < (p.code.length : Int) := by omega
                      have hp0 : (0 : Int) ≤ (s.pc : Int) := by omega
                      obtain ⟨op, ia, bI, cI, nI⟩ := i
                      obtain ⟨o0, o1, a0', a1', -⟩ := hoki
                      simp only at a0' a1' hla hny hl0 hlN
                      obtain ⟨aN, rfl⟩ : ∃ aN : Nat, ia = aN := ⟨ia.toNat, by omega⟩
                      have d1 : w6.cell? ⟨bb, o + s.pc * 5 + 1, none⟩ = some (.int .u8 (aN : Int)) := hrg 1 _ rfl
                      have hal3 : aN < p.locals.length := by omega
                      have hap3 : (aN : Int) < (p.locals.length : Int) := by omega
                      have han0 : (0 : Int) ≤ (aN : Int) := by omega
                      simp only [Int.toNat_natCast] at hny
                      have hbt : (⟨p.locals.toArray⟩ : ByteArray)[aN]'hal3 = p.locals.getD aN 0 := by rw [List.getD_eq_getElem?_getD, List.getElem?_eq_getElem hal3]; rfl
                      have hlv : localI p (aN : Int) = ((p.locals.getD aN 0).toNat : Int) - 48 := hny.1
                      have hbl := (p.locals.getD aN 0).toNat_lt
                      have HX : Hid (IntKind.i64.wrap (IntKind.u8.wrap ((((⟨p.locals.toArray⟩ : ByteArray)[aN]'hal3).toNat : Int) - 48)) = (lN : Int)) := Lib.hid (by
                        rw [hbt, IntKind.wrap_u8, IntKind.wrap_i64, hlN]
                        have h48 := hny.2.1
                        rw [hlv]
                        omega)
                      have hap2 : (Builtin.append_ #[37, 37] 37 #[(.slice ay ts.length cy), .slice (some ⟨w6.heap.size, 0, none⟩) 1 1]).run Tryd.prog (w6.alloc (.cells #[.int .i64 (IntKind.i64.wrap (IntKind.u8.wrap ((((⟨p.locals.toArray⟩ : ByteArray)[aN]'hal3).toNat : Int) - 48)))] 3)).drew = .ok (.slice (some ⟨g3, 0, none⟩) (ts.length + 1) cap3) w7 := by rw [HX.out]; exact hap
                      have HAP := Lib.hid hap2
                      clear hrg hla hny hpcl HGR HLO HII hbt hlv hbl hlN hap0 hT5 hap hap2 HX
                      go_upto_region 39 with (fail)
                      go_region_law (refine step_append_run (by rfl) _ _ _ (by rfl) (.slice ay ts.length cy) (.slice (some ⟨w6.heap.size, 0, none⟩) 1 1) (by rfl) (by rfl) _ _ HAP.out ?_)
                      all_goals
                        clear HAP c22 d1 q1 q3
                        go_wp2_with (first
                          | (refine wpList_loadB rfl 36 _ rfl c (stC t (.slice ao2 t.objs.length co2) vt2) rfl 36 HT5.out.st _ Tryd.underlying36 rfl (rstate_size HT5.out.at'.len) ?_)
                          | (refine wpList_putB rfl 36 _ _ rfl b (stC t (.slice ao2 t.objs.length co2) vt2) rfl rfl 36 _ HT5.out.l.st (rstate_size HT5.out.at'.len) (by rw [stC_size HT5.out.l.at'.len, stC_size HT5.out.at'.len]) HT5.out.at'.one ?_; (have HWN := Lib.hid (HT5.out.l.put HT5.out.at'))))
                        go_roundw
                        case rel => exact ⟨n + 1, t, _, _, _, _, _, _, by omega, rfl, by go_num, HWN, HRN2, HLN2⟩
                        case measure => simp [intOf]; omega
                    · have hgi : ¬ ((s.objs.length : Int) < (t.objs.length : Int)) := by omega
                      have HRN2 : Hid (RunOk p t ts (n + 1)) := Lib.hid (by have h9 := HRN.out; unfold typesN at h9; rw [if_neg hg] at h9; exact h9)
                      have HLN2 : Hid (LkI p t ts made) := Lib.hid (by have h9 := HLN.out; unfold typesN madeN at h9; rw [if_neg hg, if_neg hg] at h9; exact h9)
                      clear hg HRN HLN HGR HLO HII
                      go_wp2_with (first
                        | (refine wpList_loadB rfl 36 _ rfl c (stC t (.slice ao2 t.objs.length co2) vt2) rfl 36 HT2.out.st _ Tryd.underlying36 rfl (rstate_size HT2.out.at'.len) ?_)
                        | (refine wpList_putB rfl 36 _ _ rfl b (stC t (.slice ao2 t.objs.length co2) vt2) rfl rfl 36 _ HT2.out.l.st (rstate_size HT2.out.at'.len) (by rw [stC_size HT2.out.l.at'.len, stC_size HT2.out.at'.len]) HT2.out.at'.one ?_; (have HWN := Lib.hid (HT2.out.l.put HT2.out.at'))))
                      go_roundw
                      case rel => exact ⟨n + 1, t, _, _, _, _, _, _, by omega, rfl, by go_num, HWN, HRN2, HLN2⟩
                      case measure => simp [intOf]; omega
    · have hnn : ¬ ((n : Int) < (a0 : Int)) := by omega
      clear hmf
      go_wp2
      go_ret
      exact ⟨rfl, (HBA.out _ HW.out.below).2.2⟩
set_option maxRecDepth 100000 in
set_option maxHeartbeats 8000000 in
theorem jtrue_bad (w W0 : World) (p : PProg) (a0 : Nat) (x x' : Option Addr) (kx kx' : Nat)
    (hW0 : W0 = w.alloc (.cells (progC (.slice x p.types.length kx) p (.slice x' p.code.length kx')) 25)) (KP : Hid (Keep W0 w.heap.size (.slice x p.types.length kx) (.slice x' p.code.length kx') p)) (HB : Hid (Below w.heap.size w W0))
    (HAL : Hid (∀ w1, Calls Tryd.prog 7 #[] w1 (AggPost w1 (.bool true))))
    (HSO : Hid (∀ w1, ProgAt w1 (.agg (progC (.slice x p.types.length kx) p (.slice x' p.code.length kx'))) p → Below w.heap.size w w1 → Calls Tryd.prog 6 #[.agg (progC (.slice x p.types.length kx) p (.slice x' p.code.length kx'))] w1 (AggPost w1 (.bool (soundB p)))))
    (g2 : kx' ≤ 9223372036854775807) (g1 : p.code.length ≤ kx') (hsd : soundB p = false) :
    Calls Tryd.prog 3 #[.agg (progC (.slice x p.types.length kx) p (.slice x' p.code.length kx')), .int .u8 a0] w (AggPost w (.bool true)) := by
  go_enter Tryd.func3, Tryd.ntmps3
  go_upto_region 1 with (fail)
  rw [← hW0]
  clear hW0
  rw [hsd] at HSO
  go_wp2_with (first
    | (refine wpList_loadB rfl 25 _ rfl w.heap.size (progC (.slice x p.types.length kx) p (.slice x' p.code.length kx')) rfl 25 KP.out.blk _ Tryd.underlying25 rfl prog_info ?_)
    | (go_at_call 7; ((with_reducible refine (HAL.out _).mono ?_); rintro e w1 ⟨rfl, hb⟩; have KP := Lib.hid (KP.out.below hb); have HB := Lib.hid (HB.out.trans (hb.mono HB.out.size)); clear hb))
    | (go_at_call 6; ((with_reducible refine (HSO.out _ KP.out.at' HB.out).mono ?_); rintro e w2 ⟨rfl, hb⟩; have KP := Lib.hid (KP.out.below hb); have HB := Lib.hid (HB.out.trans (hb.mono HB.out.size)); clear hb)))
  go_ret
  exact ⟨rfl, HB.out⟩
theorem jtrue_walk (v : Value) (p : PProg) (a : Int) (w : World) (h : ProgAt w v p) (hs : OkP p) (ha0 : 0 ≤ a) (ha : a ≤ 255) (ht' : HasT w) : Calls Tryd.prog 3 #[v, .int .u8 a] w fun e w' => e = .returned (.bool true) ∧ Below w.heap.size w w' := by
  obtain ⟨vt, vc, rfl, ht, hc⟩ := id h
  have hwb : Below w.heap.size w (w.alloc (.cells (progC vt p vc) 25)) := (Below.refl _ _).alloc (Nat.le_refl _) _
  have HK := keep_new h
  obtain ⟨x, c, rfl, -, -, -⟩ := id ht.elems
  obtain ⟨x', c', rfl, q1, q2, q3⟩ := id hc
  unfold maxLen at q2
  obtain ⟨ka, rfl⟩ : ∃ ka : Nat, a = ka := ⟨a.toNat, by omega⟩
  rcases hsd : soundB p with _ | _
  · exact jtrue_bad w _ p ka x x' c c' rfl (Lib.hid HK) (Lib.hid hwb) (Lib.hid fun w1 => jalive_n w1) (Lib.hid fun w1 h1 hb1 => sound_n _ p w1 _ h1 hs (ht'.below hb1) rfl) (by omega) q1 hsd
  · have hck := (sound_parts hsd).2.2.1
    have hl1 := (sound_parts hsd).2.2.2.2
    obtain ⟨i0, hi0⟩ : ∃ i0, p.code[0]? = some i0 := ⟨_, List.getElem?_eq_getElem (by omega)⟩
    obtain ⟨bb, o, rfl, hbb, -⟩ := q3 0 i0 hi0
    exact jtrue_at w _ p ka x bb o c c' rfl (Lib.hid HK) (Lib.hid hwb) (Lib.hid fun w1 => jalive_n w1) (Lib.hid fun w1 h1 hb1 => sound_n _ p w1 _ h1 hs (ht'.below hb1) rfl) (by omega) q1 (by omega) (Lib.hid hs) hsd (Lib.hid fun w1 h1 => jmay_n _ p w1 h1 hs hck) (Lib.hid fun w1 k h1 => by have h9 := jleaks_n _ p w1 k h1 hs hck; rwa [leakV_nat] at h9) (Lib.hid fun w1 t f hb => rto_n _ (tsP p.types) t f _ w1 (ts_of (ht.below hb) hs.ty) (Lib.hid rfl)) (Lib.hid fun w1 hb1 m i hi => by
      obtain ⟨b2, o2, e2, h2, h3⟩ := q3 m i hi
      cases e2
      exact rangeAt_below h3 h2 hb1) (Lib.hid fun w1 hb1 => h.below hb1) (Lib.hid fun w1 s vo vt ts n hb1 hst hz hn hr => rstepU_n _ p w1 s vo vt (h.below hb1) hs (ht'.below hb1) hst hz (fun _ => UseOk.of_run hck hs.ins hr hn))
end Go.Proofs.YtjkpbajojgdooaaDoor
