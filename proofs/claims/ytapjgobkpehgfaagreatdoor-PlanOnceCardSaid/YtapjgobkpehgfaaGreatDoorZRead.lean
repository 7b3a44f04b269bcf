/-
  The contract of the document's read.
-/
import Derived.Test.YtapjgobkpehgfaaGreatDoorUAT
import Derived.Test.YtapjgobkpehgfaaGreatDoorUAU
import Derived.Deep.CutRange
namespace Go.Proofs.YtapjgobkpehgfaaGreatDoor
set_option linter.unusedSimpArgs false
set_option linter.unusedVariables false
open Go.RowKit

theorem byOp_some {k : Nat} (h0 : 1 ≤ k) (h1 : k ≤ 15) : ∃ q, byOpL k = some q := by
  have h : ∀ j : Fin 16, 1 ≤ j.1 → (byOpL (j.1 : Int)).isSome = true := by decide
  exact Option.isSome_iff_exists.1 (h ⟨k, by omega⟩ h0)
theorem instr_match {k : Int} {q : Int × Bs × Bs} {x : Bs} {ws : List Bs} (h : byOpL k = some q) (hx : q.2.1 = x) (hl : ws.length = q.2.2.length) : instrL (x :: ws) = readL q.2.2 ws ⟨k, 0, 0, 0, 0⟩ := by
  obtain ⟨h1, rfl⟩ := byOp_mem h
  obtain ⟨_, h2, _⟩ := ops_cases h1
  subst hx
  obtain ⟨a, b, c⟩ := q
  exact instrL_cons h2 hl
theorem instr_nomatch {x : Bs} {ws : List Bs} (h : ∀ k : Nat, 1 ≤ k → k ≤ 15 → ∀ q, byOpL k = some q → ¬ (q.2.1 = x ∧ ws.length = q.2.2.length)) : instrL (x :: ws) = none := by
  unfold instrL
  rw [List.headD_cons]
  rcases hb : byNameL x with _ | o
  · rfl
  · obtain ⟨h1, h2⟩ := byName_mem hb
    obtain ⟨h3, _, _, ⟨h4, h5⟩, _⟩ := ops_cases h1
    have := h o.1.toNat (by omega) (by omega) o (by rw [show ((o.1.toNat : Nat) : Int) = o.1 by omega]; exact h3)
    simp only [List.length_cons]
    rw [if_neg (fun e => this ⟨h2, by omega⟩)]
theorem fit_ok {c : UInt8} {y : Bs} {nn : Int} (h : numL y = (nn, 0)) (hr : roomL c nn = true) : fitL c y = true := by
  rw [fit_room, h]; simp [hr]
theorem fit_no {c : UInt8} {y : Bs} {nn : Int} {en : Nat} {rm : Bool} (h : numL y = (nn, en)) (hr : roomL c nn = rm) (hn : ¬ (en = 0 ∧ rm = true)) : fitL c y = false := by
  rw [fit_room, h]
  cases rm with
  | false => simp [hr]
  | true => simp at hn; simp [hn]
/-- What a round of the reading finds. -/
structure RAt (w : World) (j : PIns) (wr : World) : Prop where
  r : blk wr w.heap.size zeroC 46
  i : blk wr (w.heap.size + 1) (insC j) 46
  b : Below w.heap.size w wr
theorem RAt.below {w wr w' : World} {j : PIns} (h : RAt w j wr) (hb : Below wr.heap.size wr w') : RAt w j w' := ⟨blk_below h.r hb, blk_below h.i hb, h.b.trans (hb.mono h.b.size)⟩
theorem RAt.put {w wr : World} {j : PIns} (h : RAt w j wr) (j' : PIns) : RAt w j' (putB wr (w.heap.size + 1) (insC j') 46) := by
  refine ⟨?_, putB_at h.i _ _, h.b.trans (putB_below _ (by omega) _ _)⟩
  have : (putB wr (w.heap.size + 1) (insC j') 46).heap[w.heap.size]? = wr.heap[w.heap.size]? := putB_ne _ (by omega) _ _
  unfold blk; rw [this]; exact h.r

theorem RAt.putG {w W : World} {j : PIns} {g : Nat} (h : RAt w j W) (hg : w.heap.size + 2 ≤ g) (cs : Array Value) (t : TypeId) : RAt w j (putB W g cs t) := by
  refine ⟨?_, ?_, h.b.trans (putB_below _ (by omega) _ _)⟩
  · have : (putB W g cs t).heap[w.heap.size]? = W.heap[w.heap.size]? := putB_ne _ (by omega) _ _
    unfold blk; rw [this]; exact h.r
  · have : (putB W g cs t).heap[w.heap.size + 1]? = W.heap[w.heap.size + 1]? := putB_ne _ (by omega) _ _
    unfold blk; rw [this]; exact h.i
theorem set5 {w W : World} {j : PIns} {g : Nat} (J : PIns) (hk : blk W g zeroC 46) (h : RAt w j W) (hg : w.heap.size + 2 ≤ g) :
    blk (((((W.setCell ⟨g, 0, none⟩ (.int .u8 J.op)).setCell ⟨g, 1, none⟩ (.int .u8 J.a)).setCell ⟨g, 2, none⟩ (.int .u8 J.b)).setCell ⟨g, 3, none⟩ (.int .u8 J.c)).setCell ⟨g, 4, none⟩ (.int .i64 J.n)) g (insC J) 46 ∧
    RAt w j (((((W.setCell ⟨g, 0, none⟩ (.int .u8 J.op)).setCell ⟨g, 1, none⟩ (.int .u8 J.a)).setCell ⟨g, 2, none⟩ (.int .u8 J.b)).setCell ⟨g, 3, none⟩ (.int .u8 J.c)).setCell ⟨g, 4, none⟩ (.int .i64 J.n)) := by
  rw [setCell_putB hk 0 (.int .u8 J.op)]
  have k1 := putB_at hk (zeroC.setIfInBounds 0 (.int .u8 J.op)) 46
  have h1 := h.putG hg (zeroC.setIfInBounds 0 (.int .u8 J.op)) 46
  generalize putB W g _ 46 = W1 at *
  rw [setCell_putB k1 1 (.int .u8 J.a)]
  have k2 := putB_at k1 ((zeroC.setIfInBounds 0 (.int .u8 J.op)).setIfInBounds 1 (.int .u8 J.a)) 46
  have h2 := h1.putG hg ((zeroC.setIfInBounds 0 (.int .u8 J.op)).setIfInBounds 1 (.int .u8 J.a)) 46
  generalize putB W1 g _ 46 = W2 at *
  rw [setCell_putB k2 2 (.int .u8 J.b)]
  have k3 := putB_at k2 (((zeroC.setIfInBounds 0 (.int .u8 J.op)).setIfInBounds 1 (.int .u8 J.a)).setIfInBounds 2 (.int .u8 J.b)) 46
  have h3 := h2.putG hg (((zeroC.setIfInBounds 0 (.int .u8 J.op)).setIfInBounds 1 (.int .u8 J.a)).setIfInBounds 2 (.int .u8 J.b)) 46
  generalize putB W2 g _ 46 = W3 at *
  rw [setCell_putB k3 3 (.int .u8 J.c)]
  have k4 := putB_at k3 ((((zeroC.setIfInBounds 0 (.int .u8 J.op)).setIfInBounds 1 (.int .u8 J.a)).setIfInBounds 2 (.int .u8 J.b)).setIfInBounds 3 (.int .u8 J.c)) 46
  have h4 := h3.putG hg ((((zeroC.setIfInBounds 0 (.int .u8 J.op)).setIfInBounds 1 (.int .u8 J.a)).setIfInBounds 2 (.int .u8 J.b)).setIfInBounds 3 (.int .u8 J.c)) 46
  generalize putB W3 g _ 46 = W4 at *
  rw [setCell_putB k4 4 (.int .i64 J.n)]
  exact ⟨putB_at k4 _ _, h4.putG hg _ _⟩

set_option maxRecDepth 100000 in
set_option maxHeartbeats 1500000 in
theorem read_walk (b o c n : Nat) (x : Bs) (ws : List Bs) (R : Option PIns) (w : World) (hn : n = ws.length) (hc1 : n + 1 ≤ c) (_hc2 : c ≤ 9223372036854775807)
    (HC0 : Hid (∀ W, Below w.heap.size w W → W.cell? ⟨b, o, none⟩ = some (str x)))
    (HC : Hid (∀ k y, ws[k]? = some y → ∀ W, Below w.heap.size w W → W.cell? ⟨b, o + (k + 1), none⟩ = some (str y)))
    (HNUM : Hid (∀ y ∈ ws, ∀ W, Calls Tryz.prog 75 #[str y] W fun e w' => e = .returned (.tuple #[.int .i64 (numL y).1, .int .i64 (numL y).2]) ∧ W = w'))
    (HMT : Hid (∀ (k : Int) q, byOpL k = some q → q.2.1 = x → n = q.2.2.length → R = readL q.2.2 ws ⟨k, 0, 0, 0, 0⟩))
    (HNM : Hid ((∀ k : Nat, 1 ≤ k → k ≤ 15 → ∀ q, byOpL k = some q → ¬ (q.2.1 = x ∧ n = q.2.2.length)) → R = none)) :
    Calls Tryz.prog 50 #[.slice (some ⟨b, o, none⟩) (n + 1) c] w (InstrPost w R) := by
  have hwb : Below w.heap.size w (w.alloc (.cells zeroC 46)) := (Below.refl _ _).alloc (Nat.le_refl _) _
  have HWB := Lib.hid hwb
  have hcx := HC0.out _ hwb
  have HN := Lib.hid hn
  have hn0 : (0 : Int) < (n : Int) + 1 := by omega
  clear hwb hn
  go_enter Tryz.func50, Tryz.ntmps50
  go_wp2
  go_loopw [4] (fun v4 wr => ∃ k : Nat, 1 ≤ k ∧ k ≤ 16 ∧ v4 = .int .u8 k ∧ Hid (∀ j : Nat, 1 ≤ j → j < k → ∀ q, byOpL j = some q → ¬ (q.2.1 = x ∧ n = q.2.2.length)) ∧ wr = w.alloc (.cells zeroC 46)) (fun v4 _ => 16 - (intOf v4).toNat)
  case atStart => exact ⟨1, Nat.le_refl _, by omega, rfl, Lib.hid (fun j h1 h2 => by omega), rfl⟩
  case round =>
    obtain ⟨k, hk0, hk1, rfl, hno, rfl⟩ := hrel
    by_cases hle : k ≤ 15
    · obtain ⟨⟨op, nm, hs⟩, hq⟩ := byOp_some hk0 hle
      have hq2 := hq
      obtain ⟨hmem, hop⟩ := byOp_mem hq
      have H4 := Lib.hid (four_ops hmem)
      have hl3 : hs.length ≤ 3 := by
        obtain ⟨_, _, _, _, _, _, _, _, hh⟩ := ops_cases hmem
        simp only [List.mem_cons, List.not_mem_nil, or_false] at hh
        rcases hh with hh | hh | hh | hh | hh | hh | hh <;> (rw [show hs = _ from hh]; decide)
      have hsh := shape_any k (w.alloc (.cells zeroC 46))
      rw [shapeL_some hq] at hsh
      obtain ⟨ls, hls⟩ : ∃ ls : ByteArray, ls = ⟨(hs.map low).toArray⟩ := ⟨_, rfl⟩
      have HSH : Hid (Calls Tryz.prog 49 #[.int .u8 k] (w.alloc (.cells zeroC 46)) fun e w'' => e = .returned (.tuple #[str nm, .string ls]) ∧ (w.alloc (.cells zeroC 46)) = w'') := Lib.hid (by subst hls; exact hsh)
      have HLG : Hid (∀ (m : Nat) (c : UInt8) (hk : m < ls.size), hs[m]? = some c → ls[m] = low c) := Lib.hid fun m c hk hc => by subst hls; exact low_get hc hk
      have hsz : ls.size = hs.length := by subst hls; show (hs.map low).length = _; simp
      have HQ := Lib.hid hq
      clear hls hsh hmem hop hq hq2
      by_cases hx : nm = x
      · subst hx
        by_cases hl : n = hs.length
        · subst hl
          have hR := HMT.out k _ HQ.out rfl rfl
          have HR := Lib.hid hR
          clear hR HMT HNM hno
          go_wp2_with (go_at_call 49; refine HSH.out.mono ?_; rintro e w1 ⟨rfl, rfl⟩)
          have HS := Lib.hid (show RAt w ⟨k, 0, 0, 0, 0⟩ ((w.alloc (.cells zeroC 46)).alloc (.cells (insC ⟨k, 0, 0, 0, 0⟩) 46)) from
            ⟨blk_alloc (blk_new _ _ _) _, by
              have h1 := blk_new (w.alloc (.cells zeroC 46)) (insC ⟨k, 0, 0, 0, 0⟩) 46
              rw [World.size_alloc] at h1
              exact h1, HWB.out.alloc (by simp) _⟩)
          go_loopw [8] (fun v8 wr => ∃ (m : Nat) (j : PIns), m ≤ hs.length ∧ v8 = .int .i64 m ∧ RAt w j wr ∧ Hid (readTo hs ws ⟨k, 0, 0, 0, 0⟩ m = some j)) (fun v8 _ => hs.length - (intOf v8).toNat)
          case atStart => exact ⟨0, _, Nat.zero_le _, rfl, HS.out, Lib.hid rfl⟩
          case round =>
            obtain ⟨m, j, hm, rfl, hat, hrd⟩ := hrel
            clear HS
            by_cases hlt : m < hs.length
            · obtain ⟨c', hc'⟩ : ∃ c', hs[m]? = some c' := ⟨_, List.getElem?_eq_getElem hlt⟩
              obtain ⟨y, hy⟩ : ∃ y, ws[m]? = some y := ⟨_, List.getElem?_eq_getElem (by rw [← HN.out]; exact hlt)⟩
              have HNEXT := Lib.hid (fun h => readTo_next HN.out hrd.out hc' hy h)
              have HBAD := Lib.hid (fun h => readTo_bad HN.out hrd.out hc' hy h)
              have h4 := H4.out c' (List.mem_of_getElem? hc')
              have hgl := HLG.out m c' (by omega) hc'
              have hcy := HC.out m y hy _ hat.b
              have HNB := Lib.hid (HNUM.out y (List.mem_of_getElem? hy) wr)
              have HA := Lib.hid hat
              have kd : blk wr.drew (w.heap.size + 1) (insC j) 46 := hat.i
              have kd0 := blk_cell kd 0 _ rfl
              have kd1 := blk_cell kd 1 _ rfl
              have kd2 := blk_cell kd 2 _ rfl
              have kd3 := blk_cell kd 3 _ rfl
              have kd4 := blk_cell kd 4 _ rfl
              have HDR := Lib.hid ((Below.refl wr.heap.size wr).drew)
              clear kd hat hrd hc' hy
              rcases hnl : numL y with ⟨nn, en⟩
              rw [hnl] at HNB
              have HNL := Lib.hid hnl
              clear hnl
              have hwi := fun W => with_any j c' nn W h4
              obtain ⟨rm, hrm⟩ : ∃ rm, roomL c' nn = rm := ⟨_, rfl⟩
              obtain ⟨J, hJ⟩ : ∃ J, (if rm = true then setL j c' nn else j) = J := ⟨_, rfl⟩
              rw [hrm, hJ] at hwi
              have HWI := Lib.hid hwi
              have HRM := Lib.hid hrm
              have HJ := Lib.hid hJ
              have kz : blk (wr.alloc (.cells zeroC 46)).drew (w.heap.size + 1) (insC j) 46 := blk_alloc HA.out.i _
              have kz0 := blk_cell kz 0 _ rfl
              have kz1 := blk_cell kz 1 _ rfl
              have kz2 := blk_cell kz 2 _ rfl
              have kz3 := blk_cell kz 3 _ rfl
              have kz4 := blk_cell kz 4 _ rfl
              have HDZ := Lib.hid (((Below.refl wr.heap.size wr).alloc (Nat.le_refl _) (.cells zeroC 46)).drew)
              have KZ := Lib.hid (show blk (wr.alloc (.cells zeroC 46)).drew wr.heap.size zeroC 46 from blk_new wr zeroC 46)
              have hws := blk_lt HA.out.i
              clear kz hwi hrm hJ h4
              go_wp2_with (go_at_call 75; refine HNB.out.mono ?_; rintro e w2 ⟨rfl, rfl⟩)
              go_cut [11, 12] from 37 to 68 (fun v11 v12 wx => ∃ g, v11 = .pointer (some ⟨g, 0, none⟩) ∧ v12 = .bool rm ∧ blk wx g (insC J) 46 ∧ RAt w j wx ∧ w.heap.size + 2 ≤ g)
              case first =>
                go_region_law (first
                  | (go_simp; go_at_call 76; ((with_reducible refine (HWI.out wr.drew).mono ?_); rintro e w3 ⟨rfl, hb⟩; have HA3 := Lib.hid (HA.out.below (HDR.out.trans (hb.mono HDR.out.size))); clear hb))
                  | (go_simp; go_at_call 76; ((with_reducible refine (HWI.out (wr.alloc (.cells zeroC 46)).drew).mono ?_); rintro e w3 ⟨rfl, hb⟩; have HA3 := Lib.hid (HA.out.below (HDZ.out.trans (hb.mono HDZ.out.size))); have KZ3 := Lib.hid (blk_below KZ.out hb); have q0 := blk_cell KZ3.out 0 _ rfl; have q1 := blk_cell KZ3.out 1 _ rfl; have q2 := blk_cell KZ3.out 2 _ rfl; have q3 := blk_cell KZ3.out 3 _ rfl; have q4 := blk_cell KZ3.out 4 _ rfl; have f0 := blk_frozen KZ3.out 0; have f1 := blk_frozen KZ3.out 1; have f2 := blk_frozen KZ3.out 2; have f3 := blk_frozen KZ3.out 3; have f4 := blk_frozen KZ3.out 4; clear hb)))
                all_goals
                  go_wp2_with fail
                  go_meet
                  first
                    | exact ⟨wr.heap.size, rfl, rfl, (set5 J KZ3.out HA3.out hws).1, (set5 J KZ3.out HA3.out hws).2, hws⟩
                    | exact ⟨w3.heap.size, rfl, rfl, blk_new w3 (insC J) 46, HA3.out.below ((Below.refl _ _).alloc (Nat.le_refl _) (.cells (insC J) 46)), blk_lt HA3.out.i⟩
              case rest =>
                obtain ⟨g, rfl, rfl, kj, ha3, hg⟩ := hcut
                have HA3 := Lib.hid ha3
                clear ha3 hg
                by_cases hok : en = 0 ∧ rm = true
                · obtain ⟨rfl, rfl⟩ := hok
                  have hJ := HJ.out
                  rw [if_pos rfl] at hJ
                  subst hJ
                  have HNX := Lib.hid (HNEXT.out (fit_ok HNL.out HRM.out))
                  rw [HNL.out] at HNX
                  have k1 := blk_cell kj 0 _ rfl
                  have k2 := blk_cell kj 1 _ rfl
                  have k3 := blk_cell kj 2 _ rfl
                  have k4 := blk_cell kj 3 _ rfl
                  have k5 := blk_cell kj 4 _ rfl
                  clear HNEXT HBAD kj
                  go_wp2_with (refine wpList_putB rfl 46 _ _ rfl (w.heap.size + 1) (insC (setL j c' nn)) rfl rfl 46 _ HA3.out.i ins_info rfl (ins_one _) ?_)
                  go_roundw
                  case rel => exact ⟨m + 1, setL j c' nn, by omega, by go_num, HA3.out.put _, HNX⟩
                  case measure => simp [intOf]; omega
                · have hfit : Hid (fitL c' y = false) := Lib.hid (fit_no HNL.out HRM.out hok)
                  have HB0 := Lib.hid (HBAD.out hfit.out)
                  by_cases he : en = 0
                  · obtain rfl : rm = false := by rcases Bool.eq_false_or_eq_true rm with h | h; exact absurd ⟨he, h⟩ hok; exact h
                    subst he
                    clear hok HNEXT HBAD
                    go_wp2_with (refine wpList_putB rfl 46 _ _ rfl w.heap.size zeroC rfl rfl 46 _ HA3.out.r ins_info rfl zero_one ?_)
                    refine bodyPost_ret (v := .tuple #[.agg zeroC, .bool false]) ?_ rfl ⟨?_, ?_⟩
                    · rw [res_cell1 (p := 2) (u := 3) rfl _ _ w.heap.size zeroC 46 _ rfl (putB_at HA3.out.r _ _) Tryz.underlying46 rfl ins_info]; rfl
                    · rw [HR.out, HB0.out]
                    · exact HA3.out.b.trans (putB_below _ (Nat.le_refl _) _ _)
                  · have hen : (((en : Nat) : Int) == 0) = false := by simp [he]
                    have hen2 : (((en : Nat) : Int) != 0) = true := by simp [he]
                    clear he hok HNEXT HBAD
                    go_wp2_with (refine wpList_putB rfl 46 _ _ rfl w.heap.size zeroC rfl rfl 46 _ HA3.out.r ins_info rfl zero_one ?_)
                    refine bodyPost_ret (v := .tuple #[.agg zeroC, .bool false]) ?_ rfl ⟨?_, ?_⟩
                    · rw [res_cell1 (p := 2) (u := 3) rfl _ _ w.heap.size zeroC 46 _ rfl (putB_at HA3.out.r _ _) Tryz.underlying46 rfl ins_info]; rfl
                    · rw [HR.out, HB0.out]
                    · exact HA3.out.b.trans (putB_below _ (Nat.le_refl _) _ _)
            · obtain rfl : m = hs.length := by omega
              have HRD : Hid (R = some j) := Lib.hid (by rw [HR.out, ← readTo_all HN.out]; exact hrd.out)
              have k1 := blk_cell hat.i 0 _ rfl
              have k2 := blk_cell hat.i 1 _ rfl
              have k3 := blk_cell hat.i 2 _ rfl
              have k4 := blk_cell hat.i 3 _ rfl
              have k5 := blk_cell hat.i 4 _ rfl
              have HA := Lib.hid hat
              clear hat hrd
              go_wp2_with (refine wpList_putB rfl 46 _ _ rfl w.heap.size (insC j) rfl rfl 46 _ HA.out.r ins_info rfl (ins_one _) ?_)
              refine bodyPost_ret (v := .tuple #[.agg (insC j), .bool true]) ?_ rfl ⟨?_, ?_⟩
              · rw [res_cell1 (p := 2) (u := 3) rfl _ _ w.heap.size (insC j) 46 _ rfl (putB_at HA.out.r _ _) Tryz.underlying46 rfl ins_info]; rfl
              · rw [HRD.out]
              · exact HA.out.b.trans (putB_below _ (Nat.le_refl _) _ _)
        · have e1 : ((n : Int) == (hs.length : Int)) = false := by simp only [beq_eq_false_iff_ne]; omega
          have e2 : ((n : Int) + 1 == (hs.length : Int) + 1) = false := by simp only [beq_eq_false_iff_ne]; omega
          have e3 : ((n : Int) + 1 != (hs.length : Int) + 1) = true := by simp only [bne_iff_ne, ne_eq]; omega
          have e4 : ¬ (n : Int) = (hs.length : Int) := by omega
          have HNX : Hid (∀ j : Nat, 1 ≤ j → j < k + 1 → ∀ q, byOpL j = some q → ¬ (q.2.1 = nm ∧ n = q.2.2.length)) := Lib.hid fun j h1 h2 q hj => by
            rcases Nat.lt_or_ge j k with h | h
            · exact hno.out j h1 h q hj
            · obtain rfl : j = k := by omega
              rw [HQ.out] at hj
              obtain rfl := Option.some.inj hj
              exact fun e => hl e.2
          clear hno hl
          go_wp2_with (go_at_call 49; refine HSH.out.mono ?_; rintro e w1 ⟨rfl, rfl⟩)
          go_roundw
          case rel => exact ⟨k + 1, by omega, by omega, by go_num, HNX, trivial⟩
          case measure => simp [intOf]; omega
      · have e1 : (x == nm) = false := by simp only [beq_eq_false_iff_ne]; exact fun e => hx e.symm
        have HNX : Hid (∀ j : Nat, 1 ≤ j → j < k + 1 → ∀ q, byOpL j = some q → ¬ (q.2.1 = x ∧ n = q.2.2.length)) := Lib.hid fun j h1 h2 q hj => by
          rcases Nat.lt_or_ge j k with h | h
          · exact hno.out j h1 h q hj
          · obtain rfl : j = k := by omega
            rw [HQ.out] at hj
            obtain rfl := Option.some.inj hj
            exact fun e => hx e.1
        clear hno hx
        go_wp2_with (go_at_call 49; refine HSH.out.mono ?_; rintro e w1 ⟨rfl, rfl⟩)
        go_roundw
        case rel => exact ⟨k + 1, by omega, by omega, by go_num, HNX, trivial⟩
        case measure => simp [intOf]; omega
    · obtain rfl : k = 16 := by omega
      have HF := Lib.hid (HNM.out (fun j h1 h2 => hno.out j h1 (by omega)))
      clear hno
      go_wp2_with (refine wpList_putB rfl 46 _ _ rfl w.heap.size zeroC rfl rfl 46 _ (blk_new _ _ _) ins_info rfl zero_one ?_)
      refine bodyPost_ret (v := .tuple #[.agg zeroC, .bool false]) ?_ rfl ⟨?_, ?_⟩
      · rw [res_cell1 (p := 2) (u := 3) rfl _ _ w.heap.size zeroC 46 _ rfl (putB_at (blk_new _ _ _) _ _) Tryz.underlying46 rfl ins_info]; rfl
      · rw [HF.out]
      · exact HWB.out.trans (putB_below _ (Nat.le_refl _) _ _)
theorem read_any (v : Value) (ws : List Bs) (w : World) (h : RowAt w v (ws.map str)) (hne : ws ≠ []) (hsh : ∀ y ∈ ws, y.length ≤ 3000) : Calls Tryz.prog 50 #[v] w (InstrPost w (instrL ws)) := by
  rcases ws with _ | ⟨x, ws⟩
  · exact absurd rfl hne
  obtain ⟨a, c, rfl, h1, h2, h3⟩ := h.elems
  obtain ⟨b, o, rfl, hlt, hc⟩ := h3 0 x rfl
  rw [Nat.add_zero] at hc
  unfold maxLen at h2
  exact read_walk b o c ws.length x ws _ w rfl h1 h2
    (Lib.hid fun W hW => by rw [(bcell hW).1 b _ hlt]; exact hc)
    (Lib.hid fun k y hk W hW => by
      obtain ⟨b', o', e, _, hc'⟩ := h3 (k + 1) y (by simpa using hk)
      simp at e
      obtain ⟨rfl, rfl⟩ := e
      rw [(bcell hW).1 b _ hlt]; exact hc')
    (Lib.hid fun y hy W => numberR_any ⟨y.toArray⟩ W (hsh y (by simp [hy])))
    (Lib.hid fun k q hq hx hl => instr_match hq hx hl)
    (Lib.hid fun hno => instr_nomatch hno)
end Go.Proofs.YtapjgobkpehgfaaGreatDoor
