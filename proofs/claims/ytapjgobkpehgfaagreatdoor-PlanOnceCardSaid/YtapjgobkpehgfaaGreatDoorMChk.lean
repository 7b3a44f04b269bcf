/-
  The document's Check: its contract.
-/
import Derived.Test.YtapjgobkpehgfaaGreatDoorUAT
import Derived.Test.YtapjgobkpehgfaaGreatDoorUAP
import Derived.Test.YtapjgobkpehgfaaGreatDoorZRight
import Derived.Deep.CutRange
namespace Go.Proofs.YtapjgobkpehgfaaGreatDoor
set_option linter.unusedSimpArgs false
set_option linter.unusedVariables false
open Go.RowKit

/-- A struct that is loaded behind a guard that says yes. -/
theorem wpList_loadBw {ops : Array Oper} {rest : List Oper} {o : Oper} {a : Act} {w : World} {Q : Exit → Act → World → Prop} (hw : Region.wanted o (yielded ops a.tmps) = true) (ty : TypeId) (x : Operand) (ho : o.op = .load ty x)
    (b : Nat) (cells : Array Value) (hx : a.eval x = .pointer (some ⟨b, 0, none⟩)) (t : TypeId) (hb : blk w b cells t) (d : TypeDesc) (hu : Tryz.prog.underlying ty = some d) (hd : d.isRow = true) (hi : (Tryz.prog.info? ty).map (·.size) = some cells.size)
    (h : wpList Tryz.prog ops Q rest (a.put o.dst (.agg cells)) w) : wpList Tryz.prog ops Q (o :: rest) a w :=
  BigFrame.wpList_want hw fun K hK => wp_load_mid ty x ho b 0 hx cells.toList d (blk_range hb) hu hd (by simpa using hi) (hK _ _ (by simpa using h))
section
variable {p : PProg} {n : Int} {i : PIns}
theorem insE_4 (h : rightL i = false) : insE p n i = 4 := by unfold insE; rw [if_pos h]
theorem insE_12 (h : rightL i = true) (hj : jumpI i = true) (hn : i.n < 0 ∨ n < i.n) : insE p n i = 12 := by unfold insE; rw [if_neg (by rw [h]; simp), if_pos ⟨hj, hn⟩]
theorem insE_5 (h : rightL i = true) (hj : jumpI i = false ∨ (0 ≤ i.n ∧ i.n ≤ n)) (hf : (intsB i && kindsB p i) = false) : insE p n i = 5 := by
  unfold insE; rw [if_neg (by rw [h]; simp), if_neg (by rintro ⟨h1, h2⟩; rcases hj with hj | hj; rw [hj] at h1; cases h1; omega), if_pos hf]
theorem insE_0 (h : rightL i = true) (hj : jumpI i = false ∨ (0 ≤ i.n ∧ i.n ≤ n)) (hf : (intsB i && kindsB p i) = true) : insE p n i = 0 := by
  unfold insE; rw [if_neg (by rw [h]; simp), if_neg (by rintro ⟨h1, h2⟩; rcases hj with hj | hj; rw [hj] at h1; cases h1; omega), if_neg (by rw [hf]; simp)]
end

set_option maxRecDepth 100000 in
set_option maxHeartbeats 2000000 in
theorem rcheck_head (w W0 : World) (p : PProg) (x x' : Option Addr) (k k' : Nat)
    (hW0 : W0 = w.alloc (.cells #[.slice x p.types.length k, str p.locals, str p.globs, .slice x' p.code.length k'] 25))
    (KP : Hid (Keep W0 w.heap.size (.slice x p.types.length k) (.slice x' p.code.length k') p)) (HS : Hid (Below w.heap.size w W0)) (HT : Hid (TsAt W0 (.slice x p.types.length k) (tsP p.types)))
    (hl : p.locals.length ≤ 9223372036854775807) (hg : p.globs.length ≤ 9223372036854775807) (g1 : p.code.length ≤ k') (g2 : k' ≤ 9223372036854775807)
    (hh : headB p = false) :
    Calls Tryz.prog 13 #[.agg #[.slice x p.types.length k, str p.locals, str p.globs, .slice x' p.code.length k']] w (ChkPost w (-1) 5) := by
  unfold headB at hh
  rcases hrl : refsB (tsP p.types) (baL p.locals) with _ | _
  · have RL := Lib.hid hrl
    clear hrl hh
    go_enter Tryz.func13, Tryz.ntmps13
    go_wp2_with (fail)
    rw [← hW0]
    clear hW0
    obtain ⟨p0, p1, p2, p3⟩ := KP.out.cells
    go_wp2_with (first | (go_at_call 27; ((refine (rrefs_b _ (tsP p.types) (baL p.locals) false _ HT.out hl RL).mono ?_); rintro e1 w1 ⟨rfl, rfl⟩; clear RL)))
    go_ret2
    exact ⟨rfl, HS.out⟩
  rcases hrg : refsB (tsP p.types) (baL p.globs) with _ | _
  · have RL := Lib.hid hrl
    have RG := Lib.hid hrg
    clear hrl hrg hh
    go_enter Tryz.func13, Tryz.ntmps13
    go_wp2_with (fail)
    rw [← hW0]
    clear hW0
    obtain ⟨p0, p1, p2, p3⟩ := KP.out.cells
    go_wp2_with (first | (go_at_call 27; ((refine (rrefs_b _ (tsP p.types) (baL p.locals) true _ HT.out hl RL).mono ?_); rintro e1 w1 ⟨rfl, rfl⟩; clear RL)) | (go_at_call 27; ((refine (rrefs_b _ (tsP p.types) (baL p.globs) false _ HT.out hg RG).mono ?_); rintro e1 w1 ⟨rfl, rfl⟩)))
    go_ret2
    exact ⟨rfl, HS.out⟩
  rw [hrl, hrg] at hh
  simp at hh
  have RL := Lib.hid hrl
  have RG := Lib.hid hrg
  clear hrl hrg
  by_cases h8 : p.locals.length ≤ 8
  · have h4 : 4 < p.globs.length := hh h8
    clear hh
    go_enter Tryz.func13, Tryz.ntmps13
    go_wp2_with (fail)
    rw [← hW0]
    clear hW0
    obtain ⟨p0, p1, p2, p3⟩ := KP.out.cells
    go_wp2_with (first | (go_at_call 27; ((refine (rrefs_b _ (tsP p.types) (baL p.locals) true _ HT.out hl RL).mono ?_); rintro e1 w1 ⟨rfl, rfl⟩; clear RL)) | (go_at_call 27; ((refine (rrefs_b _ (tsP p.types) (baL p.globs) true _ HT.out hg RG).mono ?_); rintro e1 w1 ⟨rfl, rfl⟩)))
    go_ret2
    exact ⟨rfl, HS.out⟩
  · clear hh
    go_enter Tryz.func13, Tryz.ntmps13
    go_wp2_with (fail)
    rw [← hW0]
    clear hW0
    obtain ⟨p0, p1, p2, p3⟩ := KP.out.cells
    go_wp2_with (first | (go_at_call 27; ((refine (rrefs_b _ (tsP p.types) (baL p.locals) true _ HT.out hl RL).mono ?_); rintro e1 w1 ⟨rfl, rfl⟩; clear RL)) | (go_at_call 27; ((refine (rrefs_b _ (tsP p.types) (baL p.globs) true _ HT.out hg RG).mono ?_); rintro e1 w1 ⟨rfl, rfl⟩)))
    go_ret2
    exact ⟨rfl, HS.out⟩
set_option maxRecDepth 100000 in
set_option maxHeartbeats 2000000 in
theorem rcheck_big (w W0 : World) (p : PProg) (x x' : Option Addr) (k k' : Nat)
    (hW0 : W0 = w.alloc (.cells #[.slice x p.types.length k, str p.locals, str p.globs, .slice x' p.code.length k'] 25))
    (KP : Hid (Keep W0 w.heap.size (.slice x p.types.length k) (.slice x' p.code.length k') p)) (HS : Hid (Below w.heap.size w W0)) (HT : Hid (TsAt W0 (.slice x p.types.length k) (tsP p.types)))
    (hl : p.locals.length ≤ 9223372036854775807) (hg : p.globs.length ≤ 9223372036854775807) (g1 : p.code.length ≤ k') (g2 : k' ≤ 9223372036854775807)
    (hh : headB p = true) (hn : p.code.length < 1 ∨ 200 < p.code.length) :
    Calls Tryz.prog 13 #[.agg #[.slice x p.types.length k, str p.locals, str p.globs, .slice x' p.code.length k']] w (ChkPost w (-1) 3) := by
  unfold headB at hh
  simp only [Bool.and_eq_true, decide_eq_true_eq] at hh
  obtain ⟨⟨⟨hrl, hrg⟩, h8⟩, h4⟩ := hh
  have RL := Lib.hid hrl
  have RG := Lib.hid hrg
  clear hrl hrg
  rcases hn with hn | hn
  all_goals
    go_enter Tryz.func13, Tryz.ntmps13
    go_wp2_with (fail)
    rw [← hW0]
    clear hW0
    obtain ⟨p0, p1, p2, p3⟩ := KP.out.cells
    go_wp2_with (first | (go_at_call 27; ((refine (rrefs_b _ (tsP p.types) (baL p.locals) true _ HT.out hl RL).mono ?_); rintro e1 w1 ⟨rfl, rfl⟩; clear RL)) | (go_at_call 27; ((refine (rrefs_b _ (tsP p.types) (baL p.globs) true _ HT.out hg RG).mono ?_); rintro e1 w1 ⟨rfl, rfl⟩)))
    go_ret2
    exact ⟨rfl, HS.out⟩

set_option maxRecDepth 100000 in
set_option maxHeartbeats 12000000 in
theorem rcheck_code (w W0 : World) (p : PProg) (x x' : Option Addr) (k k' : Nat) (z e : Int)
    (hW0 : W0 = w.alloc (.cells #[.slice x p.types.length k, str p.locals, str p.globs, .slice x' p.code.length k'] 25))
    (KP : Hid (Keep W0 w.heap.size (.slice x p.types.length k) (.slice x' p.code.length k') p)) (HS : Hid (Below w.heap.size w W0)) (HT : Hid (TsAt W0 (.slice x p.types.length k) (tsP p.types)))
    (hl : p.locals.length ≤ 9223372036854775807) (hg : p.globs.length ≤ 9223372036854775807) (g1 : p.code.length ≤ k') (g2 : k' ≤ 9223372036854775807)
    (HC : Hid (∀ j i, p.code[j]? = some i → ∃ b o, x' = some ⟨b, o, none⟩ ∧ b < W0.heap.size ∧ W0.rangeAt b (o + j * 5) (insC i).toList)) (HOI : Hid (∀ i ∈ p.code, OkI i))
    (HRT : Hid (∀ w1 i r, Below W0.heap.size W0 w1 → OkI i → rightL i = r → Calls Tryz.prog 28 #[insV i] w1 (AggPost w1 (.bool r))))
    (HIN : Hid (∀ w1 i r, Below W0.heap.size W0 w1 → OkI i → rightL i = true → intsB i = r → Calls Tryz.prog 29 #[insV i] w1 (AggPost w1 (.bool r))))
    (HKI : Hid (∀ w1 i r, Below W0.heap.size W0 w1 → OkI i → rightL i = true → kindsB p i = r → Calls Tryz.prog 30 #[.agg #[.slice x p.types.length k, str p.locals, str p.globs, .slice x' p.code.length k'], insV i] w1 (AggPost w1 (.bool r))))
    (hh : headB p = true) (h1 : 1 ≤ p.code.length) (h2 : p.code.length ≤ 200) (hz : Hid ((checkL p).1 = z)) (he : Hid (((checkL p).2 : Int) = e)) :
    Calls Tryz.prog 13 #[.agg #[.slice x p.types.length k, str p.locals, str p.globs, .slice x' p.code.length k']] w (ChkPost w z e) := by
  have HH := Lib.hid hh
  have HB := Lib.hid (Below.refl W0.heap.size W0)
  unfold headB at hh
  simp only [Bool.and_eq_true, decide_eq_true_eq] at hh
  obtain ⟨⟨⟨hrl, hrg⟩, h8⟩, h4⟩ := hh
  have RL := Lib.hid hrl
  have RG := Lib.hid hrg
  clear hrl hrg
  go_enter Tryz.func13, Tryz.ntmps13
  go_wp2_with (fail)
  rw [← hW0]
  clear hW0
  obtain ⟨p0, p1, p2, p3⟩ := KP.out.cells
  go_wp2_with (first | (go_at_call 27; ((refine (rrefs_b _ (tsP p.types) (baL p.locals) true _ HT.out hl RL).mono ?_); rintro e1 w1 ⟨rfl, rfl⟩; clear RL)) | (go_at_call 27; ((refine (rrefs_b _ (tsP p.types) (baL p.globs) true _ HT.out hg RG).mono ?_); rintro e1 w1 ⟨rfl, rfl⟩)))
  clear p0 p1 p2 p3 HT RG
  go_loopw [4] (fun v wr => ∃ m : Nat, m ≤ p.code.length ∧ v = .int .i64 m ∧ Hid (∀ j ∈ p.code.take m, insE p p.code.length j = 0) ∧ Hid (Below W0.heap.size W0 wr) ∧ Hid (Keep wr w.heap.size (.slice x p.types.length k) (.slice x' p.code.length k') p)) (fun v _ => p.code.length - (intOf v).toNat)
  case atStart => exact ⟨0, Nat.zero_le _, rfl, Lib.hid (by simp), HB, KP⟩
  case round =>
    obtain ⟨m, hm, rfl, hall, hbw, hkw⟩ := hrel
    clear HB KP
    obtain ⟨p0, p1, p2, p3⟩ := hkw.out.cells
    by_cases hlt : m < p.code.length
    · obtain ⟨i, hi⟩ : ∃ i, p.code[m]? = some i := ⟨_, List.getElem?_eq_getElem hlt⟩
      obtain ⟨b, o, rfl, hb, hcell⟩ := HC.out m i hi
      have hr := Lib.hid (rangeAt_below hcell hb hbw.out)
      have HI := Lib.hid hi
      have hoi := Lib.hid (HOI.out i (List.mem_of_getElem? hi))
      have hsz := hbw.out.size
      clear hcell hb hi
      obtain ⟨op, a, bb, c, n⟩ := i
      have HBA := Lib.hid (hbw.out.alloc hsz (.cells (insC ⟨op, a, bb, c, n⟩) 46))
      have KPA := Lib.hid (hkw.out.below ((Below.refl wr.heap.size wr).alloc (Nat.le_refl _) (.cells (insC ⟨op, a, bb, c, n⟩) 46)))
      have KIA := Lib.hid (blk_new wr (insC ⟨op, a, bb, c, n⟩) 46)
      have i0 := blk_cell KIA.out 0 _ rfl
      go_upto_region 9 with (refine wpList_load_mid rfl 46 _ rfl b (o + m * 5) rfl (insC ⟨op, a, bb, c, n⟩).toList _ hr.out Tryz.underlying46 rfl ins_info ?_)
      have i0 := blk_cell KIA.out 0 _ rfl
      have i4 := blk_cell KIA.out 4 _ rfl
      clear hr hsz
      have HJ : Hid (∀ J : Bool, jumpI ⟨op, a, bb, c, n⟩ = J → (op == 3 || op == 4) = J) := Lib.hid fun J hJ => by rw [← hJ]; rfl
      obtain ⟨J, hJ⟩ : ∃ J, jumpI ⟨op, a, bb, c, n⟩ = J := ⟨_, rfl⟩
      have HJJ := Lib.hid hJ
      have hjo := HJ.out J hJ
      clear hJ HJ
      obtain ⟨wi, hwi⟩ : ∃ wi, wi = wr.alloc (.cells (insC ⟨op, a, bb, c, n⟩) 46) := ⟨_, rfl⟩
      have i0' : wi.cell? ⟨wr.heap.size, 0, none⟩ = some (.int .u8 op) := by rw [hwi]; exact i0
      rw [← hwi] at HBA KPA KIA i4 ⊢
      clear hwi i0 p0 p1 p2 p3
      go_cut [6] from 55 to 62 (fun v6 wx => v6 = .bool J ∧ wx = wi)
      case first =>
        have HJO := Lib.hid hjo
        clear hjo
        by_cases o3 : op = 3
        · have e3 : (op == 3) = true := by simp [o3]
          have hj1 : J = true := by rw [← HJO.out, e3]; rfl
          subst hj1
          clear o3
          go_wp2_with (fail)
          go_meet
          exact ⟨rfl, rfl⟩
        · have e3 : (op == 3) = false := by simp [o3]
          clear o3
          rcases e4 : op == 4 with _ | _
          · have hj1 : J = false := by rw [← HJO.out, e3, e4]; rfl
            subst hj1
            go_wp2_with (fail)
            go_meet
            exact ⟨rfl, rfl⟩
          · have hj1 : J = true := by rw [← HJO.out, e3, e4]; rfl
            subst hj1
            go_wp2_with (fail)
            go_meet
            exact ⟨rfl, rfl⟩
      case rest =>
        obtain ⟨rfl, rfl⟩ := hcut
        clear hjo i0'
        rcases hri : rightL ⟨op, a, bb, c, n⟩ with _ | _
        · have HRI := Lib.hid hri
          clear hri i4
          go_wp2_with (first
            | (refine wpList_loadB rfl 46 _ rfl wr.heap.size (insC ⟨op, a, bb, c, n⟩) rfl 46 KIA.out _ Tryz.underlying46 rfl ins_info ?_)
            | (go_at_call 28; refine (HRT.out _ ⟨op, a, bb, c, n⟩ false HBA.out hoi.out HRI.out).mono ?_; rintro e1 w2 ⟨rfl, hb2⟩; have HBB := Lib.hid (HBA.out.trans (hb2.mono HBA.out.size)); clear hb2))
          go_ret2
          refine chk_post ?_ ?_ (HS.out.trans (HBB.out.mono HS.out.size))
          · rw [← hz.out, check_here HH.out (by omega) (by omega) HI.out hall.out (by rw [insE_4 HRI.out]; decide)]
          · rw [← he.out, check_here HH.out (by omega) (by omega) HI.out hall.out (by rw [insE_4 HRI.out]; decide), insE_4 HRI.out]; rfl
        have HRI := Lib.hid hri
        clear hri
        go_upto_region 12 with (first
          | (refine wpList_loadB rfl 46 _ rfl wr.heap.size (insC ⟨op, a, bb, c, n⟩) rfl 46 KIA.out _ Tryz.underlying46 rfl ins_info ?_)
          | (go_at_call 28; refine (HRT.out _ ⟨op, a, bb, c, n⟩ true HBA.out hoi.out HRI.out).mono ?_; rintro e1 w2 ⟨rfl, hb2⟩; have HBB := Lib.hid (HBA.out.trans (hb2.mono HBA.out.size)); have KPB := Lib.hid (KPA.out.below hb2); have KIB := Lib.hid (blk_below KIA.out hb2); clear hb2))
        clear i4 HBA KPA KIA HRT
        have i4 : w2.cell? ⟨wr.heap.size, 4, none⟩ = some (.int .i64 n) := blk_cell KIB.out 4 _ rfl
        have p3 : w2.cell? ⟨w.heap.size, 3, none⟩ = some (.slice (some ⟨b, o, none⟩) p.code.length k') := blk_cell KPB.out.blk 3 _ rfl
        by_cases hbad : J = true ∧ (n < 0 ∨ (p.code.length : Int) < n)
        · obtain ⟨rfl, hn⟩ := hbad
          rcases hn with n0 | n1
          · go_wp2
            go_ret2
            refine chk_post ?_ ?_ (HS.out.trans (HBB.out.mono HS.out.size))
            · rw [← hz.out, check_here HH.out (by omega) (by omega) HI.out hall.out (by rw [insE_12 HRI.out HJJ.out (.inl n0)]; decide)]
            · rw [← he.out, check_here HH.out (by omega) (by omega) HI.out hall.out (by rw [insE_12 HRI.out HJJ.out (.inl n0)]; decide), insE_12 HRI.out HJJ.out (.inl n0)]; rfl
          · go_wp2
            go_ret2
            refine chk_post ?_ ?_ (HS.out.trans (HBB.out.mono HS.out.size))
            · rw [← hz.out, check_here HH.out (by omega) (by omega) HI.out hall.out (by rw [insE_12 HRI.out HJJ.out (.inr n1)]; decide)]
            · rw [← he.out, check_here HH.out (by omega) (by omega) HI.out hall.out (by rw [insE_12 HRI.out HJJ.out (.inr n1)]; decide), insE_12 HRI.out HJJ.out (.inr n1)]; rfl
        have HOKJ : Hid (jumpI ⟨op, a, bb, c, n⟩ = false ∨ (0 ≤ n ∧ n ≤ (p.code.length : Int))) := Lib.hid (by
          rcases J with _ | _
          · exact .inl HJJ.out
          · right; constructor <;> (refine Int.not_lt.1 fun hn => hbad ⟨rfl, ?_⟩); exact .inl hn; exact .inr hn)
        go_cut [68] from 69 to 82 (fun v68 wx => v68 = .bool false ∧ wx = w2)
        case first =>
          rcases J with _ | _
          · clear hbad
            go_wp2_with (fail)
            go_meet
            exact ⟨rfl, rfl⟩
          · have hn0 : ¬ n < 0 := fun hn => hbad ⟨rfl, .inl hn⟩
            have hn1 : ¬ (p.code.length : Int) < n := fun hn => hbad ⟨rfl, .inr hn⟩
            clear hbad
            go_wp2_with (fail)
            go_meet
            exact ⟨rfl, rfl⟩
        case rest =>
          obtain ⟨rfl, rfl⟩ := hcut
          clear hbad i4 p3
          rcases hii : intsB ⟨op, a, bb, c, n⟩ with _ | _
          · have HII := Lib.hid hii
            clear hii
            go_wp2_with (first
              | (refine wpList_loadB rfl 46 _ rfl wr.heap.size (insC ⟨op, a, bb, c, n⟩) rfl 46 KIB.out _ Tryz.underlying46 rfl ins_info ?_)
              | (go_at_call 29; refine (HIN.out _ ⟨op, a, bb, c, n⟩ false HBB.out hoi.out HRI.out HII.out).mono ?_; rintro e1 w3 ⟨rfl, hb3⟩; have HBC := Lib.hid (HBB.out.trans (hb3.mono HBB.out.size)); clear hb3))
            go_ret2
            refine chk_post ?_ ?_ (HS.out.trans (HBC.out.mono HS.out.size))
            · rw [← hz.out, check_here HH.out (by omega) (by omega) HI.out hall.out (by rw [insE_5 HRI.out HOKJ.out (by rw [HII.out]; rfl)]; decide)]
            · rw [← he.out, check_here HH.out (by omega) (by omega) HI.out hall.out (by rw [insE_5 HRI.out HOKJ.out (by rw [HII.out]; rfl)]; decide), insE_5 HRI.out HOKJ.out (by rw [HII.out]; rfl)]; rfl
          have HII := Lib.hid hii
          clear hii
          rcases hkk : kindsB p ⟨op, a, bb, c, n⟩ with _ | _
          · have HKK := Lib.hid hkk
            clear hkk
            go_wp2_with (first
              | (refine wpList_loadB rfl 46 _ rfl wr.heap.size (insC ⟨op, a, bb, c, n⟩) rfl 46 KIB.out _ Tryz.underlying46 rfl ins_info ?_)
              | (refine wpList_loadBw (by rfl) 25 _ rfl w.heap.size (progC (.slice x p.types.length k) p (.slice (some ⟨b, o, none⟩) p.code.length k')) rfl 25 KPC.out.blk _ Tryz.underlying25 rfl prog_info ?_)
              | (refine wpList_loadBw (by rfl) 46 _ rfl wr.heap.size (insC ⟨op, a, bb, c, n⟩) rfl 46 KIC.out _ Tryz.underlying46 rfl ins_info ?_)
              | (go_at_call 29; refine (HIN.out _ ⟨op, a, bb, c, n⟩ true HBB.out hoi.out HRI.out HII.out).mono ?_; rintro e1 w3 ⟨rfl, hb3⟩; have HBC := Lib.hid (HBB.out.trans (hb3.mono HBB.out.size)); have KPC := Lib.hid (KPB.out.below hb3); have KIC := Lib.hid (blk_below KIB.out hb3); clear hb3)
              | (go_at_call 30; refine (HKI.out _ ⟨op, a, bb, c, n⟩ false HBC.out hoi.out HRI.out HKK.out).mono ?_; rintro e1 w4 ⟨rfl, hb4⟩; have HBD := Lib.hid (HBC.out.trans (hb4.mono HBC.out.size)); have KPD := Lib.hid (KPC.out.below hb4); clear hb4))
            go_ret2
            refine chk_post ?_ ?_ (HS.out.trans (HBD.out.mono HS.out.size))
            · rw [← hz.out, check_here HH.out (by omega) (by omega) HI.out hall.out (by rw [insE_5 HRI.out HOKJ.out (by rw [HII.out, HKK.out]; rfl)]; decide)]
            · rw [← he.out, check_here HH.out (by omega) (by omega) HI.out hall.out (by rw [insE_5 HRI.out HOKJ.out (by rw [HII.out, HKK.out]; rfl)]; decide), insE_5 HRI.out HOKJ.out (by rw [HII.out, HKK.out]; rfl)]; rfl
          · have HKK := Lib.hid hkk
            clear hkk
            go_wp2_with (first
              | (refine wpList_loadB rfl 46 _ rfl wr.heap.size (insC ⟨op, a, bb, c, n⟩) rfl 46 KIB.out _ Tryz.underlying46 rfl ins_info ?_)
              | (refine wpList_loadBw (by rfl) 25 _ rfl w.heap.size (progC (.slice x p.types.length k) p (.slice (some ⟨b, o, none⟩) p.code.length k')) rfl 25 KPC.out.blk _ Tryz.underlying25 rfl prog_info ?_)
              | (refine wpList_loadBw (by rfl) 46 _ rfl wr.heap.size (insC ⟨op, a, bb, c, n⟩) rfl 46 KIC.out _ Tryz.underlying46 rfl ins_info ?_)
              | (go_at_call 29; refine (HIN.out _ ⟨op, a, bb, c, n⟩ true HBB.out hoi.out HRI.out HII.out).mono ?_; rintro e1 w3 ⟨rfl, hb3⟩; have HBC := Lib.hid (HBB.out.trans (hb3.mono HBB.out.size)); have KPC := Lib.hid (KPB.out.below hb3); have KIC := Lib.hid (blk_below KIB.out hb3); clear hb3)
              | (go_at_call 30; refine (HKI.out _ ⟨op, a, bb, c, n⟩ true HBC.out hoi.out HRI.out HKK.out).mono ?_; rintro e1 w4 ⟨rfl, hb4⟩; have HBD := Lib.hid (HBC.out.trans (hb4.mono HBC.out.size)); have KPD := Lib.hid (KPC.out.below hb4); clear hb4))
            go_roundw
            case rel => exact ⟨m + 1, by omega, by go_num, Lib.hid (all0_next hall.out HI.out (insE_0 HRI.out HOKJ.out (by rw [HII.out, HKK.out]; rfl))), HBD, KPD⟩
            case measure => simp [intOf]; omega
    · obtain rfl : m = p.code.length := by omega
      go_wp2
      go_ret2
      have hall' := hall.out
      rw [List.take_length] at hall'
      refine chk_post ?_ ?_ (HS.out.trans (hbw.out.mono HS.out.size))
      · rw [← hz.out, check_none HH.out (by omega) (by omega) hall']
      · rw [← he.out, check_none HH.out (by omega) (by omega) hall']; rfl
theorem rcheck_n (v : Value) (p : PProg) (z e : Int) (w : World) (h : ProgAt w v p) (hs : OkP p) (ht : HasT w) (hz : (checkL p).1 = z) (he : ((checkL p).2 : Int) = e) : Calls Tryz.prog 13 #[v] w (ChkPost w z e) := by
  obtain ⟨vt, vc, rfl, ht', hc⟩ := id h
  obtain ⟨x, k, rfl, -, -, -⟩ := id ht'.elems
  obtain ⟨x', k', rfl, -, -, -⟩ := id hc
  have hwb : Below w.heap.size w (w.alloc (.cells #[.slice x p.types.length k, str p.locals, str p.globs, .slice x' p.code.length k'] 25)) := (Below.refl _ _).alloc (Nat.le_refl _) _
  have kp : Keep (w.alloc (.cells #[.slice x p.types.length k, str p.locals, str p.globs, .slice x' p.code.length k'] 25)) w.heap.size (.slice x p.types.length k) (.slice x' p.code.length k') p := keep_new h
  have hT := ht.below hwb
  have hc' := hc.below hwb
  generalize hW0 : w.alloc (.cells #[.slice x p.types.length k, str p.locals, str p.globs, .slice x' p.code.length k'] 25) = W0 at hwb kp hT hc'
  have hp := kp.at'
  obtain ⟨x1, k1, e1, g1, g2, g3⟩ := hc'
  simp only [Value.slice.injEq] at e1
  obtain ⟨rfl, -, rfl⟩ := e1
  have hlo := hs.lo
  have hgl := hs.gl
  unfold maxLen at g2 hlo hgl
  rcases hh : headB p with _ | _
  · rw [check_head hh] at hz he
    subst hz he
    exact rcheck_head w W0 p x x' k k' hW0.symm (Lib.hid kp) (Lib.hid hwb) (Lib.hid (kp.ts hs)) hlo hgl g1 g2 hh
  · by_cases hn : p.code.length < 1 ∨ 200 < p.code.length
    · rw [check_big hh hn] at hz he
      subst hz he
      exact rcheck_big w W0 p x x' k k' hW0.symm (Lib.hid kp) (Lib.hid hwb) (Lib.hid (kp.ts hs)) hlo hgl g1 g2 hh hn
    · have hh' := hh
      unfold headB at hh'
      simp only [Bool.and_eq_true, decide_eq_true_eq] at hh'
      obtain ⟨⟨-, h8⟩, h4⟩ := hh'
      exact rcheck_code w W0 p x x' k k' z e hW0.symm (Lib.hid kp) (Lib.hid hwb) (Lib.hid (kp.ts hs)) hlo hgl g1 g2 (Lib.hid g3) (Lib.hid hs.ins)
        (Lib.hid fun w1 i r hb hi he => rightR_b i r w1 hi (hT.below hb) he) (Lib.hid fun w1 i r hb hi hR he => rints_n i r w1 hi hR he)
        (Lib.hid fun w1 i r hb hi hR he => rkinds_n _ p i r w1 (hp.below hb) hs hi hR (by omega) (by omega) he) hh (by omega) (by omega) (Lib.hid hz) (Lib.hid he)
end Go.Proofs.YtapjgobkpehgfaaGreatDoor
