/-
  The contract of the document's Print.
-/
import Derived.Test.YtgmpggjikebcdaaGreatDoorZMay
import Derived.Test.YtgmpggjikebcdaaGreatDoorRJoin
namespace Go.Proofs.YtgmpggjikebcdaaGreatDoor
open Go.RowKit

theorem lens1_join {x : List Bs} (h : x ≠ []) : lens1 x ≤ (Lib.join x [32]).length + 1 := by
  induction x with
  | nil => exact absurd rfl h
  | cons a r ih =>
    cases r with
    | nil => rw [Lib.join_one, lens1_cons]; simp [lens1]
    | cons b r => rw [join_two, lens1_cons]; have := ih (by simp); simp; omega
theorem fewS_join (G : List (List Bs)) (hG : ∀ x ∈ G, x ≠ []) : fewS G ≤ 2 * (joinL G).length := by
  induction G with
  | nil => simp [fewS]
  | cons a r ih =>
    rw [joinL_cons]
    have h1 := lens1_join (hG a (by simp))
    have h2 := ih (fun x hx => hG x (by simp [hx]))
    unfold fewS at h2 ⊢
    simp; omega

theorem rmay_b (v : Value) (p : PProg) (b : Bool) (w : World) (h : ProgAt w v p) (hs : OkP p) (ht : HasT w) (hb : mayP p = b) : Calls Tryz.prog 18 #[v] w (AggPost w (.bool b)) := by
  subst hb; exact rmay_any v p w h hs ht
theorem or_l (s : Bs) (w : World) : Calls Tryz.prog 19 #[str s] w fun e w' => e = .returned (str (orL s)) ∧ w = w' := or_any s w

set_option maxRecDepth 100000 in
set_option maxHeartbeats 1000000 in
theorem rprint_bad (v : Value) (p : PProg) (w : World) (h : ProgAt w v p) (hs : OkP p) (ho : HasT w) (hm : mayP p = false) : Calls Tryz.prog 8 #[v] w (PrintPost w ([], 2)) := by
  obtain ⟨vt, vc, rfl, ht, hc⟩ := h
  have hwb : Below w.heap.size w (w.alloc (.cells (progC vt p vc) 25)) := (Below.refl _ _).alloc (Nat.le_refl _) _
  have HM : Hid (Calls Tryz.prog 18 #[.agg (progC vt p vc)] (w.alloc (.cells (progC vt p vc) 25)) (AggPost (w.alloc (.cells (progC vt p vc) 25)) (.bool false))) :=
    Lib.hid (rmay_b _ p false _ ⟨vt, vc, rfl, ht.below hwb, hc.below hwb⟩ hs (ho.below hwb) hm)
  have HW := Lib.hid hwb
  clear ht hc hs ho hm hwb
  go_enter Tryz.func8, Tryz.ntmps8
  go_wp2_with (first
    | (refine wpList_loadB rfl 25 _ rfl w.heap.size (progC vt p vc) rfl 25 (blk_new _ _ _) _ Tryz.underlying25 rfl prog_info ?_)
    | (go_at_call 18; refine HM.out.mono ?_; rintro e w1 ⟨rfl, hb1⟩))
  go_ret2
  exact ⟨rfl, HW.out.trans (hb1.mono (by simp))⟩

set_option maxRecDepth 100000 in
set_option maxHeartbeats 2000000 in
theorem rprint_ok (v : Value) (p : PProg) (w : World) (h : ProgAt w v p) (hs : OkP p) (htab : HasT w) (hm : mayP p = true) (hlen : p.types.length ≤ 1000) (hjl : fewS (linesP p) ≤ 1000000000) :
    Calls Tryz.prog 8 #[v] w (PrintPost w (joinL (linesP p), 0)) := by
  obtain ⟨vt, vc, rfl, ht, hc⟩ := h
  have hwb : Below w.heap.size w (w.alloc (.cells (progC vt p vc) 25)) := (Below.refl _ _).alloc (Nat.le_refl _) _
  have HM : Hid (Calls Tryz.prog 18 #[.agg (progC vt p vc)] (w.alloc (.cells (progC vt p vc) 25)) (AggPost (w.alloc (.cells (progC vt p vc) 25)) (.bool true))) :=
    Lib.hid (rmay_b _ p true _ ⟨vt, vc, rfl, ht.below hwb, hc.below hwb⟩ hs (htab.below hwb) hm)
  have HWB := Lib.hid hwb
  obtain ⟨a, c, rfl, h1, h2, h3⟩ := (ht.below hwb).elems
  obtain ⟨a', c', rfl, g1, g2, g3⟩ := hc.below hwb
  obtain ⟨i22, q0, q1, q2, q3⟩ := info_parts Tryz.info22
  have HT := Lib.hid h3
  have HI := Lib.hid g3
  have HP := Lib.hid hs
  have HTab := Lib.hid (htab.below hwb)
  have HMP := Lib.hid hm
  have HJ := Lib.hid hjl
  clear htab ht hc h3 g3 hs hwb hm hjl
  unfold maxLen at h2 g2
  go_enter Tryz.func8, Tryz.ntmps8
  go_wp2_with (first
    | (refine wpList_loadB rfl 25 _ rfl w.heap.size (progC (.slice a p.types.length c) p (.slice a' p.code.length c')) rfl 25 (blk_new _ _ _) _ Tryz.underlying25 rfl prog_info ?_)
    | (go_at_call 18; refine HM.out.mono ?_; rintro e w1 ⟨rfl, hb1⟩; have KB := Lib.hid (blk_below (blk_new _ _ _) hb1); have kc0 := blk_cell KB.out 0 _ rfl; have s1 := hb1.size; rw [World.size_alloc] at s1; have HB1 := Lib.hid hb1; clear hb1))
  have HS := Lib.hid (gRel_start w1)
  go_loopw [4, 5] (fun v i wr => ∃ k : Nat, k ≤ p.types.length ∧ i = .int .i64 k ∧ GRel w1 v (tyLines (p.types.take k)) wr) (fun _ i _ => p.types.length - (intOf i).toNat)
  case atStart => exact ⟨0, Nat.zero_le _, rfl, HS.out⟩
  case round =>
    obtain ⟨k, hk, rfl, hr⟩ := hrel
    clear HS HM
    have HR := Lib.hid hr
    have hrs := hr.b.size
    have kc0 := blk_cell (blk_below KB.out hr.b) 0 _ rfl
    obtain ⟨vs, e1, e2, e3⟩ := hr.step
    have E2 := Lib.hid e2
    have E3 := Lib.hid e3
    clear hr e2 e3
    by_cases hlt : k < p.types.length
    · obtain ⟨t, hx⟩ : ∃ t, p.types[k]? = some t := ⟨_, List.getElem?_eq_getElem hlt⟩
      obtain ⟨b, o, rfl, hb, hcell⟩ := HT.out k t hx
      have hcx : wr.cell? ⟨b, o + k, none⟩ = some (str t) := by
        rw [(bcell HR.out.b).1 b _ (by rw [World.size_alloc] at hb; omega), (bcell HB1.out).1 b _ hb]; exact hcell
      have hn := tyLines_next hx
      have hl := tyLines_len (ts := p.types) (k := k) (by omega)
      clear hcell
      have HN := Lib.hid hn
      clear hn hx
      generalize tyLines (p.types.take k) = xss at *
      have HC1 := Lib.hid (one_cell (wr.alloc (.cells #[str kType, str t] 9)) (.slice (some ⟨wr.heap.size, 0, none⟩) 2 2) 22)
      rw [World.size_alloc] at HC1
      go_wp2_with (at_builtin; refine wpList_append_own _ rfl _ _ 43 rfl w1.heap.size 22 i22 (.slice none 0 0) 1 24 Tryz.underlying43 q0 q1 q2 q3 rfl (by decide) _ _ _ rfl ((E2.out.alloc _).alloc _) ⟨wr.heap.size + 1, 0, none⟩ 1 1 [.slice (some ⟨wr.heap.size, 0, none⟩) 2 2] rfl rfl ?c1 ?c2 ?c3 ?c4 ?c5 ?_)
      case c1 => exact HC1.out
      case c2 => intro u hu; simp at hu; subst hu; rfl
      case c3 => unfold maxLen; omega
      case c4 => omega
      case c5 => simp; omega
      intro v' w' ho' hg _
      have HNX := Lib.hid (E3.out [[kType, t]] _ _ w' v' _ rfl ((Below.refl _ _).alloc (Nat.le_refl _) _) (one_us (row_two wr kType t)) (by rw [hl]; exact ho') hg)
      clear ho' hg
      go_wp2
      go_roundw
      case rel => exact ⟨k + 1, by omega, by go_num, by rw [HN.out]; exact HNX.out⟩
      case measure => simp [intOf]; omega
    · obtain rfl : k = p.types.length := by omega
      have kw := Lib.hid (blk_below KB.out HR.out.b)
      have kc1 := blk_cell kw.out 1 _ rfl
      have kc2 := blk_cell kw.out 2 _ rfl
      have HE2 := Lib.hid e1
      have kc3 : ∀ o : Obj, (wr.alloc o).drew.cell? ⟨w.heap.size, 2, none⟩ = some (str p.globs) := fun o => blk_cell (blk_alloc kw.out o) 2 _ rfl
      clear e1
      go_wp2_with fail
      have hl := tyLines_len (ts := p.types) (k := p.types.length) (Nat.le_refl _)
      have HL := Lib.hid hl
      have EA := Lib.hid (lits_a wr kLocals (orL p.locals) kGlobals (orL p.globs))
      have EB := Lib.hid (lits_a wr kGlobals (orL p.globs) kLocals (orL p.locals))
      have H63 := Lib.hid (show p.types.length + 2 ≤ maxLen by unfold maxLen; omega)
      clear hl
      go_cut [4] from 26 (fun v4 wx => GRel w1 v4 (tyLines p.types ++ [[kLocals, orL p.locals], [kGlobals, orL p.globs]]) wx)
      case first =>
        go_region_law (first
          | (go_simp; go_at_call 19; ((with_reducible refine (or_l p.locals _).mono ?_); rintro e w' ⟨rfl, rfl⟩))
          | (go_simp; go_at_call 19; ((with_reducible refine (or_l p.globs _).mono ?_); rintro e w' ⟨rfl, rfl⟩))
          | (refine step_append_lies _ (by rfl) _ _ _ (by rfl) w1.heap.size 22 i22 (.slice none 0 0) 1 24 Tryz.underlying43 q0 q1 q2 q3 rfl (by omega) u4 p.types.length vs (by rfl) (by rw [← HL.out]; exact ((E2.out.alloc _).alloc _).alloc _) ⟨wr.heap.size + 1 + 1, 0, none⟩ 2 2 [.slice (some ⟨wr.heap.size, 0, none⟩) 2 2, .slice (some ⟨wr.heap.size + 1, 0, none⟩) 2 2] (by rfl) (by rfl) (lits_news (EA.out _).2.2.2) (by intro u hu; simp at hu; rcases hu with rfl | rfl <;> rfl) (by omega) H63.out (by omega) (by simp; omega) _ rfl ?_; intro gg cp w4 hown4 hgr4 _ _; have HN4 := Lib.hid (E3.out [[kLocals, orL p.locals], [kGlobals, orL p.globs]] _ _ w4 _ _ rfl (EA.out (.map #[] 0)).1 (two_us (EA.out (.map #[] 0)).2.1 (EA.out (.map #[] 0)).2.2.1) (by rw [HL.out]; exact hown4) (grownBy_drew hgr4)); clear hown4 hgr4)
          | (refine step_append_lies _ (by rfl) _ _ _ (by rfl) w1.heap.size 22 i22 (.slice none 0 0) 1 24 Tryz.underlying43 q0 q1 q2 q3 rfl (by omega) u4 p.types.length vs (by rfl) (by rw [← HL.out]; exact ((E2.out.alloc _).alloc _).alloc _) ⟨wr.heap.size + 1 + 1, 0, none⟩ 2 2 [.slice (some ⟨wr.heap.size + 1, 0, none⟩) 2 2, .slice (some ⟨wr.heap.size, 0, none⟩) 2 2] (by rfl) (by rfl) (lits_news (EB.out _).2.2.2) (by intro u hu; simp at hu; rcases hu with rfl | rfl <;> rfl) (by omega) H63.out (by omega) (by simp; omega) _ rfl ?_; intro gg cp w4 hown4 hgr4 _ _; have HN4 := Lib.hid (E3.out [[kLocals, orL p.locals], [kGlobals, orL p.globs]] _ _ w4 _ _ rfl (EB.out (.map #[] 0)).1 (two_us (EB.out (.map #[] 0)).2.2.1 (EB.out (.map #[] 0)).2.1) (by rw [HL.out]; exact hown4) (grownBy_drew hgr4)); clear hown4 hgr4))
        all_goals (go_wp2_with fail; go_meet; have HN5 := HN4.out; rw [List.take_length] at HN5; exact HN5)
      case rest =>
        clear E2 E3 EA EB H63 HE2 kc1 kc2 kc3 HR HL hrs kw
        have hr4 := Lib.hid hcut
        clear hcut
        have kw2 := Lib.hid (blk_below KB.out hr4.out.b)
        have kc4 := blk_cell kw2.out 3 _ rfl
        go_wp2
        go_loopw [4, 6] (fun v i wr => ∃ k : Nat, k ≤ p.code.length ∧ i = .int .i64 k ∧ GRel w1 v (tyLines p.types ++ [[kLocals, orL p.locals], [kGlobals, orL p.globs]] ++ (p.code.take k).map wordsI) wr) (fun _ i _ => p.code.length - (intOf i).toNat)
        case atStart => exact ⟨0, Nat.zero_le _, rfl, by simpa using hr4.out⟩
        case round =>
          obtain ⟨k, hk, rfl, hr⟩ := hrel
          clear hr4 kw2
          have HR := Lib.hid hr
          have hrs := hr.b.size
          have kc3 := blk_cell (blk_below KB.out hr.b) 3 _ rfl
          obtain ⟨vs, e1, e2, e3⟩ := hr.step
          have E2 := Lib.hid e2
          have E3 := Lib.hid e3
          clear hr e2 e3
          by_cases hlt : k < p.code.length
          · obtain ⟨i, hi⟩ : ∃ i, p.code[k]? = some i := ⟨_, List.getElem?_eq_getElem hlt⟩
            obtain ⟨b, o, rfl, hb, hcell⟩ := HI.out k i hi
            have hbw : b < w1.heap.size := by rw [World.size_alloc] at hb; omega
            have hrg := Lib.hid (rangeAt_below (rangeAt_below hcell hb HB1.out) hbw HR.out.b)
            have hri := List.all_eq_true.1 (mayP_parts HMP.out).2.2 i (List.mem_of_getElem? hi)
            have HWD := Lib.hid (line_any i wr ((HTab.out.below HB1.out).below HR.out.b) (HP.out.ins i (List.mem_of_getElem? hi)))
            have HNX0 := Lib.hid (code_next (p := p) hi)
            have HLN := Lib.hid (code_len p (k := k) (by omega))
            have hle := (mayP_parts HMP.out).2.1
            clear hcell hb hri hi
            generalize tyLines p.types ++ [[kLocals, orL p.locals], [kGlobals, orL p.globs]] ++ (p.code.take k).map wordsI = xss at *
            have hx1 := HLN.out
            go_wp2_with (first
              | (refine wpList_load_mid rfl 27 _ rfl b (o + k * 5) rfl (insC i).toList _ hrg.out Tryz.underlying27 rfl ins_info ?_)
              | (go_at_call 20; refine HWD.out.mono ?_; rintro e w3 ⟨a3, c3, rfl, ho3, hb3⟩; have hsz3 := hb3.size; have HO3 := Lib.hid ho3; have HB3 := Lib.hid hb3; clear ho3 hb3)
              | (at_builtin; refine wpList_append_own _ rfl _ _ 43 rfl w1.heap.size 22 i22 (.slice none 0 0) 1 24 Tryz.underlying43 q0 q1 q2 q3 rfl (by decide) _ _ _ rfl ((own_below E2.out HB3.out).alloc _) ⟨w3.heap.size, 0, none⟩ 1 1 [.slice a3 (wordsI i).length c3] rfl rfl ?c1 ?c2 ?c3 ?c4 ?c5 ?_))
            case c1 => exact one_cell w3 _ _
            case c2 => intro u hu; simp at hu; subst hu; rfl
            case c3 => unfold maxLen; omega
            case c4 => omega
            case c5 => simp; omega
            intro v' w' ho' hg _
            have HNX := Lib.hid (E3.out [wordsI i] _ w3 w' v' _ rfl HB3.out (one_us (ownsRow_le HO3.out (by omega))) (by rw [HLN.out]; exact ho') hg)
            clear ho' hg
            go_wp2
            go_roundw
            case rel => exact ⟨k + 1, by omega, by go_num, by rw [HNX0.out]; exact HNX.out⟩
            case measure => simp [intOf]; omega
          · obtain rfl : k = p.code.length := by omega
            have hg := HR.out.g.at
            rw [lines_all p] at hg
            have HJO := Lib.hid (joinR_any _ (linesP p) wr hg HJ.out)
            clear hg E2 E3
            go_wp2_with (go_at_call 21; refine HJO.out.mono ?_; rintro e w5 ⟨rfl, rfl⟩)
            go_ret2
            refine ⟨rfl, ?_⟩
            have b1 := HWB.out
            have b2 := HB1.out
            rw [World.size_alloc] at b2
            exact (b1.trans (b2.mono (by omega))).trans (HR.out.b.mono (by omega))
end Go.Proofs.YtgmpggjikebcdaaGreatDoor
