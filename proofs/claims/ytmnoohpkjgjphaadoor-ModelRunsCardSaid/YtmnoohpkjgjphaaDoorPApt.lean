/-
  The program's apart: its contract.
-/
import Derived.Test.YtmnoohpkjgjphaaDoorPClo
import Derived.Test.YtmnoohpkjgjphaaDoorPDo0
import Derived.Deep.RegionHeld3
namespace Go.Proofs.YtmnoohpkjgjphaaDoor
set_option linter.unusedSimpArgs false
set_option linter.unusedVariables false
open Go.RowKit

abbrev zeroS : Array Value := #[.int .i64 0, .int .i64 0, .int .i64 0, .int .i64 0, .int .i64 0, .int .i64 0, .int .i64 0, .int .i64 0, .int .i64 0, .int .i64 0, .int .i64 0, .int .i64 0, .int .i64 0, .int .i64 0, .int .i64 0, .int .i64 0, .int .i64 0, .int .i64 0, .int .i64 0, .int .i64 0, .slice none 0 0, .slice none 0 0, .int .i64 0, .int .i64 0]
/-- What the first k rounds leave. -/
structure ApK (B : Nat) (s : PSt) (vo' : Value) (rows : List Value) (k : Nat) (wr : World) : Prop where
  ex : ∃ (rows' : List Value) (gs : List Nat), wr.ownsRow B 32 1 vo' s.objs.length rows' ∧ gs.length = k ∧ gs.Nodup ∧
    (∀ (j : Nat) (r : Value) (xs : List Int) (g : Nat), rows'[j]? = some r → s.objs[j]? = some xs → gs[j]? = some g → wr.ownsRow B 2 1 r xs.length (i64s xs) ∧ r.ownBlock = some g) ∧
    (∀ j : Nat, k ≤ j → rows'[j]? = rows[j]?)
theorem gs_old {B : Nat} {s : PSt} {rows' : List Value} {gs : List Nat} {wr : World} (h : ∀ (j : Nat) (r : Value) (xs : List Int) (g : Nat), rows'[j]? = some r → s.objs[j]? = some xs → gs[j]? = some g → wr.ownsRow B 2 1 r xs.length (i64s xs) ∧ r.ownBlock = some g)
    (hl : rows'.length = s.objs.length) (hg : gs.length ≤ s.objs.length) : ∀ g ∈ gs, B ≤ g ∧ g < wr.heap.size := by
  intro g hm
  obtain ⟨j, hj⟩ := List.getElem?_of_mem hm
  have hlt := (List.getElem?_eq_some_iff.1 hj).1
  obtain ⟨a, b⟩ := h j _ _ g (List.getElem?_eq_getElem (show j < rows'.length by omega)) (List.getElem?_eq_getElem (show j < s.objs.length by omega)) hj
  exact own_lt a g b
theorem ApK.start {B : Nat} {s : PSt} {vo' : Value} {rows : List Value} {wr : World} (h : wr.ownsRow B 32 1 vo' s.objs.length rows) : ApK B s vo' rows 0 wr :=
  ⟨⟨rows, [], h, rfl, List.nodup_nil, fun j r xs g _ _ hg => by simp at hg, fun j _ => rfl⟩⟩
theorem ApK.below {B : Nat} {s : PSt} {vo' : Value} {rows : List Value} {k : Nat} {wr w' : World} (h : ApK B s vo' rows k wr) (hb : Below wr.heap.size wr w') : ApK B s vo' rows k w' := by
  obtain ⟨rows', gs, h1, h2, h3, h4, h5⟩ := h.ex
  exact ⟨⟨rows', gs, own_below h1 hb, h2, h3, fun j r xs g a b c => ⟨own_below (h4 j r xs g a b c).1 hb, (h4 j r xs g a b c).2⟩, h5⟩⟩
/-- A state's block is changed beside. -/
theorem ApK.putS {B b : Nat} {s : PSt} {vo' : Value} {rows : List Value} {k : Nat} {wr : World} {cs cs' : Array Value} (h : ApK B s vo' rows k wr) (hb : blk wr b cs 34) : ApK B s vo' rows k (putB wr b cs' 34) := by
  obtain ⟨rows', gs, h1, h2, h3, h4, h5⟩ := h.ex
  have far : ∀ {e : TypeId} {v : Value} {n : Nat} {xs : List Value}, wr.ownsRow B e 1 v n xs → 34 ≠ e → (putB wr b cs' 34).ownsRow B e 1 v n xs := fun ho hne => own_same ho (fun g hg _ => putB_ne wr (own_ne ho hb hne g hg) _ _)
  exact ⟨⟨rows', gs, far h1 (by decide), h2, h3, fun j r xs g a b c => ⟨far (h4 j r xs g a b c).1 (by decide), (h4 j r xs g a b c).2⟩, h5⟩⟩
/-- A round: the row k is cloned, and put. -/
theorem ApK.next {B : Nat} {s : PSt} {go co : Nat} {rows : List Value} {k : Nat} {wr w2 : World} {r : Value} {xs : List Int} (h : ApK B s (.slice (some ⟨go, 0, none⟩) s.objs.length co) rows k wr) (hx : s.objs[k]? = some xs) (hne : xs ≠ []) (hB : B ≤ wr.heap.size)
    (hb : Below wr.heap.size wr w2) (ho : w2.ownsRow wr.heap.size 2 1 r xs.length (i64s xs)) : ApK B s (.slice (some ⟨go, 0, none⟩) s.objs.length co) rows (k + 1) (w2.setCell ⟨go, k, none⟩ r) := by
  obtain ⟨rows', gs, h1, h2, h3, h4, h5⟩ := h.ex
  have hl : rows'.length = s.objs.length := by have := h1.1; omega
  have hk : k < s.objs.length := (List.getElem?_eq_some_iff.1 hx).1
  have hgs := gs_old h4 hl (by omega)
  obtain ⟨cap, cur, hv, k1, k2, k3, k4, k5, k6⟩ := own_cell (own_below h1 hb) rfl
  have hcap : cap = co := by simpa using hv.symm
  subst hcap
  rcases ho.2 with ⟨_, h0⟩ | ⟨g, cp, cr, rfl, hg, hcg, hrest⟩
  · exact absurd (List.length_eq_zero_iff.1 h0) hne
  rw [setCell_putB k3]
  have far : ∀ {v : Value} {n : Nat} {ys : List Value}, w2.ownsRow B 2 1 v n ys → (putB w2 go (cur.setIfInBounds k (.slice (some ⟨g, 0, none⟩) xs.length cp)) 32).ownsRow B 2 1 v n ys := fun ho' => own_same ho' (fun g' hg' _ => putB_ne w2 (own_ne ho' k3 (by decide) g' hg') _ _)
  refine ⟨⟨rows'.set k (.slice (some ⟨g, 0, none⟩) xs.length cp), gs ++ [g], ?_, by simp [h2], ?_, ?_, ?_⟩⟩
  · exact own_putC k3 k6 k1 k2 k4 k _ k5
  · refine List.nodup_append.2 ⟨h3, by simp, fun a ha b' hb' => ?_⟩
    obtain rfl := List.mem_singleton.1 hb'
    have := (hgs a ha).2
    omega
  · intro j r' ys g' e1 e2 e3
    by_cases hj : j = k
    · subst hj
      rw [List.getElem?_set, if_pos rfl, if_pos (by omega)] at e1
      rw [List.getElem?_append_right (by omega), h2] at e3
      simp at e1 e3
      rw [hx] at e2
      obtain rfl := Option.some.inj e2
      subst e1 e3
      exact ⟨far (ownsRow_le ho hB), rfl⟩
    · rw [List.getElem?_set_ne (fun e => hj e.symm)] at e1
      by_cases hjk : j < k
      · rw [List.getElem?_append_left (by omega)] at e3
        obtain ⟨a, b'⟩ := h4 j r' ys g' e1 e2 e3
        exact ⟨far (own_below a hb), b'⟩
      · rw [List.getElem?_append_right (by omega)] at e3
        have := (List.getElem?_eq_some_iff.1 e3).1
        simp at this; omega
  · intro j hj
    rw [List.getElem?_set_ne (by omega)]
    exact h5 j (by omega)
/-- All rounds. -/
theorem ApK.all {B : Nat} {s : PSt} {vo' vt' : Value} {rows : List Value} {wr w' : World} (h : ApK B s vo' rows s.objs.length wr) (hnil : s.objs = [] → vo' = .slice none 0 0) (hne : ∀ xs ∈ s.objs, xs ≠ []) (hb : Below wr.heap.size wr w') (ho : w'.ownsRow wr.heap.size 2 1 vt' s.out.length (i64s s.out))
    (hn : s.out = [] → vt' = .slice none 0 0) (hl : LenS s) (hB : B ≤ wr.heap.size) : Parts w' B s vo' vt' := by
  obtain ⟨rows', gs, h1, h2, h3, h4, h5⟩ := h.ex
  have hl' : rows'.length = s.objs.length := by have := h1.1; omega
  have hgs := gs_old h4 hl' (by omega)
  refine ⟨hl, ⟨rows', gs, ⟨own_below h1 hb, hnil, h2, h3, hne, fun j r xs g a b c => ?_⟩⟩, ownsRow_le ho hB, hn⟩
  obtain ⟨q1, q2⟩ := h4 j r xs g a b c
  refine ⟨own_below q1 hb, q2, fun e => ?_⟩
  have := (own_lt ho g e).1
  have := (hgs g (List.mem_of_getElem? c)).2
  omega
def AptPost (w : World) (s : PSt) (e : Ending) (w' : World) : Prop := ∃ vo vt, e = .returned (.agg (stC s vo vt)) ∧ Parts w' w.heap.size s vo vt ∧ Below w.heap.size w w'
set_option maxRecDepth 100000 in
set_option maxHeartbeats 4000000 in
theorem apart_n (w : World) (s : PSt) (vo vt : Value) (h : StN w vo vt s) (hlo : s.objs.length ≤ 1000000) (hlt : s.out.length ≤ 1000000) (hlx : ∀ xs ∈ s.objs, xs.length ≤ 1000000) :
    Calls Tryd.prog 21 #[.agg (stC s vo vt)] w (AptPost w s) := by
  have hwb : Below w.heap.size w ((w.alloc (.cells (stC s vo vt) 34)).alloc (.cells zeroS 34)) := ((Below.refl _ _).alloc (Nat.le_refl _) _).alloc (by simp) _
  have HS := Lib.hid hwb
  have HL := Lib.hid h.len
  obtain ⟨rows, hr1, hr2, hr3, hr4⟩ := id h.objs
  have hrow1 : ∀ u ∈ rows, u.oneCell' = true := fun u hu => by
    obtain ⟨j, hj⟩ := List.getElem?_of_mem hu
    have hlt := (List.getElem?_eq_some_iff.1 hj).1
    obtain ⟨⟨a, c, e, _⟩, _⟩ := hr4 j u _ hj (List.getElem?_eq_getElem (show j < s.objs.length by omega))
    rw [e]; rfl
  have i64one : ∀ xs : List Int, ∀ u ∈ i64s xs, u.oneCell' = true := fun xs u hu => by obtain ⟨x, _, rfl⟩ := List.mem_map.1 hu; rfl
  have HCO : Hid (∀ w1, Below w.heap.size w w1 → Calls Tryd.prog 34 #[vo] w1 fun e w' => ∃ v', e = .returned v' ∧ w'.ownsRow w1.heap.size 32 1 v' rows.length rows ∧ (rows = [] → v' = .slice none 0 0) ∧ Below w1.heap.size w1 w') := Lib.hid fun w1 hb1 => cloneO_n vo rows w1 (hr2.below hb1) hrow1 (by omega)
  have HCI : Hid (∀ (j : Nat) (r : Value) (xs : List Int) w1, rows[j]? = some r → s.objs[j]? = some xs → Below w.heap.size w w1 → Calls Tryd.prog 35 #[r] w1 fun e w' => ∃ v', e = .returned v' ∧ w'.ownsRow w1.heap.size 2 1 v' xs.length (i64s xs) ∧ (i64s xs = [] → v' = .slice none 0 0) ∧ Below w1.heap.size w1 w') := Lib.hid fun j r xs w1 e1 e2 hb1 => by
    have hx := hlx xs (List.mem_of_getElem? e2)
    have := cloneI_n r (i64s xs) w1 ((hr4 j r xs e1 e2).below hb1) (i64one xs) (by simpa using hx)
    rw [i64s_len] at this
    exact this
  have HCT : Hid (∀ w1, Below w.heap.size w w1 → Calls Tryd.prog 35 #[vt] w1 fun e w' => ∃ v', e = .returned v' ∧ w'.ownsRow w1.heap.size 2 1 v' s.out.length (i64s s.out) ∧ (i64s s.out = [] → v' = .slice none 0 0) ∧ Below w1.heap.size w1 w') := Lib.hid fun w1 hb1 => by
    have := cloneI_n vt (i64s s.out) w1 (h.out.below hb1) (i64one s.out) (by simpa using hlt)
    rw [i64s_len] at this
    exact this
  have HNE := Lib.hid hr3
  have HRL := Lib.hid hr1
  have KB : Hid (blk ((w.alloc (.cells (stC s vo vt) 34)).alloc (.cells zeroS 34)) w.heap.size (stC s vo vt) 34) := Lib.hid (blk_alloc (blk_new _ _ _) _)
  have KZ : Hid (blk ((w.alloc (.cells (stC s vo vt) 34)).alloc (.cells zeroS 34)) (w.heap.size + 1) zeroS 34) := Lib.hid (by have := blk_new (w.alloc (.cells (stC s vo vt) 34)) zeroS 34; rw [World.size_alloc] at this; exact this)
  obtain ⟨W0, hW0⟩ : ∃ W0, W0 = ((w.alloc (.cells (stC s vo vt) 34)).alloc (.cells zeroS 34)) := ⟨_, rfl⟩
  rw [← hW0] at KB KZ HS
  have hrest := stC_rest (vo := vo) (vt := vt) h.len
  have c20 := blk_cell KB.out _ _ hrest.1
  have hb0 : w.heap.size < W0.heap.size := blk_lt KB.out
  clear hr2 hr3 hr4 hwb hrest h hrow1 i64one hlx hr1
  go_enter Tryd.func21, Tryd.ntmps21
  go_upto_region 1 with (fail)
  rw [← hW0]
  clear hW0
  go_upto_region 2 with (go_at_call 34; refine (HCO.out _ HS.out).mono ?_; rintro e w1 ⟨vo', rfl, hown, hnil, hb⟩; rw [HRL.out] at hown; obtain ⟨va, vc, hvo', hvl, hvc⟩ := own_form hown; subst hvo'; have HB1 := Lib.hid (HS.out.trans (hb.mono HS.out.size)); have KB1 := Lib.hid (blk_below KB.out hb); have KZ1 := Lib.hid (blk_below KZ.out hb); have HOW := Lib.hid hown; have HNIL := Lib.hid hnil; have hsz := hb.size; clear hb c20 hown hnil; obtain ⟨c20, -, -, -⟩ := stC_rest (vo := vo) (vt := vt) HL.out; have c20 := blk_cell KB1.out _ _ c20; have f20 := blk_frozen KB1.out 20)
  clear c20 f20 HCO KB KZ HS
  have HOW : Hid (w1.ownsRow w.heap.size 32 1 (.slice va s.objs.length vc) s.objs.length rows) := Lib.hid (ownsRow_le HOW.out (by omega))
  have HNIL : Hid (s.objs = [] → (.slice va s.objs.length vc : Value) = .slice none 0 0) := Lib.hid fun e => HNIL.out (List.length_eq_zero_iff.1 (by rw [HRL.out, e]; rfl))
  have HA : Hid (ApK w.heap.size s (.slice va s.objs.length vc) rows 0 (w1.setCell ⟨w.heap.size, 20, none⟩ (.slice va s.objs.length vc))) := Lib.hid (by rw [setCell_putB KB1.out]; exact (ApK.start HOW.out).putS KB1.out)
  have KB2 : Hid (blk (w1.setCell ⟨w.heap.size, 20, none⟩ (.slice va s.objs.length vc)) w.heap.size (stC s (.slice va s.objs.length vc) vt) 34) := Lib.hid (by rw [setCell_putB KB1.out, stC_setO HL.out s.objs (.slice va s.objs.length vc)]; exact putB_at KB1.out _ _)
  have KZ2 : Hid (blk (w1.setCell ⟨w.heap.size, 20, none⟩ (.slice va s.objs.length vc)) (w.heap.size + 1) zeroS 34) := Lib.hid (by rw [setCell_putB KB1.out]; unfold blk; rw [putB_ne _ (by omega)]; exact KZ1.out)
  have HB2 := Lib.hid (HB1.out.setCell (p := ⟨w.heap.size, 20, none⟩) (Nat.le_refl _) (.slice va s.objs.length vc))
  clear HOW KB1 KZ1 HB1 hsz
  obtain ⟨w2, hw2⟩ : ∃ w2, w2 = (w1.setCell ⟨w.heap.size, 20, none⟩ (.slice va s.objs.length vc)) := ⟨_, rfl⟩
  rw [← hw2] at HA KB2 KZ2 HB2 ⊢
  clear hw2
  obtain ⟨c20, -, -, -⟩ := stC_rest (vo := .slice va s.objs.length vc) (vt := vt) HL.out
  have c20 := blk_cell KB2.out _ _ c20
  go_wp2_with (fail)
  go_loopw [12] (fun i wr => ∃ k : Nat, k ≤ s.objs.length ∧ i = .int .i64 k ∧ Hid (ApK w.heap.size s (.slice va s.objs.length vc) rows k wr) ∧ Hid (blk wr w.heap.size (stC s (.slice va s.objs.length vc) vt) 34) ∧ Hid (blk wr (w.heap.size + 1) zeroS 34) ∧ Hid (Below w.heap.size w wr)) (fun i _ => s.objs.length - (intOf i).toNat)
  case atStart => exact ⟨0, Nat.zero_le _, rfl, HA, KB2, KZ2, HB2⟩
  case round =>
    obtain ⟨k, hk, rfl, ha, kb, kz, hbw⟩ := hrel
    clear HA KB2 KZ2 HB2 c20
    by_cases hlt2 : k < s.objs.length
    · obtain ⟨xs, hx⟩ : ∃ xs, s.objs[k]? = some xs := ⟨_, List.getElem?_eq_getElem hlt2⟩
      obtain ⟨r, hrk⟩ : ∃ r, rows[k]? = some r := ⟨_, List.getElem?_eq_getElem (by have := HRL.out; omega)⟩
      have HX := Lib.hid hx
      have HC1 := Lib.hid (fun w3 hb3 => HCI.out k r xs w3 hrk hx hb3)
      obtain ⟨go, hva, cgo, fgo⟩ : ∃ go, va = some ⟨go, 0, none⟩ ∧ wr.cell? ⟨go, k, none⟩ = some r ∧ ∃ cur, blk wr go cur 32 := by
        obtain ⟨rows', gs, h1, _, _, _, h5⟩ := ha.out.ex
        rcases h1.2 with ⟨hv, h0⟩ | ⟨g, cap, cur, hv, q1, q2, q3, q4, q5, q6⟩
        · omega
        · simp only [Value.slice.injEq] at hv
          refine ⟨g, hv.1, ?_, cur, q2⟩
          have := h5 k (Nat.le_refl _)
          rw [hrk, ← q6, List.getElem?_take] at this
          split at this
          · refine blk_cell q2 _ _ ?_
            rw [← Array.getElem?_toList]; exact this
          · cases this
      obtain ⟨cur, kgo⟩ := fgo
      have KGO := Lib.hid kgo
      subst hva
      obtain ⟨c20, -, -, -⟩ := stC_rest (vo := .slice (some ⟨go, 0, none⟩) s.objs.length vc) (vt := vt) HL.out
      have c20 := blk_cell kb.out _ _ c20
      clear hx hrk kgo
      go_wp2_with (fail)
      go_region_held3 (fun w' => w'.cell? ⟨w.heap.size, 20, none⟩ = some (.slice (some ⟨go, 0, none⟩) s.objs.length vc)) (first
        | exact far_cell KG3.out KB3.out (by decide) c20'
        | exact c20'
        | go_keep) (first
        | (go_at_call 35; refine (HC1.out _ hbw.out.drew).mono ?_; rintro e w3 ⟨r', rfl, ho3, -, hb3⟩
           obtain ⟨ra, rc, hr', -, -⟩ := own_form ho3
           subst hr'
           have HO3 := Lib.hid ho3
           have HB3 := Lib.hid ((Below.refl wr.heap.size wr).drew.trans hb3)
           have KG3 := Lib.hid (blk_below KGO.out HB3.out)
           have KB3 := Lib.hid (blk_below kb.out HB3.out)
           have cg3 : w3.cell? ⟨go, k, none⟩ = some r := by rw [HB3.out.cell (p := ⟨go, k, none⟩) (blk_lt KGO.out)]; exact cgo
           have fg3 := blk_frozen KG3.out k
           obtain ⟨c20', -, -, -⟩ := stC_rest (vo := .slice (some ⟨go, 0, none⟩) s.objs.length vc) (vt := vt) HL.out
           have c20' := blk_cell KB3.out _ _ c20'
           clear ho3 hb3))
      all_goals
        have HN3 := Lib.hid (ApK.next ha.out HX.out (HNE.out xs (List.mem_of_getElem? HX.out)) hbw.out.size HB3.out HO3.out)
        have KB4 := Lib.hid (blk_setM (j := k) (v := .slice ra xs.length rc) KG3.out KB3.out (by decide))
        have KZ4 := Lib.hid (blk_setM (j := k) (v := .slice ra xs.length rc) KG3.out (blk_below kz.out HB3.out) (by decide))
        have hgo : w.heap.size ≤ go := by
          obtain ⟨rows', gs, h1, _⟩ := ha.out.ex
          exact (own_lt h1 go rfl).1
        have HB4 := Lib.hid ((hbw.out.trans (HB3.out.mono hbw.out.size)).setCell (p := ⟨go, k, none⟩) hgo (.slice ra xs.length rc))
        clear ha kb kz hbw KG3 KB3 HB3 HO3 cg3 fg3 c20' c20 cgo
        go_wp2
        go_roundw
        case rel => exact ⟨k + 1, by omega, by go_num, HN3, KB4, KZ4, HB4⟩
        case measure => simp [intOf]; omega
    · obtain rfl : k = s.objs.length := by omega
      obtain ⟨-, c21, -, -⟩ := stC_rest (vo := .slice va s.objs.length vc) (vt := vt) HL.out
      have c21 := blk_cell kb.out _ _ c21
      go_wp2_with (first
        | (go_at_call 35; refine (HCT.out _ hbw.out).mono ?_; rintro e w3 ⟨vt2, rfl, ho3, hn3, hb3⟩; obtain ⟨ta, tc, ht2, -, -⟩ := own_form ho3; subst ht2; have HP3 := Lib.hid (ApK.all ha.out HNIL.out HNE.out hb3 ho3 (fun e => hn3 (by rw [e]; rfl)) HL.out hbw.out.size); have KB3 := Lib.hid (blk_below kb.out hb3); have KZ3 := Lib.hid (blk_below kz.out hb3); have HB3 := Lib.hid (hbw.out.trans (hb3.mono hbw.out.size)); clear ho3 hn3 hb3 c21; obtain ⟨-, c21, -, -⟩ := stC_rest (vo := .slice va s.objs.length vc) (vt := vt) HL.out; have c21 := blk_cell KB3.out _ _ c21; have f21 := blk_frozen KB3.out 21)
        | (have KB4 : Hid (blk (w3.setCell ⟨w.heap.size, 21, none⟩ (.slice ta s.out.length tc)) w.heap.size (stC s (.slice va s.objs.length vc) (.slice ta s.out.length tc)) 34) := Lib.hid (by rw [setCell_putB KB3.out, stC_setT HL.out s.out (.slice ta s.out.length tc)]; exact putB_at KB3.out _ _)
           have KZ4 : Hid (blk (w3.setCell ⟨w.heap.size, 21, none⟩ (.slice ta s.out.length tc)) (w.heap.size + 1) zeroS 34) := Lib.hid (by rw [setCell_putB KB3.out]; unfold blk; rw [putB_ne _ (by omega)]; exact KZ3.out)
           have HP4 : Hid (Parts (w3.setCell ⟨w.heap.size, 21, none⟩ (.slice ta s.out.length tc)) w.heap.size s (.slice va s.objs.length vc) (.slice ta s.out.length tc)) := Lib.hid (by rw [setCell_putB KB3.out]; exact HP3.out.putS KB3.out _ _ HL.out rfl rfl)
           have HB4 := Lib.hid (HB3.out.setCell (p := ⟨w.heap.size, 21, none⟩) (Nat.le_refl _) (.slice ta s.out.length tc))
           clear KB3 KZ3 HP3 HB3 c21 f21
           refine wpList_loadB rfl 34 _ rfl w.heap.size (stC s (.slice va s.objs.length vc) (.slice ta s.out.length tc)) rfl 34 KB4.out _ Tryd.underlying34 rfl (by rw [stC_size HL.out]; exact state_info) ?_)
        | (refine wpList_putB rfl 34 _ _ rfl (w.heap.size + 1) (stC s (.slice va s.objs.length vc) (.slice ta s.out.length tc)) rfl rfl 34 _ KZ4.out (by rw [stC_size HL.out]; exact state_info) (by rw [stC_size HL.out]; rfl) (stC_one s rfl (own_oneCell HP4.out.out)) ?_))
      refine bodyPost_ret (v := .agg (stC s (.slice va s.objs.length vc) (.slice ta s.out.length tc))) ?_ rfl ⟨_, _, rfl, HP4.out.putS KZ4.out _ _ HL.out rfl rfl, HB4.out.trans (putB_below _ (by have := HB4.out.size; omega) _ _)⟩
      rw [res_cell0 (p := 2) rfl _ _ (w.heap.size + 1) (stC s (.slice va s.objs.length vc) (.slice ta s.out.length tc)) 34 _ rfl (putB_at KZ4.out _ _) Tryd.underlying34 rfl (by rw [stC_size HL.out]; exact state_info)]
end Go.Proofs.YtmnoohpkjgjphaaDoor
