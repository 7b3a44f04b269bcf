/-
  The document's Lines.
-/
import Derived.Test.YtgmpggjikebcdaaGreatDoorWLineR
import Derived.Test.YtgmpggjikebcdaaGreatDoorWLines
import Derived.Test.YtgmpggjikebcdaaGreatDoorWMayR
namespace Go.Proofs.YtgmpggjikebcdaaGreatDoor
open Go.RowKit

theorem mayR_t (x : Bs) (w : World) (hx : x.length ≤ 140737488351232) (h : Hid (mayR x = true)) : Calls Tryz.prog 50 #[str x] w fun e w' => e = .returned (.bool true) ∧ w = w' :=
  (mayR_any ⟨x.toArray⟩ w (by rw [bs_size]; unfold maxLen; omega)).mono fun e w' ⟨h1, h2⟩ => ⟨by rw [h1, h.out], h2⟩
theorem mayR_f (x : Bs) (w : World) (hx : x.length ≤ 140737488351232) (h : Hid (mayR x = false)) : Calls Tryz.prog 50 #[str x] w fun e w' => e = .returned (.bool false) ∧ w = w' :=
  (mayR_any ⟨x.toArray⟩ w (by rw [bs_size]; unfold maxLen; omega)).mono fun e w' ⟨h1, h2⟩ => ⟨by rw [h1, h.out], h2⟩
theorem eq10_of {c : UInt8} (h : c = 10) : (((c.toNat : Nat) : Int) == 10) = true := by subst h; rfl
theorem ne10_of {c : UInt8} (h : c ≠ 10) : (((c.toNat : Nat) : Int) == 10) = false := by
  have : c.toNat ≠ 10 := fun e => h (UInt8.toNat_inj.1 (by simpa using e))
  simp; omega

/-- Where the walk is behind k bytes: the lines ls are done, the line that begins at fr is not. -/
def AtK (L : Bs) (k fr : Nat) (ls : List Bs) : Prop := (k ≤ L.length ∧ fr ≤ k ∧ splitL 10 (L.take k) = ls ++ [(L.take k).drop fr]) ∨ (k = L.length + 1 ∧ ls = splitL 10 L)
theorem atK_zero (L : Bs) : AtK L 0 0 [] := .inl ⟨Nat.zero_le _, Nat.le_refl _, by simp [splitL]⟩
section
variable {L : Bs} {k fr : Nat} {ls : List Bs}
theorem take_next (hk : k < L.length) : L.take (k + 1) = L.take k ++ [L[k]] := List.take_succ_eq_append_getElem hk
theorem AtK.begins (h : AtK L k fr ls) (hk : k ≤ L.length) : fr ≤ k ∧ splitL 10 (L.take k) = ls ++ [(L.take k).drop fr] := by
  rcases h with ⟨_, h1, h2⟩ | ⟨h1, _⟩
  · exact ⟨h1, h2⟩
  · omega
theorem AtK.no (h : AtK L k fr ls) (hk : k < L.length) (hc : L[k] ≠ 10) : AtK L (k + 1) fr ls := by
  obtain ⟨h1, h2⟩ := h.begins (by omega)
  refine .inl ⟨by omega, by omega, ?_⟩
  obtain ⟨i, l, p, qs, g1, g2, g4⟩ := splitL_glue 10 (L.take k) [L[k]]
  rw [splitL_none 10 [L[k]] (by simpa using hc)] at g2
  obtain ⟨rfl, rfl⟩ := List.cons.inj g2
  rw [h2] at g1
  obtain ⟨rfl, e⟩ := List.append_inj' g1 rfl
  have e' : (L.take k).drop fr = l := by simpa using e
  rw [take_next hk, g4, ← e', List.drop_append_of_le_length (by rw [List.length_take]; omega)]
theorem AtK.ends (h : AtK L k fr ls) (hk : k ≤ L.length) (he : k = L.length ∨ ∃ hlt : k < L.length, L[k] = 10) : AtK L (k + 1) (k + 1) (ls ++ [(L.take k).drop fr]) := by
  obtain ⟨h1, h2⟩ := h.begins hk
  rcases he with rfl | ⟨hlt, h10⟩
  · right
    refine ⟨rfl, ?_⟩
    rw [← h2, List.take_length]
  · left
    refine ⟨by omega, Nat.le_refl _, ?_⟩
    have e0 : (L.take k ++ [10]).drop (k + 1) = [] := List.drop_eq_nil_of_le (by rw [List.length_append, List.length_take]; simp; omega)
    rw [take_next hlt, h10, e0, splitL_two, h2]; rfl
theorem AtK.line (h : AtK L k fr ls) (hk : k ≤ L.length) (he : k = L.length ∨ ∃ hlt : k < L.length, L[k] = 10) : (splitL 10 L).take ls.length = ls ∧ (splitL 10 L)[ls.length]? = some ((L.take k).drop fr) := by
  obtain ⟨h1, h2⟩ := h.begins hk
  obtain ⟨r, e⟩ : ∃ r, splitL 10 L = ls ++ (L.take k).drop fr :: r := by
    rcases he with rfl | ⟨hlt, h10⟩
    · rw [List.take_length] at h2 ⊢; exact ⟨[], h2⟩
    · have hp : L = L.take k ++ 10 :: L.drop (k + 1) := by
        conv => lhs; rw [← List.take_append_drop k L]
        congr 1
        rw [List.drop_eq_getElem_cons hlt, h10]
      have := splitL_two 10 (L.take k) (L.drop (k + 1))
      rw [← hp, h2] at this
      exact ⟨splitL 10 (L.drop (k + 1)), by rw [this]; simp⟩
  rw [e]
  simp
theorem AtK.last (h : AtK L k fr ls) (hk : L.length < k) : ls = splitL 10 L := by
  rcases h with ⟨h1, _⟩ | ⟨_, h2⟩
  · omega
  · exact h2
theorem AtK.few (h : AtK L k fr ls) : ls.length ≤ L.length + 1 := by
  rcases h with ⟨_, _, h2⟩ | ⟨_, h2⟩
  · have e := congrArg List.length h2
    rw [splitL_length, List.length_append, List.length_singleton] at e
    have c := List.count_le_length (a := 10) (l := L.take k)
    have : (L.take k).length ≤ L.length := by rw [List.length_take]; omega
    omega
  · rw [h2, splitL_length]; have c := List.count_le_length (a := 10) (l := L); omega
end
theorem cut_list (s : ByteArray) (fr k : Nat) : (s.extract fr k).data.toList = (s.data.toList.take k).drop fr := by
  rw [Lib.extract_data, List.drop_take]

/-- The lines so far. -/
def RR (w : World) (ls : List Bs) (v : Value) (wr : World) : Prop := (∀ l ∈ ls, okLine l = true) ∧ Grid wr w.heap.size v (goodL ls) ∧ Below w.heap.size w wr
theorem rr_start (w : World) : RR w [] (.slice none 0 0) w := ⟨by simp, grid_nil _ _, Below.refl _ _⟩
section
variable {w wr : World} {ls : List Bs} {v : Value} {l : Bs}
theorem RR.size (h : RR w ls v wr) : w.heap.size ≤ wr.heap.size := h.2.2.size
theorem RR.below {w2 : World} (h : RR w ls v wr) (hb : Below wr.heap.size wr w2) : RR w ls v w2 := ⟨h.1, h.2.1.below hb, h.2.2.trans (hb.mono h.size)⟩
theorem ok_snoc (h : ∀ l ∈ ls, okLine l = true) (hl : okLine l = true) : ∀ x ∈ ls ++ [l], okLine x = true := by
  intro x hx
  rcases List.mem_append.1 hx with hx | hx
  · exact h x hx
  · simp at hx; subst hx; exact hl
theorem good_none (hn : wordsL l = []) : goodL (ls ++ [l]) = goodL ls := by rw [goodL_append]; simp [goodL, hn]
theorem good_some (hn : wordsL l ≠ []) : goodL (ls ++ [l]) = goodL ls ++ [wordsL l] := by rw [goodL_append]; simp [goodL, hn]
theorem RR.drop {w2 : World} (h : RR w ls v wr) (hok : okLine l = true) (hn : wordsL l = []) (hb : Below wr.heap.size wr w2) : RR w (ls ++ [l]) v w2 :=
  ⟨ok_snoc h.1 hok, by rw [good_none hn]; exact h.2.1.below hb, h.2.2.trans (hb.mono h.size)⟩
theorem RR.keep {u v' : Value} {vs : List Value} {w' : World} {o : Obj} (h : RR w ls v wr) (hok : okLine l = true) (hn : wordsL l ≠ [])
    (h1 : vs.length = (goodL ls).length) (h2 : wr.ownsRow w.heap.size 22 1 v (goodL ls).length vs) (h3 : ∀ (i : Nat) (u : Value) (x : List Bs), vs[i]? = some u → (goodL ls)[i]? = some x → wr.ownsRow w.heap.size 9 1 u x.length (x.map str))
    (hu : wr.ownsRow w.heap.size 9 1 u (wordsL l).length ((wordsL l).map str)) (ho : w'.ownsRow w.heap.size 22 1 v' ((goodL ls).length + 1) (vs ++ [u])) (hg : (wr.alloc o).grownBy w' v.ownBlock) : RR w (ls ++ [l]) v' w' := by
  refine ⟨ok_snoc h.1 hok, by rw [good_some hn]; exact Grid.push h1 h2 h3 hu ho hg, ?_⟩
  exact (h.2.2.alloc h.size o).grown hg (by have := h.size; simp; omega) (fun g hg' => ((h2.alloc o).lt g hg').1)
theorem RR.done (h : RR w ls v wr) : LinesPost w (goodL ls, 0, 0) (.returned (.tuple #[v, .int .i64 0, .int .i64 0])) wr := by
  obtain ⟨vs, a1, a2, a3⟩ := h.2.1
  rcases ownsRow_forms a2 with ⟨rfl, h0⟩ | ⟨g, cap, rfl⟩
  · refine ⟨none, 0, ?_, ⟨vs, a1, ?_, a3⟩, h.2.2⟩
    · show _ = Ending.returned (.tuple #[.slice none (goodL ls).length 0, _, _]); rw [h0]; rfl
    · show wr.ownsRow w.heap.size 22 1 (.slice none (goodL ls).length 0) (goodL ls).length vs
      rw [h0] at a2 ⊢; exact a2
  · exact ⟨_, cap, rfl, ⟨vs, a1, a2, a3⟩, h.2.2⟩
end
theorem words_ne {l : Bs} : ∀ x ∈ wordsL l, x ≠ [] := by
  intro x hx e
  have := (List.mem_filter.1 hx).2
  subst e; simp at this
theorem mayR_word {x : Bs} (h : x ≠ []) : mayR x = mayL x := by
  unfold mayR
  have : 1 ≤ x.length := by cases x with
    | nil => exact absurd rfl h
    | cons _ _ => simp
  rw [decide_eq_true this, Bool.and_true]

set_option maxRecDepth 100000 in
theorem linesR_big (s : ByteArray) (w : World) (hs : 20000 < s.size) (hmax : s.size ≤ maxLen) : Calls Tryz.prog 29 #[.string s] w (LinesPost w (linesL s.data.toList)) := by
  have e : linesL s.data.toList = ([], 0, 3) := by unfold linesL; rw [if_pos (by rw [len_size]; exact hs)]
  rw [e]
  clear e
  unfold maxLen at hmax
  go_enter Tryz.func29, Tryz.ntmps29
  go_wp2
  go_ret3
  exact linesPost_err w w 0 3 0 rfl (Below.refl _ _)

/-- What the walk wants of the text. -/
structure Facts (s : ByteArray) (R : List (List Bs) × Nat × Nat) : Prop where
  bad : ∀ k fr ls, AtK s.data.toList k fr ls → k ≤ s.size → (k = s.size ∨ ∃ hlt : k < s.size, s[k] = 10) → (∀ l ∈ ls, okLine l = true) → okLine ((s.data.toList.take k).drop fr) = false → R = ([], ls.length + 1, 4)
  good : ∀ k fr ls, AtK s.data.toList k fr ls → s.size < k → (∀ l ∈ ls, okLine l = true) → R = (goodL ls, 0, 0)
theorem at_end {s : ByteArray} {k : Nat} (h : k = s.size ∨ ∃ hlt : k < s.size, s[k] = 10) : k = s.data.toList.length ∨ ∃ hlt : k < s.data.toList.length, s.data.toList[k] = 10 := by
  rcases h with h | ⟨hlt, h⟩
  · left; rw [len_size]; exact h
  · right; exact ⟨by rw [len_size]; exact hlt, h⟩
theorem facts (s : ByteArray) (hs : s.size ≤ 20000) : Facts s (linesL s.data.toList) := by
  refine ⟨?_, ?_⟩
  · intro k fr ls h hk he hall hb
    obtain ⟨h1, h2⟩ := h.line (by rw [len_size]; exact hk) (at_end he)
    exact linesL_of_bad (by rw [len_size]; exact hs) (by rw [h1]; exact hall) h2 hb
  · intro k fr ls h hk hall
    have e := h.last (by rw [len_size]; exact hk)
    rw [e] at hall ⊢
    exact linesL_of_good (by rw [len_size]; exact hs) hall

set_option maxRecDepth 100000 in
set_option maxHeartbeats 8000000 in
theorem linesR_walk (s : ByteArray) (w : World) (R : List (List Bs) × Nat × Nat) (HSZ : s.size ≤ 20000) (HF : Hid (Facts s R)) : Calls Tryz.prog 29 #[.string s] w (LinesPost w R) := by
  obtain ⟨i0, hi, hz0, hz1, hz2⟩ := info_parts Tryz.info22
  go_enter Tryz.func29, Tryz.ntmps29
  go_wp2
  go_loopw [5, 6, 7, 8] (fun v5 v6 v7 v8 wr => ∃ (k fr n : Nat) (ls : List Bs), k ≤ s.size + 1 ∧ v8 = .int .i64 k ∧ v6 = .int .i64 fr ∧ v7 = .int .i64 n ∧ n = ls.length + 1 ∧ AtK s.data.toList k fr ls ∧ RR w ls v5 wr) (fun _ _ _ v8 _ => s.size + 1 - (intOf v8).toNat)
  case atStart => exact ⟨0, 0, 1, [], Nat.zero_le _, rfl, rfl, rfl, rfl, atK_zero _, rr_start w⟩
  case round =>
    obtain ⟨k, fr, n, ls, hk, rfl, rfl, rfl, hn, hat, hr⟩ := hrel
    have hfew := hat.few
    rw [len_size] at hfew
    by_cases hle : k ≤ s.size
    · have hfr := (hat.begins (by rw [len_size]; exact hle)).1
      by_cases hno : ∃ hlt : k < s.size, s[k] ≠ 10
      · obtain ⟨hlt, h10⟩ := hno
        have e1 : (((s[k].toNat : Nat) : Int) != 10) = true := by rw [bne, ne10_of h10]; rfl
        have HN := Lib.hid (hat.no (by rw [len_size]; exact hlt) (by exact h10))
        have HM := Lib.hid hn
        clear h10 hn
        go_wp2
        go_roundw
        case rel => exact ⟨k + 1, fr, n, ls, by omega, by go_num, rfl, rfl, HM.out, HN.out, hr⟩
        case measure => simp [intOf]; omega
      · by_cases hlt : k < s.size
        · have h10 : s[k] = 10 := Classical.byContradiction fun h => hno ⟨hlt, h⟩
          clear hno
          have he : k = s.size ∨ ∃ hlt : k < s.size, s[k] = 10 := .inr ⟨hlt, h10⟩
          have e1 : (((s[k].toNat : Nat) : Int) != 10) = false := by rw [bne, eq10_of h10]; rfl
          obtain HE := at_end he
          have HL := lineR_any (s.extract fr k) wr (by rw [← len_size, cut_list, List.length_drop, List.length_take, len_size]; omega)
          rw [cut_list s fr k] at HL
          have hsh : Short (wordsL ((s.data.toList.take k).drop fr)) := words_short (n := 20000) (by rw [List.length_drop, List.length_take, len_size]; omega) (by omega)
          have HNE : Hid (∀ x ∈ wordsL ((s.data.toList.take k).drop fr), x ≠ []) := Lib.hid words_ne
          have HB : Hid ((wordsL ((s.data.toList.take k).drop fr)).all mayL = false → R = ([], n, 4)) := Lib.hid (fun h => by rw [hn]; exact HF.out.bad k fr ls hat hle he hr.1 h)
          have HAT := Lib.hid (hat.ends (by rw [len_size]; exact hle) HE)
          obtain ⟨vs, h1, h2, h3⟩ := hr.2.1
          have HK : Hid (∀ (a : Option Addr) (c : Nat) (w3 w' : World) (v' : Value) (o : Obj), (wordsL ((s.data.toList.take k).drop fr)).all mayL = true → wordsL ((s.data.toList.take k).drop fr) ≠ [] → Below wr.heap.size wr w3 → w3.ownsRow wr.heap.size 9 1 (.slice a (wordsL ((s.data.toList.take k).drop fr)).length c) (wordsL ((s.data.toList.take k).drop fr)).length ((wordsL ((s.data.toList.take k).drop fr)).map str) →
              w'.ownsRow w.heap.size 22 1 v' ((goodL ls).length + 1) (vs ++ [.slice a (wordsL ((s.data.toList.take k).drop fr)).length c]) → (w3.alloc o).grownBy w' u5.ownBlock → RR w (ls ++ [(s.data.toList.take k).drop fr]) v' w') :=
            Lib.hid (fun a c w3 w' v' o hok hne hb3 ho ho' hg => (hr.below hb3).keep hok hne h1 (own_below h2 hb3) (fun i u x hu hx => own_below (h3 i u x hu hx) hb3) (ownsRow_le ho hr.size) ho' hg)
          have HD : Hid (∀ w3 : World, (wordsL ((s.data.toList.take k).drop fr)).all mayL = true → wordsL ((s.data.toList.take k).drop fr) = [] → Below wr.heap.size wr w3 → RR w (ls ++ [(s.data.toList.take k).drop fr]) u5 w3) := Lib.hid (fun w3 hok hn hb3 => hr.drop hok hn hb3)
          have H2 := Lib.hid h2
          have hgl := Nat.le_trans (goodL_len ls) hfew
          have hfit : (goodL ls).length + 1 ≤ maxLen := by unfold maxLen; omega
          have hsz := hr.size
          have HBE : Hid (∀ w3 : World, Below wr.heap.size wr w3 → Below w.heap.size w w3) := Lib.hid (fun w3 hb => hr.2.2.trans (hb.mono hr.size))
          have hnn : n ≤ 20002 := by omega
          have HNN : Hid (n + 1 = (ls ++ [(s.data.toList.take k).drop fr]).length + 1) := Lib.hid (by rw [List.length_append, List.length_singleton, hn])
          clear h1 h2 h3 hn hat hr HE
          generalize hls : ls ++ [(s.data.toList.take k).drop fr] = ls' at *
          generalize wordsL ((s.data.toList.take k).drop fr) = x at *
          generalize goodL ls = gs at *
          clear hls
          rcases hxe : x with _ | ⟨x0, xr⟩
          · subst hxe
            go_wp2_with (go_at_call 49; refine HL.mono ?_; rintro e w3 ⟨a, c, rfl, ho, hb3⟩)
            go_loop [10] (fun i => i = .int .i64 0) (fun _ => 0)
            case atStart => rfl
            case round =>
              subst hrel
              go_wp2
              go_roundw
              case rel => exact ⟨k + 1, k + 1, n + 1, ls', by omega, by go_num, by go_num, by go_num, HNN.out, HAT.out, HD.out w3 (by trivial) (by trivial) hb3⟩
              case measure => simp [intOf]; omega
          · have HX : Hid (x ≠ []) := Lib.hid (by rw [hxe]; simp)
            have hpos : 0 < x.length := by rw [hxe]; simp
            clear hxe
            go_wp2_with (go_at_call 49; refine HL.mono ?_; rintro e w3 ⟨a, c, rfl, ho, hb3⟩)
            have hsz3 := hb3.size
            have hra := RowAt.of_own ho
            obtain ⟨a', c', e1, g1, g2, g3⟩ := hra.cases
            simp only [Value.slice.injEq] at e1
            obtain ⟨rfl, _, rfl⟩ := e1
            rcases g3 with g3 | ⟨b, off, rfl, hb, hc⟩
            · exact absurd g3 HX.out
            have HC := Lib.hid hc
            have HS := Lib.hid hsh
            clear hc hsh hra
            go_loop [10] (fun i => ∃ j : Nat, j ≤ x.length ∧ i = .int .i64 j ∧ Hid ((x.take j).all mayL = true)) (fun i => x.length - (intOf i).toNat)
            case atStart => exact ⟨0, Nat.zero_le _, rfl, Lib.hid (by simp)⟩
            case round =>
              obtain ⟨j, hj, rfl, hok⟩ := hrel
              by_cases hjl : j < x.length
              · have hx : x[j]? = some x[j] := List.getElem?_eq_getElem hjl
                have hsx := HS.out x[j] (List.getElem_mem hjl)
                have hcx := HC.out j _ hx
                have hmr := mayR_word (HNE.out x[j] (List.getElem_mem hjl))
                generalize hX : x[j] = y at hx hsx hcx hmr
                clear hX
                have HXJ := Lib.hid hx
                clear hx
                rcases hm : mayL y with _ | _
                · have HM : Hid (mayR y = false) := Lib.hid (by rw [hmr, hm])
                  have HR := Lib.hid (HB.out (all_not HXJ.out hm))
                  clear hm hmr
                  go_wp2_with (go_at_call 50; refine (mayR_f y _ hsx HM).mono ?_; rintro e w' ⟨rfl, rfl⟩)
                  go_ret3
                  rw [HR.out]
                  exact linesPost_err w _ n 4 _ rfl (HBE.out _ hb3)
                · have HM : Hid (mayR y = true) := Lib.hid (by rw [hmr, hm])
                  have HML := Lib.hid hm
                  clear hm hmr
                  go_wp2_with (go_at_call 50; refine (mayR_t y _ hsx HM).mono ?_; rintro e w' ⟨rfl, rfl⟩)
                  go_round
                  case rel => exact ⟨j + 1, by omega, by go_num, Lib.hid (all_take_next hok.out HXJ.out HML.out)⟩
                  case measure => simp [intOf]; omega
              · have HALL : Hid (x.all mayL = true) := Lib.hid (by
                  have := hok.out
                  rw [List.take_of_length_le (by omega)] at this; exact this)
                go_wp2_with (at_builtin; refine wpList_append_own _ rfl _ _ 43 rfl w.heap.size 22 i0 (.slice none 0 0) 1 24 Tryz.underlying43 hi hz0 hz1 hz2 rfl (by decide) _ _ _ rfl ((own_below H2.out hb3).alloc _) ⟨w3.heap.size, 0, none⟩ 1 1 [.slice (some ⟨b, off, none⟩) x.length c] rfl rfl ?c1 ?c2 ?c3 ?c4 ?c5 ?_)
                try (case c1 => exact one_cell w3 _ _)
                try (case c2 => first | rfl | (intro u hu; simp at hu; subst hu; rfl))
                try (case c3 => exact hfit)
                try (case c4 => omega)
                try (case c5 => first | omega | (simp; omega) | (have := hsz3; have := hsz; omega))
                intro v' w' ho' hg _
                have HN := Lib.hid (HK.out _ c w3 w' v' _ HALL.out HX.out hb3 ho ho' hg)
                clear ho' hg
                go_wp2
                go_roundw
                case rel => exact ⟨k + 1, k + 1, n + 1, ls', by omega, by go_num, by go_num, by go_num, HNN.out, HAT.out, HN.out⟩
                case measure => simp [intOf]; omega
        · have he : k = s.size ∨ ∃ hlt : k < s.size, s[k] = 10 := .inl (by omega)
          clear hno
          obtain HE := at_end he
          have HL := lineR_any (s.extract fr k) wr (by rw [← len_size, cut_list, List.length_drop, List.length_take, len_size]; omega)
          rw [cut_list s fr k] at HL
          have hsh : Short (wordsL ((s.data.toList.take k).drop fr)) := words_short (n := 20000) (by rw [List.length_drop, List.length_take, len_size]; omega) (by omega)
          have HNE : Hid (∀ x ∈ wordsL ((s.data.toList.take k).drop fr), x ≠ []) := Lib.hid words_ne
          have HB : Hid ((wordsL ((s.data.toList.take k).drop fr)).all mayL = false → R = ([], n, 4)) := Lib.hid (fun h => by rw [hn]; exact HF.out.bad k fr ls hat hle he hr.1 h)
          have HAT := Lib.hid (hat.ends (by rw [len_size]; exact hle) HE)
          obtain ⟨vs, h1, h2, h3⟩ := hr.2.1
          have HK : Hid (∀ (a : Option Addr) (c : Nat) (w3 w' : World) (v' : Value) (o : Obj), (wordsL ((s.data.toList.take k).drop fr)).all mayL = true → wordsL ((s.data.toList.take k).drop fr) ≠ [] → Below wr.heap.size wr w3 → w3.ownsRow wr.heap.size 9 1 (.slice a (wordsL ((s.data.toList.take k).drop fr)).length c) (wordsL ((s.data.toList.take k).drop fr)).length ((wordsL ((s.data.toList.take k).drop fr)).map str) →
              w'.ownsRow w.heap.size 22 1 v' ((goodL ls).length + 1) (vs ++ [.slice a (wordsL ((s.data.toList.take k).drop fr)).length c]) → (w3.alloc o).grownBy w' u5.ownBlock → RR w (ls ++ [(s.data.toList.take k).drop fr]) v' w') :=
            Lib.hid (fun a c w3 w' v' o hok hne hb3 ho ho' hg => (hr.below hb3).keep hok hne h1 (own_below h2 hb3) (fun i u x hu hx => own_below (h3 i u x hu hx) hb3) (ownsRow_le ho hr.size) ho' hg)
          have HD : Hid (∀ w3 : World, (wordsL ((s.data.toList.take k).drop fr)).all mayL = true → wordsL ((s.data.toList.take k).drop fr) = [] → Below wr.heap.size wr w3 → RR w (ls ++ [(s.data.toList.take k).drop fr]) u5 w3) := Lib.hid (fun w3 hok hn hb3 => hr.drop hok hn hb3)
          have H2 := Lib.hid h2
          have hgl := Nat.le_trans (goodL_len ls) hfew
          have hfit : (goodL ls).length + 1 ≤ maxLen := by unfold maxLen; omega
          have hsz := hr.size
          have HBE : Hid (∀ w3 : World, Below wr.heap.size wr w3 → Below w.heap.size w w3) := Lib.hid (fun w3 hb => hr.2.2.trans (hb.mono hr.size))
          have hnn : n ≤ 20002 := by omega
          have HNN : Hid (n + 1 = (ls ++ [(s.data.toList.take k).drop fr]).length + 1) := Lib.hid (by rw [List.length_append, List.length_singleton, hn])
          clear h1 h2 h3 hn hat hr HE
          generalize hls : ls ++ [(s.data.toList.take k).drop fr] = ls' at *
          generalize wordsL ((s.data.toList.take k).drop fr) = x at *
          generalize goodL ls = gs at *
          clear hls
          rcases hxe : x with _ | ⟨x0, xr⟩
          · subst hxe
            go_wp2_with (go_at_call 49; refine HL.mono ?_; rintro e w3 ⟨a, c, rfl, ho, hb3⟩)
            go_loop [10] (fun i => i = .int .i64 0) (fun _ => 0)
            case atStart => rfl
            case round =>
              subst hrel
              go_wp2
              go_roundw
              case rel => exact ⟨k + 1, k + 1, n + 1, ls', by omega, by go_num, by go_num, by go_num, HNN.out, HAT.out, HD.out w3 (by trivial) (by trivial) hb3⟩
              case measure => simp [intOf]; omega
          · have HX : Hid (x ≠ []) := Lib.hid (by rw [hxe]; simp)
            have hpos : 0 < x.length := by rw [hxe]; simp
            clear hxe
            go_wp2_with (go_at_call 49; refine HL.mono ?_; rintro e w3 ⟨a, c, rfl, ho, hb3⟩)
            have hsz3 := hb3.size
            have hra := RowAt.of_own ho
            obtain ⟨a', c', e1, g1, g2, g3⟩ := hra.cases
            simp only [Value.slice.injEq] at e1
            obtain ⟨rfl, _, rfl⟩ := e1
            rcases g3 with g3 | ⟨b, off, rfl, hb, hc⟩
            · exact absurd g3 HX.out
            have HC := Lib.hid hc
            have HS := Lib.hid hsh
            clear hc hsh hra
            go_loop [10] (fun i => ∃ j : Nat, j ≤ x.length ∧ i = .int .i64 j ∧ Hid ((x.take j).all mayL = true)) (fun i => x.length - (intOf i).toNat)
            case atStart => exact ⟨0, Nat.zero_le _, rfl, Lib.hid (by simp)⟩
            case round =>
              obtain ⟨j, hj, rfl, hok⟩ := hrel
              by_cases hjl : j < x.length
              · have hx : x[j]? = some x[j] := List.getElem?_eq_getElem hjl
                have hsx := HS.out x[j] (List.getElem_mem hjl)
                have hcx := HC.out j _ hx
                have hmr := mayR_word (HNE.out x[j] (List.getElem_mem hjl))
                generalize hX : x[j] = y at hx hsx hcx hmr
                clear hX
                have HXJ := Lib.hid hx
                clear hx
                rcases hm : mayL y with _ | _
                · have HM : Hid (mayR y = false) := Lib.hid (by rw [hmr, hm])
                  have HR := Lib.hid (HB.out (all_not HXJ.out hm))
                  clear hm hmr
                  go_wp2_with (go_at_call 50; refine (mayR_f y _ hsx HM).mono ?_; rintro e w' ⟨rfl, rfl⟩)
                  go_ret3
                  rw [HR.out]
                  exact linesPost_err w _ n 4 _ rfl (HBE.out _ hb3)
                · have HM : Hid (mayR y = true) := Lib.hid (by rw [hmr, hm])
                  have HML := Lib.hid hm
                  clear hm hmr
                  go_wp2_with (go_at_call 50; refine (mayR_t y _ hsx HM).mono ?_; rintro e w' ⟨rfl, rfl⟩)
                  go_round
                  case rel => exact ⟨j + 1, by omega, by go_num, Lib.hid (all_take_next hok.out HXJ.out HML.out)⟩
                  case measure => simp [intOf]; omega
              · have HALL : Hid (x.all mayL = true) := Lib.hid (by
                  have := hok.out
                  rw [List.take_of_length_le (by omega)] at this; exact this)
                go_wp2_with (at_builtin; refine wpList_append_own _ rfl _ _ 43 rfl w.heap.size 22 i0 (.slice none 0 0) 1 24 Tryz.underlying43 hi hz0 hz1 hz2 rfl (by decide) _ _ _ rfl ((own_below H2.out hb3).alloc _) ⟨w3.heap.size, 0, none⟩ 1 1 [.slice (some ⟨b, off, none⟩) x.length c] rfl rfl ?d1 ?d2 ?d3 ?d4 ?d5 ?_)
                try (case d1 => exact one_cell w3 _ _)
                try (case d2 => first | rfl | (intro u hu; simp at hu; subst hu; rfl))
                try (case d3 => exact hfit)
                try (case d4 => omega)
                try (case d5 => first | omega | (simp; omega) | (have := hsz3; have := hsz; omega))
                intro v' w' ho' hg _
                have HN := Lib.hid (HK.out _ c w3 w' v' _ HALL.out HX.out hb3 ho ho' hg)
                clear ho' hg
                go_wp2
                go_roundw
                case rel => exact ⟨k + 1, k + 1, n + 1, ls', by omega, by go_num, by go_num, by go_num, HNN.out, HAT.out, HN.out⟩
                case measure => simp [intOf]; omega
    · have HG := Lib.hid (HF.out.good k fr ls hat (by omega) hr.1)
      clear hn
      go_wp2
      go_ret3
      rw [HG.out]
      exact hr.done
theorem linesR_any (s : ByteArray) (w : World) (hmax : s.size ≤ maxLen) : Calls Tryz.prog 29 #[.string s] w (LinesPost w (linesL s.data.toList)) := by
  by_cases h : 20000 < s.size
  · exact linesR_big s w h hmax
  · exact linesR_walk s w _ (by omega) (Lib.hid (facts s (by omega)))
end Go.Proofs.YtgmpggjikebcdaaGreatDoor
