/-
  KindMore: the walk.
-/
import Derived.Test.YtpeoecaamdiphaaKLaw1
import Derived.Laws.AppendOwnNone
import Derived.Handy
namespace Go.Proofs.Ytpeoecaamdiphaa
open Go.RowKit

/-- The type more. -/
def oneMore (ts : List ByteArray) : List ByteArray := ts ++ [⟨#[105, 105, 48]⟩]
theorem more_len (ts : List ByteArray) : (oneMore ts).length = ts.length + 1 := by simp [oneMore]
theorem more_old {ts : List ByteArray} {n : Nat} (h : n < ts.length) : ty (oneMore ts) n = ty ts n := by
  unfold ty oneMore
  rw [List.getD_eq_getElem?_getD, List.getD_eq_getElem?_getD, List.getElem?_append_left h]
theorem more_new (ts : List ByteArray) : ty (oneMore ts) ts.length = ⟨#[105, 105, 48]⟩ := by
  unfold ty oneMore
  rw [List.getD_eq_getElem?_getD, List.getElem?_append_right (Nat.le_refl _)]
  simp
theorem dig_more {n c : Nat} (h : digB n c = true) : digB (n + 1) c = true := dig_iff.2 ⟨(dig_iff.1 h).1, by have := (dig_iff.1 h).2; omega⟩
theorem ok_more {n : Nat} {s : ByteArray} (h : okB n s = true) : okB (n + 1) s = true := by
  have := ok_iff.1 h
  exact ok_iff.2 ⟨this.1, this.2.1, fun k hk => let_iff.2 ((let_iff.1 (this.2.2 k hk)).imp id dig_more)⟩
theorem ok_new {n : Nat} (h : 1 ≤ n) : okB n ⟨#[105, 105, 48]⟩ = true := by
  refine ok_iff.2 ⟨by decide, by decide, fun k hk => let_iff.2 ?_⟩
  have hk3 : k < 3 := hk
  rcases k with _ | _ | _ | k
  · exact .inl rfl
  · exact .inl rfl
  · exact .inr (dig_iff.2 ⟨by decide, by show 48 < 48 + n; omega⟩)
  · omega
theorem right_more {ts : List ByteArray} (h : rightB ts = true) (h8 : ts.length < 8) : rightB (oneMore ts) = true := by
  have h0 := right_iff.1 h
  refine right_iff.2 ⟨by rw [more_len]; omega, by rw [more_len]; omega, fun t ht => ?_⟩
  rw [more_len] at ht ⊢
  by_cases hn : t < ts.length
  · rw [more_old hn]; exact ok_more (h0.2.2 t hn)
  · obtain rfl : t = ts.length := by omega
    rw [more_new]; exact ok_new (by omega)
theorem one_more {ts : List ByteArray} (h : rightB (oneMore ts) = true) {n : Nat} (hn : n ≤ ts.length) : oneB (oneMore ts) n = true :=
  one_iff.2 ⟨by omega, by rw [more_len]; omega, h⟩
theorem size_more {ts : List ByteArray} (h : rightB (oneMore ts) = true) : sizeI (oneMore ts) ts.length = ((3 : Nat) : Int) := by
  rw [size_of (one_more h (Nat.le_refl _)), more_new]; rfl
theorem mask_more {ts : List ByteArray} (h : rightB (oneMore ts) = true) : maskN (oneMore ts) ts.length = 4 := by
  rw [mask_one (one_more h (Nat.le_refl _)), more_new]; decide
theorem size_old {ts : List ByteArray} (h : rightB (oneMore ts) = true) {n : Nat} (hn : n < ts.length) (h0 : oneB ts n = true) : sizeI (oneMore ts) n = sizeI ts n := by
  rw [size_of (one_more h (by omega)), size_of h0, more_old hn]
theorem mask_old {ts : List ByteArray} (h : rightB (oneMore ts) = true) {n : Nat} (hn : n < ts.length) (h0 : oneB ts n = true) : maskN (oneMore ts) n = maskN ts n := by
  rw [mask_one (one_more h (by omega)), mask_one h0, more_old hn]
theorem edge_more {ts : List ByteArray} {a b : Nat} (ha : a < ts.length) : Edge (oneMore ts) a b ↔ Edge ts a b := by
  unfold Edge
  rw [more_old ha, more_len]
  exact ⟨fun h => ⟨ha, h.2⟩, fun h => ⟨by omega, h.2⟩⟩
theorem rch_more {ts : List ByteArray} (h : rightB ts = true) {t n : Nat} (ht : t < ts.length) : Rch (oneMore ts) t n ↔ Rch ts t n := by
  constructor
  · intro hr
    induction hr with
    | here => exact .here
    | more _ hE ih => exact ih.more ((edge_more (ih.lt h ht)).1 hE)
  · intro hr
    induction hr with
    | here => exact .here
    | more h1 hE ih => exact ih.more ((edge_more (h1.lt h ht)).2 hE)
open Classical in
theorem reach_old {ts : List ByteArray} (h : rightB ts = true) (h' : rightB (oneMore ts) = true) {t : Nat} (ht : t < ts.length) (h0 : oneB ts t = true) : reachD (oneMore ts) t = reachD ts t := by
  rw [reach_one (one_more h' (by omega)), reach_one h0]
  unfold reachL
  congr 1
  rw [more_len, List.range_succ, List.filter_append]
  have e : ([ts.length].filter fun n => decide (n ≠ t ∧ Rch (oneMore ts) t n)) = [] := by
    rw [List.filter_cons, decide_eq_false]
    · rfl
    · intro hh
      have := ((rch_more h ht).1 hh.2).lt h ht
      omega
  rw [e, List.append_nil]
  apply List.filter_congr
  intro n _
  rw [decide_eq_decide, rch_more h ht]

theorem Try.infoS : (Try.prog.info? 9).map (fun i => (i.zero, i.size, i.bytes)) = some (some (.string ByteArray.empty), 1, 16) := by kernel_rfl
theorem one_str (wr : World) (x : ByteArray) (e : TypeId) : ∀ j u, [Value.string x][j]? = some u → (wr.alloc (.cells #[.string x] e)).cell? ((⟨wr.heap.size, 0, none⟩ : Addr).add j) = some u := one_cell wr _ e
theorem strs_one (xs : List ByteArray) : ∀ u ∈ xs.map Value.string, u.oneCell' = true := by
  intro u h
  obtain ⟨x, _, rfl⟩ := List.mem_map.1 h
  rfl
theorem ts_cells {w : World} {b o c : Nat} {ts : List ByteArray} (h : TsAt w (.slice (some ⟨b, o, none⟩) ts.length c) ts) : ∀ j u, (ts.map Value.string)[j]? = some u → w.cell? ((⟨b, o, none⟩ : Addr).add j) = some u := by
  intro j u hu
  obtain ⟨⟨a', c', e1, _, _, e2⟩, _⟩ := h
  rcases e2 with e2 | ⟨b', o', rfl, _, hc⟩
  · rw [e2] at hu; simp at hu
  · simp only [Value.slice.injEq, Option.some.injEq, Addr.mk.injEq] at e1
    obtain ⟨⟨rfl, rfl, _⟩, _⟩ := e1
    have e0 : (⟨b, o, none⟩ : Addr).add j = ⟨b, o + j, none⟩ := by
      unfold Addr.add
      by_cases h : j = 0 <;> simp [h]
    rw [e0]; exact hc j u hu
/-- The two appends: a copy of the types with one more. -/
theorem two_appends {w1 w2 w3 : World} {v1 v2 : Value} {ts : List ByteArray} {ob : Obj} (hs : ∀ s ∈ ts, s.size ≤ 9223372036854775807) (h1 : w2.ownsRow w1.heap.size 9 1 v1 ts.length (ts.map Value.string)) (g1 : w1.grownBy w2 (Value.slice none 0 0).ownBlock)
    (h2 : w3.ownsRow w1.heap.size 9 1 v2 (ts.length + 1) (ts.map Value.string ++ [.string ⟨#[105, 105, 48]⟩])) (g2 : (w2.alloc ob).grownBy w3 v1.ownBlock) : TsAt w3 v2 (oneMore ts) ∧ Below w1.heap.size w1 w3 := by
  have e : ts.map Value.string ++ [.string ⟨#[105, 105, 48]⟩] = (oneMore ts).map Value.string := by simp [oneMore]
  rw [e] at h2
  refine ⟨⟨RowAt.of_own h2, fun s hh => ?_⟩, ?_⟩
  · rcases List.mem_append.1 hh with h | h
    · exact hs s h
    · simp at h; subst h; decide
  · have b1 : Below w1.heap.size w1 w2 := (Below.refl _ _).grown g1 (Nat.le_refl _) (fun g hg => by simp [Value.ownBlock] at hg)
    have s1 := b1.size
    exact (b1.alloc s1 ob).grown g2 (by simp; omega) (fun g hg' => ((h1.alloc ob).lt g hg').1)

set_option maxHeartbeats 4000000 in
theorem more_walk (v : Value) (ts : List ByteArray) (t : Int) (w : World) (h : TsAt w v ts) : Calls Try.prog 7 #[v, .int .i64 t] w (TrueB w) := by
  have H := Lib.hid h
  rcases hf : fewB ts with _ | _
  · have HF := Lib.hid hf
    clear hf h
    go_enter Try.func7, Try.ntmps7
    go_wp2_with (first
      | (go_at_call 10; refine (alive_any _).mono ?_; rintro e w1 ⟨rfl, hb1⟩)
      | (go_at_call 11; refine (few_f _ ts _ (H.out.below hb1) HF).mono ?_; rintro e w' ⟨rfl, rfl⟩))
    go_ret
    exact ⟨rfl, hb1⟩
  have HF := Lib.hid hf
  clear hf
  rcases hr : rightB ts with _ | _
  · have HR := Lib.hid hr
    clear hr h
    go_enter Try.func7, Try.ntmps7
    go_wp2_with (first
      | (go_at_call 10; refine (alive_any _).mono ?_; rintro e w1 ⟨rfl, hb1⟩)
      | (go_at_call 11; refine (few_t _ ts _ (H.out.below hb1) HF).mono ?_; rintro e w' ⟨rfl, rfl⟩)
      | (go_at_call 13; refine (rright_n _ ts _ _ (H.out.below hb1) HR).mono ?_; rintro e w' ⟨rfl, rfl⟩))
    go_ret
    exact ⟨rfl, hb1⟩
  have HR := Lib.hid hr
  obtain ⟨b, o, c, rfl, h1, h2, hb, hc, hs⟩ := h.one (n := 0) (by have := (right_len hr).1; omega)
  clear hr h hc hs
  by_cases h8 : 8 ≤ ts.length
  · go_enter Try.func7, Try.ntmps7
    go_wp2_with (first
      | (go_at_call 10; refine (alive_any _).mono ?_; rintro e w1 ⟨rfl, hb1⟩)
      | (go_at_call 11; refine (few_t _ ts _ (H.out.below hb1) HF).mono ?_; rintro e w' ⟨rfl, rfl⟩)
      | (go_at_call 13; refine (rright_n _ ts _ _ (H.out.below hb1) HR).mono ?_; rintro e w' ⟨rfl, rfl⟩))
    go_ret
    exact ⟨rfl, hb1⟩
  go_enter Try.func7, Try.ntmps7
  go_upto_region 5 with (first
    | (go_at_call 10; refine (alive_any _).mono ?_; rintro e w1 ⟨rfl, hb1⟩; have HT1 := Lib.hid (H.out.below hb1))
    | (go_at_call 11; refine (few_t _ ts _ HT1.out HF).mono ?_; rintro e w' ⟨rfl, rfl⟩)
    | (go_at_call 13; refine (rright_n _ ts _ _ HT1.out HR).mono ?_; rintro e w' ⟨rfl, rfl⟩))
  have hTc := ts_cells HT1.out
  have hTs := HT1.out.2
  have HTS := Lib.hid hTs
  obtain ⟨i0, hi, hz0, hz1, hz2⟩ := info_parts Try.infoS
  clear hTs
  have HTC := Lib.hid hTc
  clear hTc
  go_wp2_with (at_builtin; refine wpList_append_own _ rfl _ _ 22 rfl w1.heap.size 9 i0 (.string ByteArray.empty) 1 16 Try.underlying22 hi hz0 hz1 hz2 rfl (by decide) _ _ _ rfl (World.ownsRow_nil _ _ _ _) ⟨b, o, none⟩ ts.length c (ts.map Value.string) rfl (by simp) ?c1 ?c2 ?c3 ?c4 ?c5 ?_)
  case c1 => exact HTC.out
  case c2 => exact strs_one ts
  case c3 => unfold maxLen; omega
  case c4 => omega
  case c5 => omega
  intro v1 w2 ho1 hg1 _
  have b1 : Below w1.heap.size w1 w2 := (Below.refl _ _).grown hg1 (Nat.le_refl _) (fun g hg => by simp [Value.ownBlock] at hg)
  go_wp2_with (at_builtin; refine wpList_append_own _ rfl _ _ 22 rfl w1.heap.size 9 i0 (.string ByteArray.empty) 1 16 Try.underlying22 hi hz0 hz1 hz2 rfl (by decide) _ _ _ rfl (ho1.alloc _) ⟨w2.heap.size, 0, none⟩ 1 1 [.string ⟨#[105, 105, 48]⟩] rfl rfl ?d1 ?d2 ?d3 ?d4 ?d5 ?_)
  case d1 => exact one_str w2 _ _
  case d2 => intro u hu; simp at hu; subst hu; rfl
  case d3 => unfold maxLen; omega
  case d4 => omega
  case d5 => have := b1.size; simp; omega
  intro v2 w3 ho2 hg2 _
  have hA := two_appends HTS.out ho1 hg1 ho2 hg2
  have HM := Lib.hid hA.1
  have HB := Lib.hid (hb1.trans (hA.2.mono hb1.size))
  have HT3 := Lib.hid (HT1.out.below hA.2)
  have hRM := right_more HR.out (by omega)
  have HRM := Lib.hid hRM
  have HSM := Lib.hid (size_more hRM)
  have HMM := Lib.hid (mask_more hRM)
  clear ho1 hg1 ho2 hg2 hA b1
  by_cases ht0 : t < 0
  · go_wp2_with (first
      | (go_at_call 12; refine (kright_n _ (oneMore ts) _ _ HM.out HRM).mono ?_; rintro e w' ⟨rfl, rfl⟩)
      | (go_at_call 16; refine (ksize_n _ (oneMore ts) _ 3 _ HM.out HSM).mono ?_; rintro e w' ⟨rfl, rfl⟩)
      | (go_at_call 18; refine (kmask_n _ (oneMore ts) _ 4 _ HM.out HMM).mono ?_; rintro e w' ⟨rfl, rfl⟩))
    go_ret
    exact ⟨rfl, HB.out⟩
  by_cases htl : (ts.length : Int) ≤ t
  · go_wp2_with (first
      | (go_at_call 12; refine (kright_n _ (oneMore ts) _ _ HM.out HRM).mono ?_; rintro e w' ⟨rfl, rfl⟩)
      | (go_at_call 16; refine (ksize_n _ (oneMore ts) _ 3 _ HM.out HSM).mono ?_; rintro e w' ⟨rfl, rfl⟩)
      | (go_at_call 18; refine (kmask_n _ (oneMore ts) _ 4 _ HM.out HMM).mono ?_; rintro e w' ⟨rfl, rfl⟩))
    go_ret
    exact ⟨rfl, HB.out⟩
  obtain ⟨n, rfl⟩ : ∃ n : Nat, t = n := ⟨t.toNat, by omega⟩
  have hnl : n < ts.length := by omega
  have hO : oneB ts n = true := one_t (by omega) (by omega) HR.out
  have hs1 := size_old hRM hnl hO
  have hm1 := mask_old hRM hnl hO
  have hr1 := reach_old HR.out hRM hnl hO
  rw [size_of hO] at hs1
  have HS2 : Hid (sizeI ts n = ((ty ts n).size : Int)) := Lib.hid (size_of hO)
  generalize (ty ts n).size = Z at hs1 HS2
  have HS1 := Lib.hid hs1
  generalize hMv : maskN ts n = M at hm1
  have HM1 := Lib.hid hm1
  have HM2 := Lib.hid hMv
  generalize hLv : reachD ts n = L at hr1
  have HR1 := Lib.hid hr1
  have HR2 := Lib.hid hLv
  generalize hq : L.length = q
  have HQ := Lib.hid hq
  clear hs1 hm1 hMv hr1 hLv hq hO hRM
  go_wp2_with (first
    | (go_at_call 12; refine (kright_n _ (oneMore ts) _ _ HM.out HRM).mono ?_; rintro e w' ⟨rfl, rfl⟩)
    | (go_at_call 16; with_reducible refine (ksize_n _ (oneMore ts) _ 3 _ HM.out HSM).mono ?_; rintro e w' ⟨rfl, rfl⟩)
    | (go_at_call 18; with_reducible refine (kmask_n _ (oneMore ts) _ 4 _ HM.out HMM).mono ?_; rintro e w' ⟨rfl, rfl⟩)
    | (go_at_call 16; with_reducible refine (ksize_n _ (oneMore ts) _ Z _ HM.out HS1).mono ?_; rintro e w' ⟨rfl, rfl⟩)
    | (go_at_call 16; with_reducible refine (ksize_n _ ts _ Z _ HT3.out HS2).mono ?_; rintro e w' ⟨rfl, rfl⟩)
    | (go_at_call 18; with_reducible refine (kmask_n _ (oneMore ts) _ M _ HM.out HM1).mono ?_; rintro e w' ⟨rfl, rfl⟩)
    | (go_at_call 18; with_reducible refine (kmask_n _ ts _ M _ HT3.out HM2).mono ?_; rintro e w' ⟨rfl, rfl⟩)
    | (go_at_call 23; with_reducible refine (reach_at _ (oneMore ts) n L q _ HM.out HR1 HQ.out).mono ?_; rintro e w4 ⟨a4, c4, rfl, hr4, hb4⟩)
    | (go_at_call 23; with_reducible refine (reach_at _ ts n L q _ (HT3.out.below hb4) HR2 HQ.out).mono ?_; rintro e w5 ⟨a5, c5, rfl, hr5, hb5⟩)
    | (go_at_call 22; refine (same_t _ _ L _ (hr4.below hb5) hr5).mono ?_; rintro e w6 ⟨rfl, hd6⟩))
  go_ret
  have s3 := HB.out.size
  have s4 := hb4.size
  exact ⟨rfl, ((HB.out.trans (hb4.mono (by omega))).trans (hb5.mono (by omega))).trans (hd6.below _)⟩
end Go.Proofs.Ytpeoecaamdiphaa
