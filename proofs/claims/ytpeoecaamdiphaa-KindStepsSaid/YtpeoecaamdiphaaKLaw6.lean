/-
  KindSteps: the walk.
-/
import Derived.Test.YtpeoecaamdiphaaKHas
namespace Go.Proofs.Ytpeoecaamdiphaa
open Go.RowKit

/-- The types that one comes to, in a row of numbers, and the variable that holds it. -/
structure Kept (w : World) (p g c : Nat) (L : List Nat) : Prop where
  var : w.cell? ⟨p, 0, none⟩ = some (.slice (some ⟨g, 0, none⟩) L.length c)
  row : ∀ j y : Nat, L[j]? = some y → w.cell? ⟨g, j, none⟩ = some (.int .i64 (y : Int))
theorem Kept.below {w w' : World} {p g c : Nat} {L : List Nat} (h : Kept w p g c L) (hp : p < w.heap.size) (hg : g < w.heap.size) (hb : Below w.heap.size w w') : Kept w' p g c L :=
  ⟨by rw [(bcell hb).1 p _ hp]; exact h.var, fun j y hy => by rw [(bcell hb).1 g _ hg]; exact h.row j y hy⟩

theorem reach_own (v : Value) (ts : List ByteArray) (t : Int) (L : List Nat) (w : World) (h : TsAt w v ts) (hL : Hid (reachD ts t = L)) (hp : 0 < L.length) : Calls Try.prog 23 #[v, .int .i64 t] w fun e w' => ∃ g c, e = .returned (.slice (some ⟨g, 0, none⟩) L.length c) ∧ L.length ≤ c ∧ c ≤ 9223372036854775807 ∧ g < w'.heap.size ∧ Hid (∀ j y : Nat, L[j]? = some y → w'.cell? ⟨g, j, none⟩ = some (.int .i64 (y : Int))) ∧ Below w.heap.size w w' := by
  refine (kreach_any v ts t w h).mono ?_
  rintro e w' ⟨a, c, rfl, h1, h2⟩
  rw [hL.out] at h1 ⊢
  obtain ⟨g, cap, e1, _, h3, h4, h5, h6⟩ := own_shape h1 hp
  simp only [Value.slice.injEq] at e1
  obtain ⟨rfl, _, rfl⟩ := e1
  exact ⟨g, c, rfl, h4, h5, h3, Lib.hid h6, h2⟩

set_option maxRecDepth 100000 in
set_option maxHeartbeats 4000000 in
theorem steps_walk (v : Value) (ts : List ByteArray) (t : Int) (w : World) (h : TsAt w v ts) : Calls Try.prog 6 #[v, .int .i64 t] w (TrueB w) := by
  have H := Lib.hid h
  rcases hf : fewB ts with _ | _
  · have HF := Lib.hid hf
    clear hf h
    go_enter Try.func6, Try.ntmps6
    go_wp2_with (first
      | (go_at_call 10; refine (alive_any _).mono ?_; rintro e w1 ⟨rfl, hb1⟩)
      | (go_at_call 11; refine (few_f _ ts _ (H.out.below hb1) HF).mono ?_; rintro e w' ⟨rfl, rfl⟩))
    go_ret
    exact ⟨rfl, hb1⟩
  have HF := Lib.hid hf
  clear hf
  rcases ho : oneB ts t with _ | _
  · have HN : Hid (reachD ts t = []) := Lib.hid (reach_not ho)
    obtain ⟨a, c, rfl, h1, h2⟩ := h.shape
    clear h
    rcases hr : rightB ts with _ | _
    · have HR := Lib.hid hr
      clear hr ho
      go_enter Try.func6, Try.ntmps6
      go_wp2_with (first
        | (go_at_call 10; refine (alive_any _).mono ?_; rintro e w1 ⟨rfl, hb1⟩; have HT1 := Lib.hid (H.out.below hb1))
        | (go_at_call 11; refine (few_t _ ts _ HT1.out HF).mono ?_; rintro e w' ⟨rfl, rfl⟩)
        | (go_at_call 13; refine (rright_n _ ts _ _ HT1.out HR).mono ?_; rintro e w' ⟨rfl, rfl⟩)
        | (go_at_call 23; refine (reach_at _ ts t [] 0 _ HT1.out HN rfl).mono ?_; rintro e w2 ⟨a2, c2, rfl, _, hb2⟩))
      go_ret
      exact ⟨rfl, hb1.trans (hb2.mono hb1.size)⟩
    · have HR := Lib.hid hr
      have hlt := (one_no.1 ho).resolve_right (by rw [hr]; decide)
      clear hr ho
      rcases hlt with hlt | hlt
      all_goals
        go_enter Try.func6, Try.ntmps6
        go_wp2_with (first
          | (go_at_call 10; refine (alive_any _).mono ?_; rintro e w1 ⟨rfl, hb1⟩; have HT1 := Lib.hid (H.out.below hb1))
          | (go_at_call 11; refine (few_t _ ts _ HT1.out HF).mono ?_; rintro e w' ⟨rfl, rfl⟩)
          | (go_at_call 13; refine (rright_n _ ts _ _ HT1.out HR).mono ?_; rintro e w' ⟨rfl, rfl⟩)
          | (go_at_call 23; refine (reach_at _ ts t [] 0 _ HT1.out HN rfl).mono ?_; rintro e w2 ⟨a2, c2, rfl, _, hb2⟩))
        go_ret
        exact ⟨rfl, hb1.trans (hb2.mono hb1.size)⟩
  obtain ⟨n, rfl, hn, hr⟩ := one_lt ho
  have HR := Lib.hid hr
  have HL : Hid (reachD ts n = reachL ts n) := Lib.hid (reach_one ho)
  have HS := Lib.hid (steps_of hr hn)
  obtain ⟨b, o, c, rfl, h1, h2, hb, hc, hs⟩ := h.one hn
  clear hr ho h hc hs
  have hq : ∀ L : List Nat, L = reachL ts n → Steps ts n L := fun L e => by rw [e]; exact HS.out
  generalize hLv : reachL ts n = L at HL HS
  have h8 := HS.out.len
  have hpos := HS.out.pos
  clear hq hLv
  have hmf : ∀ (fn : Fn) (first cap : Array Value) (w : World), (Instr.makeFunc fn first cap).run Try.prog w = .ok (.func fn first cap) w := fun _ _ _ _ => rfl
  go_enter Try.func6, Try.ntmps6
  go_upto_region 6 with (first
    | (go_at_call 10; refine (alive_any _).mono ?_; rintro e w1 ⟨rfl, hb1⟩; have HT1 := Lib.hid (H.out.below hb1))
    | (go_at_call 11; refine (few_t _ ts _ HT1.out HF).mono ?_; rintro e w' ⟨rfl, rfl⟩)
    | (go_at_call 13; refine (rright_n _ ts _ _ HT1.out HR).mono ?_; rintro e w' ⟨rfl, rfl⟩)
    | (go_at_call 23; refine (reach_own _ ts n L _ HT1.out HL hpos).mono ?_; rintro e w2 ⟨g, c2, rfl, hcap, hcap2, hg, hrow, hb2⟩))
  have s1 := hb1.size
  have s2 := hb2.size
  have HK : Hid (Kept (w2.alloc (.cells #[.slice (some ⟨g, 0, none⟩) L.length c2] 32)) w2.heap.size g c2 L) := Lib.hid ⟨by simp only [World.cell?, heap_alloc_new]; simp, fun j y hy => by rw [(bcell (below_alloc w2 _)).1 g _ hg]; exact hrow.out j y hy⟩
  have HT3 := Lib.hid ((HT1.out.below hb2).below (below_alloc w2 (.cells #[.slice (some ⟨g, 0, none⟩) L.length c2] 32)))
  have HB3 := Lib.hid ((hb1.trans (hb2.mono s1)).trans ((below_alloc w2 (.cells #[.slice (some ⟨g, 0, none⟩) L.length c2] 32)).mono (by omega)))
  have hpz : w2.heap.size < (w2.alloc (.cells #[.slice (some ⟨g, 0, none⟩) L.length c2] 32)).heap.size := by simp
  have hgz : g < (w2.alloc (.cells #[.slice (some ⟨g, 0, none⟩) L.length c2] 32)).heap.size := by simp; omega
  generalize w2.alloc (.cells #[.slice (some ⟨g, 0, none⟩) L.length c2] 32) = w3 at HK HT3 HB3 hpz hgz ⊢
  generalize w2.heap.size = p at HK hpz ⊢
  clear hrow hb2 hb1 s1 s2 hg
  have hvar := HK.out.var
  have hz := HK.out.row 0 n HS.out.first
  have hne : ¬ L = [] := by intro h; rw [h] at hpos; simp at hpos
  go_wp2
  clear hvar hz
  go_loopw [59] (fun i wr => ∃ k : Nat, k ≤ L.length ∧ i = .int .i64 k ∧ Hid (Below w3.heap.size w3 wr)) (fun i _ => L.length - (intOf i).toNat)
  case atStart => exact ⟨0, Nat.zero_le _, rfl, Lib.hid (Below.refl _ _)⟩
  case round =>
    obtain ⟨k, hk, rfl, hW⟩ := hrel
    have HKr := Lib.hid (HK.out.below hpz hgz hW.out)
    have HTr := Lib.hid (HT3.out.below hW.out)
    have hszr := hW.out.size
    by_cases hlt : k < L.length
    · have hxk : L[k]? = some L[k] := List.getElem?_eq_getElem hlt
      have hck := HKr.out.row k _ hxk
      have hmem : L[k] ∈ L := List.getElem_mem hlt
      generalize hX : L[k] = x at hxk hck hmem
      have HXK := Lib.hid hxk
      have HME := Lib.hid hmem
      clear hX hxk hmem
      have hxl := HS.out.lt x HME.out
      have HOx : Hid (oneB ts x = true) := Lib.hid (one_t (by omega) (by omega) HR.out)
      have HSx : Hid (sizeI ts x = ((ty ts x).size : Int)) := Lib.hid (size_of HOx.out)
      have hsx6 := (right_ty HR.out hxl).2
      have hvr := HKr.out.var
      have hprev : k < 2 ∨ ∃ y : Nat, 2 ≤ k ∧ y < x ∧ wr.cell? ⟨g, k - 1, none⟩ = some (.int .i64 (y : Int)) := by
        rcases Nat.lt_or_ge k 2 with hk2 | hk2
        · exact .inl hk2
        · have hy : L[k - 1]? = some (L[k - 1]'(by omega)) := List.getElem?_eq_getElem _
          refine .inr ⟨_, hk2, ?_, HKr.out.row (k - 1) _ hy⟩
          exact HS.out.rise (k - 1) _ x (by omega) hy (by rw [show k - 1 + 1 = k by omega]; exact HXK.out)
      generalize hZv : (ty ts x).size = Z at hsx6 HSx
      have HZv := Lib.hid hZv
      clear hZv
      rcases hprev with hk2 | ⟨y, hk2, hyx, hcy⟩
      all_goals
        go_upto_region 14 with fail
        go_upto_region 15 with (go_at_call 16; refine (ksize_n _ ts _ Z _ HTr.out HSx).mono ?_; rintro e w' ⟨rfl, rfl⟩)
        go_loop [78] (fun i => ∃ f : Nat, f ≤ Z ∧ i = .int .i64 f) (fun i => Z - (intOf i).toNat)
        case atStart => exact ⟨0, Nat.zero_le _, rfl⟩
        case round =>
          obtain ⟨f, hf, rfl⟩ := hrel
          by_cases hfz : f < Z
          · have hfs : f < (ty ts x).size := by rw [HZv.out]; exact hfz
            have hl := right_let HR.out hxl hfs
            by_cases hi : byt (ty ts x) f = 105
            · have HT : Hid (toI ts x f = -1) := Lib.hid (to_i HOx.out hfs hi)
              clear hl hi
              go_wp2_with (go_at_call 20; refine (kto_n _ ts _ _ _ _ HTr.out HT).mono ?_; rintro e w' ⟨rfl, rfl⟩)
              go_round
              case rel => exact ⟨f + 1, by omega, by go_num⟩
              case measure => (simp [intOf] <;> omega)
            · have hd := dig_iff.1 (hl.resolve_left hi)
              obtain ⟨m, hm⟩ : ∃ m, byt (ty ts x) f = m + 48 := ⟨byt (ty ts x) f - 48, by omega⟩
              have HT : Hid (toI ts x f = (m : Int)) := Lib.hid (by rw [to_d HOx.out hfs hi, hm]; omega)
              have HMM : Hid (m ∈ L) := Lib.hid (HS.out.edge x HME.out m ⟨hxl, f, hfs, hi, hm⟩)
              clear hl hi hd hm
              go_wp2_with (first
                | (go_at_call 20; refine (kto_n _ ts _ _ _ _ HTr.out HT).mono ?_; rintro e w' ⟨rfl, rfl⟩)
                | (go_at_call 25; refine (clos_t p g c2 L m _ hvr h8 hcap hcap2 (Lib.hid HKr.out.row) HMM).mono ?_; rintro e w' ⟨rfl, rfl⟩))
              go_round
              case rel => exact ⟨f + 1, by omega, by go_num⟩
              case measure => (simp [intOf] <;> omega)
          · obtain rfl : f = Z := by omega
            have hS2 := steps_of HR.out hxl
            have hall := HS.out.all x HME.out
            have hR2 := reach_one HOx.out
            generalize reachL ts x = L2 at hS2 hall hR2
            have h28 := hS2.len
            have hpos2 := hS2.pos
            have HALL := Lib.hid hall
            have HL2 := Lib.hid hR2
            clear hS2 hall hR2
            go_upto_region 22 with (go_at_call 23; refine (reach_own _ ts x L2 _ HTr.out HL2 hpos2).mono ?_; rintro e w5 ⟨g5, c5, rfl, hcap5, hcap52, hg5, hrow5, hb5⟩)
            have HK5 := Lib.hid (HKr.out.below (by omega) (by omega) hb5)
            have hv5 := HK5.out.var
            clear hvr hck
            go_loop [98] (fun i => ∃ j : Nat, j ≤ L2.length ∧ i = .int .i64 j) (fun i => L2.length - (intOf i).toNat)
            case atStart => exact ⟨0, Nat.zero_le _, rfl⟩
            case round =>
              obtain ⟨j, hj, rfl⟩ := hrel
              by_cases hjl : j < L2.length
              · have hyj : L2[j]? = some L2[j] := List.getElem?_eq_getElem hjl
                have hcj := hrow5.out j _ hyj
                have HMJ := Lib.hid (HALL.out _ (List.getElem_mem hjl))
                generalize L2[j] = m at hcj HMJ
                clear hyj
                go_wp2_with (go_at_call 25; refine (clos_t p g c2 L m _ hv5 h8 hcap hcap2 (Lib.hid HK5.out.row) HMJ).mono ?_; rintro e w' ⟨rfl, rfl⟩)
                go_round
                case rel => exact ⟨j + 1, by omega, by go_num⟩
                case measure => (simp [intOf] <;> omega)
              · obtain rfl : j = L2.length := by omega
                go_wp2
                go_roundw
                case rel =>
                  (repeat apply Exists.intro)
                  refine ⟨?r, ?f⟩
                  case f => (repeat' (first | rfl | constructor))
                  case r => exact ⟨k + 1, by omega, by go_num, Lib.hid (hW.out.trans (hb5.mono hszr))⟩
                case measure => (simp [intOf] <;> omega)
    · go_wp2
      go_ret
      exact ⟨rfl, HB3.out.trans (hW.out.mono HB3.out.size)⟩
end Go.Proofs.Ytpeoecaamdiphaa
