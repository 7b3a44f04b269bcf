/-
  The contract of Reach (the program's).
-/
import Derived.Test.YtpeoecaamdiphaaKInts
namespace Go.Proofs.Ytpeoecaamdiphaa
open Go.RowKit

open Classical in
/-- What Reach has to answer. -/
noncomputable def reachD (ts : List ByteArray) (t : Int) : List Nat := if oneB ts t = true then reachL ts t.toNat else []
theorem reach_not {ts : List ByteArray} {t : Int} (h : oneB ts t = false) : reachD ts t = [] := by unfold reachD; rw [h]; rfl
theorem reach_one {ts : List ByteArray} {n : Nat} (h : oneB ts n = true) : reachD ts n = reachL ts n := by unfold reachD; rw [h]; rfl

/-- A row of numbers of the call's own. -/
def OwnI (w : World) (xs : List Nat) (e : Ending) (w' : World) : Prop := ∃ a c, e = .returned (.slice a xs.length c) ∧ w'.ownsRow w.heap.size 3 1 (.slice a xs.length c) xs.length (ints xs) ∧ Below w.heap.size w w'
theorem own_none (w : World) : OwnI w [] (.returned (.slice none 0 0)) w := ⟨none, 0, rfl, World.ownsRow_nil _ _ _ _, Below.refl _ _⟩

theorem Try.infoI : (Try.prog.info? 3).map (fun i => (i.zero, i.size, i.bytes)) = some (some (.int .i64 0), 1, 8) := by kernel_rfl
theorem one_cell (wr : World) (x : Value) (e : TypeId) : ∀ j u, [x][j]? = some u → (wr.alloc (.cells #[x] e)).cell? ((⟨wr.heap.size, 0, none⟩ : Addr).add j) = some u := by
  intro j u h
  rcases j with _ | j
  · simp at h; subst h
    simp only [Addr.add, World.cell?, if_pos, heap_alloc_new]
    simp
  · simp at h
theorem int_one (x : Nat) : ∀ u ∈ [int1 x], u.oneCell' = true := by
  intro u h; simp at h; subst h; rfl
theorem own_new (w : World) (B : Nat) (hB : B ≤ w.heap.size) (x : Nat) : (w.alloc (.cells #[int1 x] 3)).ownsRow B 3 1 (.slice (some ⟨w.heap.size, 0, none⟩) 1 1) 1 (ints [x]) :=
  ⟨by simp, .inr ⟨w.heap.size, 1, _, rfl, hB, heap_alloc_new _ _, Nat.le_refl _, by unfold maxLen; omega, rfl, by simp⟩⟩
/-- The shape of a row that is not empty, and its cells. -/
theorem own_shape {w : World} {B : Nat} {v : Value} {xs : List Nat} (h : w.ownsRow B 3 1 v xs.length (ints xs)) (hp : 0 < xs.length) : ∃ g cap, v = .slice (some ⟨g, 0, none⟩) xs.length cap ∧ B ≤ g ∧ g < w.heap.size ∧ xs.length ≤ cap ∧ cap ≤ 9223372036854775807 ∧ ∀ (j x : Nat), xs[j]? = some x → w.cell? ⟨g, j, none⟩ = some (.int .i64 (x : Int)) := by
  have hr := RowAt.of_own h
  rcases h.2 with ⟨_, h0⟩ | ⟨g, cap, cur, rfl, hg, hb, h3, h4, _⟩
  · omega
  · refine ⟨g, cap, rfl, hg, (Array.getElem?_eq_some_iff.1 hb).1, h3, by unfold maxLen at h4; omega, fun j x hx => ?_⟩
    obtain ⟨a', c', e1, _, _, e2⟩ := hr
    rcases e2 with e2 | ⟨b, o', rfl, _, hc⟩
    · have := congrArg List.length e2; simp at this; rw [this] at hp; simp at hp
    · simp only [Value.slice.injEq, Option.some.injEq, Addr.mk.injEq] at e1
      obtain ⟨⟨rfl, rfl, _⟩, _⟩ := e1
      have := hc j (int1 x) (by simp [hx])
      rw [Nat.zero_add] at this
      exact this

theorem pts_m (c m : Nat) (w : World) (h : c = m + 48) (h1 : m + 48 < 256) (h2 : m + 48 ≠ 105) : Calls Try.prog 31 #[.int .u8 c] w fun e w' => e = .returned (.int .i64 m) ∧ w = w' := by
  subst h
  refine (pts_d _ w (by omega) h1 h2).mono ?_
  rintro e w' ⟨rfl, rfl⟩
  exact ⟨ret_int (by omega), rfl⟩

/-- The loops' relation. -/
def GRel (w : World) (ts : List ByteArray) (n p k : Nat) (xs : List Nat) (v : Value) (wr : World) : Prop :=
  wr.ownsRow w.heap.size 3 1 v xs.length (ints xs) ∧ Below w.heap.size w wr ∧ Got ts n p k xs

theorem GRel.more {w wr w' : World} {ts : List ByteArray} {n p k k' m : Nat} {ys : List Nat} {v v' : Value} {ob : Obj} (h : GRel w ts n p k ys v wr) (ho : w'.ownsRow w.heap.size 3 1 v' (ys.length + 1) (ints ys ++ [int1 m])) (hg : (wr.alloc ob).grownBy w' v.ownBlock) (hn : Got ts n p k' (ys ++ [m])) : GRel w ts n p k' (ys ++ [m]) v' w' := by
  refine ⟨by simpa using ho, ?_, hn⟩
  have hb := h.2.1.alloc h.2.1.size ob
  exact hb.grown hg (by have := h.2.1.size; simp; omega) (fun g hg' => ((h.1.alloc ob).lt g hg').1)

theorem sort_zero (w : World) (p : Option Addr) (m c : Nat) (h : m = 0) : Calls Try.prog 33 #[.slice p m c] w fun e w' => e = .returned (.tuple #[]) ∧ w = w' := by
  subst h
  exact (Try.slices_Sort_int_none p c w).mono fun e w' ⟨h1, h2⟩ => ⟨h1, h2.symm⟩
/-- What has been gathered, sorted from the second on, is the answer. -/
theorem GRel.fin {w wr : World} {ts : List ByteArray} {n L g cap : Nat} {xs : List Nat} (hr : rightB ts = true) (hn : n < ts.length) (hL : xs.length = L) (h : GRel w ts n L 0 xs (.slice (some ⟨g, 0, none⟩) L cap) wr) :
    (L = 1 → OwnI w (reachL ts n) (.returned (.slice (some ⟨g, 0, none⟩) L cap)) wr) ∧
    ∀ m c, m + 1 = L → Calls Try.prog 33 #[.slice (some ⟨g, 1, none⟩) m c] wr fun e w' => e = .returned (.tuple #[]) ∧ OwnI w (reachL ts n) (.returned (.slice (some ⟨g, 0, none⟩) L cap)) w' := by
  obtain ⟨ho, hb, hg⟩ := h
  obtain ⟨r, rfl⟩ := hg.head
  subst hL
  have e := Got.done hr hn hg
  have hl := hg.len hr hn
  have hs := hb.size
  constructor
  · intro h1
    have hr0 : r = [] := by
      have : r.length = 0 := by simp at h1; simp [h1]
      exact List.length_eq_zero_iff.1 this
    subst hr0
    have e' : reachL ts n = [n] := by rw [← e]; simp [sortI]
    rw [e']
    exact ⟨_, _, rfl, ho, hb⟩
  · intro m c hm
    obtain rfl : m = r.length := by simp at hm; exact hm
    simp only [List.length_cons] at ho hl ⊢
    refine (sort_more wr w.heap.size g cap n r hs ho (by omega) c).mono ?_
    rintro e2 w' ⟨rfl, ho', hb'⟩
    have e3 : (reachL ts n).length = r.length + 1 := by rw [← e]; simp [sort_len]
    refine ⟨rfl, some ⟨g, 0, none⟩, cap, by rw [e3], ?_, hb.trans hb'⟩
    rw [e3, ← e]; exact ho'

set_option maxHeartbeats 4000000 in
theorem kreach_any (v : Value) (ts : List ByteArray) (t : Int) (w : World) (h : TsAt w v ts) : Calls Try.prog 23 #[v, .int .i64 t] w (OwnI w (reachD ts t)) := by
  have H := Lib.hid h
  rcases hr : oneB ts t with _ | _
  · have HR := Lib.hid hr
    rw [reach_not hr]
    clear hr h
    go_enter Try.func23, Try.ntmps23
    go_wp2_with (go_at_call 29; refine (kone_f _ ts _ _ H.out HR).mono ?_; rintro e w' ⟨rfl, rfl⟩)
    go_ret
    exact own_none _
  have HR := Lib.hid hr
  obtain ⟨n, rfl, hn, hri⟩ := one_lt hr
  rw [reach_one hr]
  obtain ⟨i0, hi, hz0, hz1, hz2⟩ := info_parts Try.infoI
  have HI := Lib.hid (And.intro hi (And.intro hz0 (And.intro hz1 hz2)))
  have HE := Lib.hid hri
  obtain ⟨a, c, rfl, h1, h2, h3⟩ := h.cases
  rcases h3 with rfl | ⟨b, o, rfl, hb, hc⟩
  · exact absurd hn (by simp)
  have HC := Lib.hid hc
  have h8 := (right_len hri).2
  clear hr h hri hc hi hz0 hz1 hz2
  go_enter Try.func23, Try.ntmps23
  go_wp2_with (go_at_call 29; refine (kone_t _ ts _ _ H.out HR).mono ?_; rintro e w' ⟨rfl, rfl⟩)
  go_loopw [5, 6] (fun v i wr => ∃ (p : Nat) (xs : List Nat), i = .int .i64 p ∧ p ≤ xs.length ∧ xs.length ≤ 8 ∧ Hid (GRel w ts n p 0 xs v wr)) (fun _ i _ => 8 - (intOf i).toNat)
  case atStart => exact ⟨0, [n], rfl, by simp, by simp, Lib.hid ⟨own_new w _ (Nat.le_refl _) n, (Below.refl _ _).alloc (Nat.le_refl _) _, got_start ts n⟩⟩
  case round =>
    obtain ⟨p, xs, rfl, hp, hx8, hG⟩ := hrel
    obtain ⟨g, cap, rfl, hg, hgl, hcap, hcap2, hcell⟩ := own_shape hG.out.1 hG.out.2.2.pos
    by_cases hlt : p < xs.length
    · have hxp : xs[p]? = some xs[p] := List.getElem?_eq_getElem hlt
      have hcp := hcell p _ hxp
      have hal := hG.out.2.2.lt HE.out hn (List.getElem_mem hlt)
      generalize hA : xs[p] = a at hxp hcp hal
      obtain ⟨hca, hsa⟩ := HC.out a hal
      have hca' : wr.cell? ⟨b, o + a, none⟩ = some (.string (ty ts a)) := by rw [(bcell hG.out.2.1).1 b _ hb]; exact hca
      have h6 := (right_ty HE.out hal).2
      have HX := Lib.hid hxp
      have HA := Lib.hid hal
      clear hcell hA hxp hca
      generalize hs : ty ts a = s at hca' hsa h6
      have HS := Lib.hid hs
      clear hs
      go_wp2
      go_loopw [5, 31] (fun v i wi => ∃ (k : Nat) (ys : List Nat), i = .int .i64 k ∧ k ≤ s.size ∧ ys.length ≤ 8 ∧ Hid (GRel w ts n p k ys v wi ∧ ys[p]? = some a)) (fun _ i _ => s.size - (intOf i).toNat)
      case atStart => exact ⟨0, xs, rfl, Nat.zero_le _, hx8, Lib.hid ⟨hG.out, HX.out⟩⟩
      case round =>
        obtain ⟨k, ys, rfl, hk, hy8, hY⟩ := hrel
        obtain ⟨g', cap', rfl, hg', hgl', hcap', hcap2', _⟩ := own_shape hY.out.1.1 hY.out.1.2.2.pos
        by_cases hks : k < s.size
        · have hks' : k < (ty ts a).size := by rw [HS.out]; exact hks
          have hby := byt_at hks
          have hltb := byt_lt s k
          have hl := right_let HE.out HA.out hks'
          rw [HS.out] at hl
          by_cases hc5 : byt s k = 105
          · have HB := Lib.hid (hby.trans hc5)
            have HN := Lib.hid (hY.out.1.2.2.skip hY.out.2 (by rw [HS.out]; exact hc5))
            clear hby hl hc5 hltb
            go_wp2_with (go_at_call 31; refine (pts_i _ _ HB.out).mono ?_; rintro e w' ⟨rfl, rfl⟩)
            go_roundw
            case rel => exact ⟨k + 1, ys, by go_num, by omega, hy8, Lib.hid ⟨⟨hY.out.1.1, hY.out.1.2.1, HN.out⟩, hY.out.2⟩⟩
            case measure => simp [intOf]; omega
          · have hd := dig_iff.1 (hl.resolve_left hc5)
            obtain ⟨m, hm⟩ : ∃ m, byt s k = m + 48 := ⟨byt s k - 48, by omega⟩
            have hb2 : s[k].toNat = m + 48 := by rw [hby]; exact hm
            have hm2 : m + 48 < 256 := by omega
            have hm3 : m + 48 ≠ 105 := by omega
            have HB := Lib.hid (And.intro hb2 (And.intro hm2 hm3))
            have HM := Lib.hid hm
            have H5 := Lib.hid hc5
            have e1 : (((m : Nat) : Int) != -1) = true := by simp
            clear hby hl hc5 hltb hd hm hb2 hm2 hm3
            by_cases hin : m ∈ ys
            · have HIN := Lib.hid hin
              have HN := Lib.hid (hY.out.1.2.2.known hY.out.2 (by rw [HS.out]; exact HM.out) hin)
              have hpos := hY.out.1.2.2.pos
              have hbig : ys.length ≤ 9223372036854775807 := by omega
              clear hin
              go_wp2_with (first
                | (go_at_call 31; refine (pts_m _ m _ HB.out.1 HB.out.2.1 HB.out.2.2).mono ?_; rintro e w' ⟨rfl, rfl⟩)
                | (go_at_call 32; refine (has_t _ _ ys m (RowAt.of_own hY.out.1.1) hpos hbig HIN).mono ?_; rintro e w' ⟨rfl, rfl⟩))
              go_roundw
              case rel => exact ⟨k + 1, ys, by go_num, by omega, hy8, Lib.hid ⟨⟨hY.out.1.1, hY.out.1.2.1, HN.out⟩, hY.out.2⟩⟩
              case measure => simp [intOf]; omega
            · have HIN := Lib.hid hin
              have HN := Lib.hid (hY.out.1.2.2.new hY.out.2 HA.out hks' (by rw [HS.out]; exact H5.out) (by rw [HS.out]; exact HM.out) hin)
              have hpos := hY.out.1.2.2.pos
              have hbig : ys.length ≤ 9223372036854775807 := by omega
              have hl8 : (ys ++ [m]).length ≤ 8 := HN.out.len HE.out hn
              have hfit : ys.length + 1 ≤ maxLen := by unfold maxLen; omega
              have hwb := hY.out.1.2.1.size
              clear hin
              go_wp2_with (first
                | (go_at_call 31; refine (pts_m _ m _ HB.out.1 HB.out.2.1 HB.out.2.2).mono ?_; rintro e w' ⟨rfl, rfl⟩)
                | (go_at_call 32; refine (has_f _ _ ys m (RowAt.of_own hY.out.1.1) hpos hbig HIN).mono ?_; rintro e w' ⟨rfl, rfl⟩)
                | (at_builtin; refine wpList_append_own _ rfl _ _ 32 rfl w.heap.size 3 i0 (.int .i64 0) 1 8 Try.underlying32 HI.out.1 HI.out.2.1 HI.out.2.2.1 HI.out.2.2.2 rfl (by decide) _ _ _ rfl (hY.out.1.1.alloc _) ⟨wr.heap.size, 0, none⟩ 1 1 [int1 m] rfl rfl ?c1 ?c2 ?c3 ?c4 ?c5 ?_))
              case c1 => exact one_cell wr _ _
              case c2 => exact int_one m
              case c3 => exact hfit
              case c4 => omega
              case c5 => simp; omega
              intro v' w' ho hgr _
              have HN2 := Lib.hid (hY.out.1.more ho hgr HN.out)
              clear ho hgr
              go_wp2
              go_roundw
              case rel => exact ⟨k + 1, ys ++ [m], by go_num, by omega, hl8, Lib.hid ⟨HN2.out, by rw [List.getElem?_append_left (List.getElem?_eq_some_iff.1 hY.out.2).1]; exact hY.out.2⟩⟩
              case measure => simp [intOf]; omega
        · obtain rfl : k = s.size := by omega
          have HN := Lib.hid (hY.out.1.2.2)
          go_wp2
          go_roundw
          case rel => exact ⟨p + 1, ys, by go_num, (List.getElem?_eq_some_iff.1 hY.out.2).1, hy8, Lib.hid ⟨hY.out.1.1, hY.out.1.2.1, Got.next (by rw [HS.out]; exact HN.out) hY.out.2⟩⟩
          case measure => simp [intOf]; omega
    · obtain rfl : p = xs.length := by omega
      have hpos := hG.out.2.2.pos
      clear hcell hlt hp
      generalize hL : xs.length = L at hcap hx8 hpos hG ⊢
      have HL := Lib.hid hL
      clear hL
      have hgr := hG.out.2.1.size
      by_cases hc1 : cap = 1
      · subst hc1
        obtain rfl : L = 1 := by omega
        have HF := Lib.hid ((hG.out.fin HE.out hn HL.out).1 rfl)
        go_wp2_with (go_at_call 33; refine (sort_zero wr _ _ _ (by omega)).mono ?_; rintro e w' ⟨rfl, rfl⟩)
        go_ret
        exact HF.out
      · have HF := Lib.hid (hG.out.fin HE.out hn HL.out)
        go_wp2_with (go_at_call 33; refine (HF.out.2 (L - 1) (cap - 1) (by omega)).mono ?_; rintro e w' ⟨rfl, hw'⟩)
        go_ret
        exact hw'
end Go.Proofs.Ytpeoecaamdiphaa
