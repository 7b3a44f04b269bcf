/-
  WordTwo: the walk.
-/
import Derived.Test.YtpecigjdellpaaaDoorWAgain
import Derived.Test.YtpecigjdellpaaaDoorWPure3
import Derived.Laws.AppendOwnNone
import Derived.Handy
namespace Go.Proofs.YtpecigjdellpaaaDoor
open Go.RowKit

/-- 'append(xs, ys...)' of one's own rows of one-cell values, ys nil or not. -/
theorem wpList_append_rows {P : Program} {w : World} {ops : Array Oper} {rest : List Oper} {o : Oper} {a : Act} {Q : Exit → Act → World → Prop} (hw : Region.wanted o (yielded ops a.tmps) = true) (s x : Operand) (t : TypeId)
    (ho : o.op = .call { callee := .builtin .append, args := #[s, x], argTypes := #[t, t] })
    (base : Nat) (e : TypeId) (i : TypeInfo) (z : Value) (bytes : Nat) (ht : P.underlying t = some (.slice e)) (hi : P.info? e = some i) (hz : i.zero = some z)
    (hsize : i.size = 1) (hby : i.bytes = bytes) (hzs : z.cells.size = 1)
    (v : Value) (n : Nat) (xs : List Value) (hs : a.eval s = v) (hown : w.ownsRow base e 1 v n xs)
    (u : Value) (m : Nat) (news : List Value) (base' : Nat) (hx : a.eval x = u) (hsrc : w.ownsRow base' e 1 u m news) (h1 : ∀ u ∈ news, u.oneCell' = true)
    (h63 : n + m ≤ maxLen) (hbytes : (n + m) * bytes ≤ 140737488355328) (hbase : base ≤ w.heap.size)
    (h : ∀ v' w', w'.ownsRow base e 1 v' (n + m) (xs ++ news) → Below base w w' → wpList P ops Q rest (a.put o.dst v') w') : wpList P ops Q (o :: rest) a w := by
  have hsrc' := hsrc
  rcases hsrc.2 with ⟨rfl, rfl⟩ | ⟨g, cap, cur, rfl, hb, hg, h3, h4, h5, h6⟩
  · have hn : news = [] := List.length_eq_zero_iff.1 (by simpa using hsrc.1)
    subst hn
    refine BigFrame.wpList_want hw fun K hK => ?_
    have hrun := run_append_owned_none (P := P) (w := w) base t o.type e i 1 ht hi v n xs hown
    unfold Oper.wp
    simp [execOp, ho, resolve, invoke, builtin, hs, hx, hrun, Result.andThen]
    exact hK _ _ (h v w (by simpa using hown) (Below.refl _ _))
  · have hra := RowAt.of_own hsrc'
    have hl : news.length = m := by simpa using hsrc.1
    refine BigFrame.wpList_want hw fun K hK => wp_append_own w s x t ho base e i z 1 bytes ht hi hz hsize hby hzs (by decide) v n xs hs hown ⟨g, 0, none⟩ m cap news hx (by omega) ?_ h1 h63 hbytes hbase ?_
    · intro j u hu
      obtain ⟨a', c', e1, _, _, e2⟩ := hra
      rcases e2 with rfl | ⟨b, o', rfl, _, hc⟩
      · simp at hu
      · simp only [Value.slice.injEq, Option.some.injEq, Addr.mk.injEq] at e1
        obtain ⟨⟨rfl, rfl, _⟩, _⟩ := e1
        have := hc j u hu
        rw [Nat.zero_add] at this
        have e0 : (⟨g, 0, none⟩ : Addr).add j = ⟨g, j, none⟩ := by
          unfold Addr.add
          rcases j with _ | j <;> simp
        rw [e0]; exact this
    · intro v' w' ho' hgr _
      exact hK _ _ (h v' w' ho' ((Below.refl _ _).grown hgr hbase (fun g hg' => (hown.lt g hg').1)))

theorem cat_list (s t : ByteArray) : (s ++ ⟨#[10]⟩ ++ t).data.toList = s.data.toList ++ 10 :: t.data.toList := by simp
theorem cat_size (s t : ByteArray) : (s ++ ⟨#[10]⟩ ++ t).size = s.size + 1 + t.size := by
  rw [ByteArray.size_append, ByteArray.size_append]; rfl

/-- How many of the first k bytes are the byte 10. -/
def cntTo (s : ByteArray) (k : Nat) : Nat := (s.data.toList.take k).count 10
theorem cnt_zero (s : ByteArray) : cntTo s 0 = 0 := by simp [cntTo]
theorem cnt_yes {s : ByteArray} {k : Nat} (h : k < s.size) (e : s[k] = 10) : cntTo s (k + 1) = cntTo s k + 1 := by
  unfold cntTo; rw [take_snoc s k h, List.count_append, e]; rfl
theorem cnt_no {s : ByteArray} {k : Nat} (h : k < s.size) (e : s[k] ≠ 10) : cntTo s (k + 1) = cntTo s k := by
  unfold cntTo; rw [take_snoc s k h, List.count_append]
  have : List.count 10 [s[k]] = 0 := by simpa [List.count_singleton] using e
  omega
theorem cnt_all (s : ByteArray) : cntTo s s.size = s.data.toList.count 10 := by
  unfold cntTo; rw [List.take_of_length_le (by rw [len_size]; exact Nat.le_refl _)]
theorem cnt_le (s : ByteArray) (k : Nat) : cntTo s k ≤ k := by
  unfold cntTo; exact Nat.le_trans List.count_le_length (by simp; omega)
theorem eq10_of {c : UInt8} (h : c = 10) : (((c.toNat : Nat) : Int) == 10) = true := by subst h; rfl
theorem ne10_of {c : UInt8} (h : c ≠ 10) : (((c.toNat : Nat) : Int) == 10) = false := by
  have : c.toNat ≠ 10 := fun e => h (UInt8.toNat_inj.1 (by simpa using e))
  simp; omega

set_option maxRecDepth 100000 in
theorem two_big (s t : ByteArray) (w : World) (hs : 3000 < s.size ∨ 3000 < t.size) (hmax : s.size ≤ maxLen) (hmax' : t.size ≤ maxLen) (hm : HasM w) :
    Calls Tryd.prog 9 #[.string s, .string t] w fun e w' => e = .returned (.bool true) ∧ Below w.heap.size w w' := by
  have HA := alive_any w hm
  unfold maxLen at hmax hmax'
  by_cases h1 : 3000 < s.size
  · clear hs
    go_enter Tryd.func9, Tryd.ntmps9
    go_wp2_with (go_at_call 10; refine HA.mono ?_; rintro e w1 ⟨rfl, hb1⟩)
    go_ret
    exact ⟨rfl, hb1⟩
  · have h2 : 3000 < t.size := by omega
    clear hs
    go_enter Tryd.func9, Tryd.ntmps9
    go_wp2_with (go_at_call 10; refine HA.mono ?_; rintro e w1 ⟨rfl, hb1⟩)
    go_ret
    exact ⟨rfl, hb1⟩

set_option maxRecDepth 100000 in
set_option maxHeartbeats 4000000 in
/-- The first text has an error. -/
theorem two_e1 (s t : ByteArray) (n : Nat) (w : World) (hs : s.size ≤ 3000) (ht : t.size ≤ 3000) (hm : HasM w)
    (HL : Hid (∀ w, HasM w → Calls Tryd.prog 11 #[.string s] w (ErrPost w n))) (HT : Hid (∀ w, HasM w → Calls Tryd.prog 11 #[.string t] w (LinesPost w (linesL t.data.toList))))
    (HC : Hid (∀ w, HasM w → Calls Tryd.prog 11 #[.string (s ++ ⟨#[10]⟩ ++ t)] w (ErrPost w n))) :
    Calls Tryd.prog 9 #[.string s, .string t] w fun e w' => e = .returned (.bool true) ∧ Below w.heap.size w w' := by
  have HA := alive_any w hm
  go_enter Tryd.func9, Tryd.ntmps9
  go_wp2_with (first
    | (go_at_call 10; refine HA.mono ?_; rintro e w1 ⟨rfl, hb1⟩; have hm1 := hm.below hb1)
    | (go_at_call 11; ((with_reducible refine (HL.out w1 hm1).mono ?_); rintro e w2 ⟨a1, c1, rfl, hb2⟩; have hm2 := hm1.below hb2))
    | (go_at_call 11; ((with_reducible refine (HT.out w2 hm2).mono ?_); generalize linesL t.data.toList = r; rintro e w3 ⟨a2, c2, rfl, _, hb3⟩; have hm3 := hm2.below hb3))
    | (go_at_call 11; ((with_reducible refine (HC.out w3 hm3).mono ?_); rintro e w4 ⟨a3, c3, rfl, hb4⟩)))
  go_loop [14, 49] (fun v14 v49 => ∃ k m : Nat, k ≤ s.size ∧ v49 = .int .i64 k ∧ v14 = .int .i64 m ∧ m = cntTo s k + 1) (fun _ v49 => s.size - (intOf v49).toNat)
  case atStart => exact ⟨0, 1, Nat.zero_le _, rfl, rfl, by rw [cnt_zero]⟩
  case round =>
    obtain ⟨k, m, hk, rfl, rfl, hcm⟩ := hrel
    have hmk : m ≤ 3001 := by have := cnt_le s k; omega
    by_cases hlt : k < s.size
    · have HM := Lib.hid hcm
      clear hcm
      by_cases h10 : s[k] = 10
      · have e1 := eq10_of h10
        have HN : Hid (m + 1 = cntTo s (k + 1) + 1) := Lib.hid (by rw [cnt_yes hlt h10, HM.out])
        clear h10
        go_wp2
        go_round
        case rel => exact ⟨k + 1, m + 1, by omega, by go_num, by go_num, HN.out⟩
        case measure => simp [intOf]; omega
      · have e1 := ne10_of h10
        have HN : Hid (m = cntTo s (k + 1) + 1) := Lib.hid (by rw [cnt_no hlt h10, HM.out])
        clear h10
        go_wp2
        go_round
        case rel => exact ⟨k + 1, m, by omega, by go_num, rfl, HN.out⟩
        case measure => simp [intOf]; omega
    · have HM : Hid (m = s.data.toList.count 10 + 1) := Lib.hid (by
        obtain rfl : k = s.size := by omega
        rw [← cnt_all]; exact hcm)
      clear hcm
      go_wp2
      go_ret
      refine ⟨rfl, ?_⟩
      have s1 := hb1.size
      have s2 := hb2.size
      have s3 := hb3.size
      exact ((hb1.trans (hb2.mono (by omega))).trans (hb3.mono (by omega))).trans (hb4.mono (by omega))

set_option maxRecDepth 100000 in
set_option maxHeartbeats 4000000 in
/-- The second text has an error. -/
theorem two_e2 (s t : ByteArray) (n n' : Nat) (G : List (List Bs)) (w : World) (hs : s.size ≤ 3000) (ht : t.size ≤ 3000) (hm : HasM w) (hn : n' = (s.data.toList.count 10 + 1) + n) (hn3 : n ≤ 30000)
    (HL : Hid (∀ w, HasM w → Calls Tryd.prog 11 #[.string s] w (OkPost w G))) (HT : Hid (∀ w, HasM w → Calls Tryd.prog 11 #[.string t] w (ErrPost w n)))
    (HC : Hid (∀ w, HasM w → Calls Tryd.prog 11 #[.string (s ++ ⟨#[10]⟩ ++ t)] w (ErrPost w n'))) :
    Calls Tryd.prog 9 #[.string s, .string t] w fun e w' => e = .returned (.bool true) ∧ Below w.heap.size w w' := by
  have HA := alive_any w hm
  have HNN := Lib.hid hn
  clear hn
  go_enter Tryd.func9, Tryd.ntmps9
  go_wp2_with (first
    | (go_at_call 10; refine HA.mono ?_; rintro e w1 ⟨rfl, hb1⟩; have hm1 := hm.below hb1)
    | (go_at_call 11; ((with_reducible refine (HL.out w1 hm1).mono ?_); rintro e w2 ⟨a1, c1, rfl, _, hb2⟩; have hm2 := hm1.below hb2))
    | (go_at_call 11; ((with_reducible refine (HT.out w2 hm2).mono ?_); rintro e w3 ⟨a2, c2, rfl, hb3⟩; have hm3 := hm2.below hb3))
    | (go_at_call 11; ((with_reducible refine (HC.out w3 hm3).mono ?_); rintro e w4 ⟨a3, c3, rfl, hb4⟩)))
  go_loop [14, 49] (fun v14 v49 => ∃ k m : Nat, k ≤ s.size ∧ v49 = .int .i64 k ∧ v14 = .int .i64 m ∧ m = cntTo s k + 1) (fun _ v49 => s.size - (intOf v49).toNat)
  case atStart => exact ⟨0, 1, Nat.zero_le _, rfl, rfl, by rw [cnt_zero]⟩
  case round =>
    obtain ⟨k, m, hk, rfl, rfl, hcm⟩ := hrel
    have hmk : m ≤ 3001 := by have := cnt_le s k; omega
    by_cases hlt : k < s.size
    · have HM := Lib.hid hcm
      clear hcm
      by_cases h10 : s[k] = 10
      · have e1 := eq10_of h10
        have HN : Hid (m + 1 = cntTo s (k + 1) + 1) := Lib.hid (by rw [cnt_yes hlt h10, HM.out])
        clear h10
        go_wp2
        go_round
        case rel => exact ⟨k + 1, m + 1, by omega, by go_num, by go_num, HN.out⟩
        case measure => simp [intOf]; omega
      · have e1 := ne10_of h10
        have HN : Hid (m = cntTo s (k + 1) + 1) := Lib.hid (by rw [cnt_no hlt h10, HM.out])
        clear h10
        go_wp2
        go_round
        case rel => exact ⟨k + 1, m, by omega, by go_num, rfl, HN.out⟩
        case measure => simp [intOf]; omega
    · have HM : Hid (m = s.data.toList.count 10 + 1) := Lib.hid (by
        obtain rfl : k = s.size := by omega
        rw [← cnt_all]; exact hcm)
      clear hcm
      have hE : n' = m + n := by rw [HNN.out, HM.out]
      subst hE
      have e2 : (((m + n : Nat) : Int) == ((m : Nat) : Int) + ((n : Nat) : Int)) = true := by simp
      go_wp2
      go_ret
      refine ⟨?_, ?_⟩
      · first | rfl | (refine ret_bool ?_; simp)
      have s1 := hb1.size
      have s2 := hb2.size
      have s3 := hb3.size
      exact ((hb1.trans (hb2.mono (by omega))).trans (hb3.mono (by omega))).trans (hb4.mono (by omega))

theorem grid_two {w w' : World} {B B1 B2 : Nat} {v : Value} {G1 G2 : List (List Bs)} {vs1 vs2 : List Value} (h1 : vs1.length = G1.length) (h1' : ∀ (i : Nat) (u : Value) (x : List Bs), vs1[i]? = some u → G1[i]? = some x → w.ownsRow B1 9 1 u x.length (x.map str))
    (h2' : ∀ (i : Nat) (u : Value) (x : List Bs), vs2[i]? = some u → G2[i]? = some x → w.ownsRow B2 9 1 u x.length (x.map str))
    (hb : Below w.heap.size w w') (hv : w'.ownsRow B 39 1 v (G1.length + G2.length) (vs1 ++ vs2)) : GridAt w' v (G1 ++ G2) := by
  refine ⟨vs1 ++ vs2, ?_, RowAt.of_own hv, ?_⟩
  · have := hv.1; simp at this ⊢; omega
  · intro i u x hu hx
    by_cases hi : i < vs1.length
    · rw [List.getElem?_append_left hi] at hu
      rw [List.getElem?_append_left (by omega)] at hx
      exact RowAt.of_own (own_below (h1' i u x hu hx) hb)
    · rw [List.getElem?_append_right (by omega)] at hu
      rw [List.getElem?_append_right (by omega)] at hx
      rw [h1] at hu
      exact RowAt.of_own (own_below (h2' _ u x hu hx) hb)

def OkOwn (w : World) (G : List (List Bs)) (e : Ending) (w' : World) : Prop :=
  ∃ a c, e = .returned (.tuple #[.slice a G.length c, .int .i64 0, .int .i64 0]) ∧ Grid w' w.heap.size (.slice a G.length c) G ∧ Below w.heap.size w w'
theorem lines_own (s : ByteArray) (G : List (List Bs)) (w : World) (hs : s.size ≤ maxLen) (hm : HasM w) (hR : linesL s.data.toList = (G, 0, 0)) : Calls Tryd.prog 11 #[.string s] w (OkOwn w G) := by
  have := lines_any s w hs hm
  rw [hR] at this
  exact this.mono fun e w' ⟨a, c, h1, h2, h3⟩ => ⟨a, c, h1, h2, h3⟩
theorem slice_cells {w : World} {B n : Nat} {v : Value} {vs : List Value} {G : List (List Bs)} (hl : vs.length = G.length) (h : ∀ (i : Nat) (u : Value) (x : List Bs), vs[i]? = some u → G[i]? = some x → w.ownsRow B 9 1 u x.length (x.map str)) (_hv : w.ownsRow B 39 1 v n vs) : ∀ u ∈ vs, u.oneCell' = true := by
  intro u hu
  obtain ⟨i, hi⟩ := List.getElem?_of_mem hu
  have hlt : i < G.length := by have := (List.getElem?_eq_some_iff.1 hi).1; omega
  rcases ownsRow_forms (h i u _ hi (List.getElem?_eq_getElem hlt)) with ⟨rfl, _⟩ | ⟨g, cap, rfl⟩ <;> rfl

set_option maxRecDepth 100000 in
set_option maxHeartbeats 4000000 in
/-- Both texts are right. -/
theorem two_both (s t : ByteArray) (G1 G2 : List (List Bs)) (w : World) (hs : s.size ≤ 3000) (ht : t.size ≤ 3000) (hm : HasM w) (hl1 : G1.length ≤ 30000) (hl2 : G2.length ≤ 30000)
    (HL : Hid (∀ w, HasM w → Calls Tryd.prog 11 #[.string s] w (OkOwn w G1))) (HT : Hid (∀ w, HasM w → Calls Tryd.prog 11 #[.string t] w (OkOwn w G2)))
    (HC : Hid (∀ w, HasM w → Calls Tryd.prog 11 #[.string (s ++ ⟨#[10]⟩ ++ t)] w (OkPost w (G1 ++ G2)))) :
    Calls Tryd.prog 9 #[.string s, .string t] w fun e w' => e = .returned (.bool true) ∧ Below w.heap.size w w' := by
  obtain ⟨i0, hi, hz0, hz1, hz2⟩ := info_parts Tryd.info39
  have HA := alive_any w hm
  go_enter Tryd.func9, Tryd.ntmps9
  go_wp2_with (first
    | (go_at_call 10; refine HA.mono ?_; rintro e w1 ⟨rfl, hb1⟩; have hm1 := hm.below hb1)
    | (go_at_call 11; ((with_reducible refine (HL.out w1 hm1).mono ?_); rintro e w2 ⟨a1, c1, rfl, hg2, hb2⟩; have hm2 := hm1.below hb2))
    | (go_at_call 11; ((with_reducible refine (HT.out w2 hm2).mono ?_); rintro e w3 ⟨a2, c2, rfl, hg3, hb3⟩; have hm3 := hm2.below hb3))
    | (go_at_call 11; ((with_reducible refine (HC.out w3 hm3).mono ?_); rintro e w4 ⟨a3, c3, rfl, hg4, hb4⟩)))
  obtain ⟨vs1, p1, p2, p3⟩ := (hg2.below hb3).below hb4
  obtain ⟨vs2, q1, q2, q3⟩ := hg3.below hb4
  have P3 := Lib.hid p3
  have Q3 := Lib.hid q3
  have HO1 := Lib.hid (slice_cells p1 p3 p2)
  have HO2 := Lib.hid (slice_cells q1 q3 q2)
  clear p3 q3
  go_loop [14, 49] (fun v14 v49 => ∃ k m : Nat, k ≤ s.size ∧ v49 = .int .i64 k ∧ v14 = .int .i64 m ∧ m = cntTo s k + 1) (fun _ v49 => s.size - (intOf v49).toNat)
  case atStart => exact ⟨0, 1, Nat.zero_le _, rfl, rfl, by rw [cnt_zero]⟩
  case round =>
    obtain ⟨k, m, hk, rfl, rfl, hcm⟩ := hrel
    have hmk : m ≤ 3001 := by have := cnt_le s k; omega
    by_cases hlt : k < s.size
    · have HM := Lib.hid hcm
      clear hcm
      by_cases h10 : s[k] = 10
      · have e1 := eq10_of h10
        have HN : Hid (m + 1 = cntTo s (k + 1) + 1) := Lib.hid (by rw [cnt_yes hlt h10, HM.out])
        clear h10
        go_wp2
        go_round
        case rel => exact ⟨k + 1, m + 1, by omega, by go_num, by go_num, HN.out⟩
        case measure => simp [intOf]; omega
      · have e1 := ne10_of h10
        have HN : Hid (m = cntTo s (k + 1) + 1) := Lib.hid (by rw [cnt_no hlt h10, HM.out])
        clear h10
        go_wp2
        go_round
        case rel => exact ⟨k + 1, m, by omega, by go_num, rfl, HN.out⟩
        case measure => simp [intOf]; omega
    · have HM : Hid (m = s.data.toList.count 10 + 1) := Lib.hid (by
        obtain rfl : k = s.size := by omega
        rw [← cnt_all]; exact hcm)
      clear hcm
      go_wp2_with (at_builtin; refine wpList_append_rows rfl _ _ 23 rfl w4.heap.size 39 i0 (.slice none 0 0) 24 Tryd.underlying23 hi hz0 hz1 hz2 rfl _ _ _ rfl (World.ownsRow_nil _ _ _ _) _ _ _ _ rfl p2 HO1.out ?c3 ?c4 ?c5 ?_)
      case c3 => unfold maxLen; omega
      case c4 => omega
      intro v5 w5 ho5 hb5
      have q5 := own_below q2 hb5
      have hsz5 := hb5.size
      go_wp2_with (at_builtin; refine wpList_append_rows rfl _ _ 23 rfl w4.heap.size 39 i0 (.slice none 0 0) 24 Tryd.underlying23 hi hz0 hz1 hz2 rfl _ _ _ rfl ho5 _ _ _ _ rfl q5 HO2.out ?d3 ?d4 ?d5 ?_)
      case d3 => unfold maxLen; omega
      case d4 => omega
      case d5 => exact hsz5
      intro v6 w6 ho6 hb6
      have hb46 := hb5.trans hb6
      have hg6 := grid_two p1 P3.out Q3.out hb46 ho6
      have hc6 : GridAt w6 (.slice a3 (G1.length + G2.length) c3) (G1 ++ G2) := by rw [← List.length_append]; exact hg4.below hb46
      go_wp2_with (go_at_call 13; refine (same_any _ _ (G1 ++ G2) w6 hc6 hg6).mono ?_; rintro e w7 ⟨rfl, hd7⟩; have hb7 := hd7.below)
      go_ret
      refine ⟨rfl, ?_⟩
      have s1 := hb1.size
      have s2 := hb2.size
      have s3 := hb3.size
      have s4 := hb4.size
      have s6 := hb46.size
      exact ((((hb1.trans (hb2.mono (by omega))).trans (hb3.mono (by omega))).trans (hb4.mono (by omega))).trans (hb46.mono (by omega))).trans (hb7.mono (by omega))

theorem len_cat {s t : ByteArray} (hs : s.size ≤ 3000) (ht : t.size ≤ 3000) : (s.data.toList ++ 10 :: t.data.toList).length ≤ 20000 := by
  rw [List.length_append, List.length_cons, len_size, len_size]; omega
theorem two_walk (s t : ByteArray) (hmax : s.size ≤ maxLen) (hmax' : t.size ≤ maxLen) (w : World) (hm : HasM w) :
    Calls Tryd.prog 9 #[.string s, .string t] w fun e w' => e = .returned (.bool true) ∧ Below w.heap.size w w' := by
  by_cases hbig : 3000 < s.size ∨ 3000 < t.size
  · exact two_big s t w hbig hmax hmax' hm
  · have hs : s.size ≤ 3000 := by omega
    have ht : t.size ≤ 3000 := by omega
    have hcl := cat_list s t
    have hlen := len_cat hs ht
    have hcm : (s ++ ⟨#[10]⟩ ++ t).size ≤ maxLen := by rw [cat_size]; unfold maxLen; omega
    rcases linesL_cases s.data.toList (by rw [len_size]; omega) with ⟨h1, h2⟩ | ⟨k, l, h1, h2, h3, h4⟩
    · rcases linesL_cases t.data.toList (by rw [len_size]; omega) with ⟨g1, g2⟩ | ⟨k, l, g1, g2, g3, g4⟩
      · have l1 := goodL_len (splitL 10 s.data.toList)
        have l2 := goodL_len (splitL 10 t.data.toList)
        rw [splitL_length] at l1 l2
        have c1 := List.count_le_length (a := 10) (l := s.data.toList)
        have c2 := List.count_le_length (a := 10) (l := t.data.toList)
        rw [len_size] at c1 c2
        exact two_both s t _ _ w hs ht hm (by omega) (by omega) (Lib.hid fun w hm => lines_own s _ w hmax hm h1) (Lib.hid fun w hm => lines_own t _ w hmax' hm g1)
          (Lib.hid fun w hm => lines_ok _ _ w hcm hm (by rw [hcl]; exact two_ok hlen h2 g2))
      · have hk : k < (splitL 10 t.data.toList).length := (List.getElem?_eq_some_iff.1 g2).1
        rw [splitL_length] at hk
        have c2 := List.count_le_length (a := 10) (l := t.data.toList)
        rw [len_size] at c2
        exact two_e2 s t (k + 1) _ _ w hs ht hm rfl (by omega) (Lib.hid fun w hm => lines_ok s _ w hmax hm h1) (Lib.hid fun w hm => lines_err t _ w hmax' hm g1)
          (Lib.hid fun w hm => lines_err _ _ w hcm hm (by rw [hcl]; exact two_err2 hlen h2 g2 g3 g4))
    · exact two_e1 s t (k + 1) w hs ht hm (Lib.hid fun w hm => lines_err s _ w hmax hm h1) (Lib.hid fun w hm => lines_any t w hmax' hm)
        (Lib.hid fun w hm => lines_err _ _ w hcm hm (by rw [hcl]; exact two_err1 hlen h2 h3 h4))
end Go.Proofs.YtpecigjdellpaaaDoor
