/-
  The contract of Few; what it means of a program that may be printed.
-/
import Derived.Test.YtgmpggjikebcdaaGreatDoorCAlive
namespace Go.Proofs.YtgmpggjikebcdaaGreatDoor
open Go.RowKit

theorem w64 (n : Int) (h : -9223372036854775808 ≤ n ∧ n ≤ 9223372036854775807) : wrap64 n = n := by unfold wrap64; omega
/-- The sum as the machine has it. -/
def wsum (x : Int) : List Bs → Int
  | [] => x
  | t :: r => wsum (wrap64 (x + wrap64 ((t.length : Int) + 1))) r
def fewP (p : PProg) : Bool := decide (wsum (wrap64 ((p.locals.length : Int) + p.globs.length)) p.types ≤ 500) && decide (p.code.length ≤ 210)
theorem wsum_snoc (x : Int) (ts : List Bs) (t : Bs) : wsum x (ts ++ [t]) = wrap64 (wsum x ts + wrap64 ((t.length : Int) + 1)) := by
  induction ts generalizing x with
  | nil => rfl
  | cons a r ih => exact ih _

set_option maxRecDepth 100000 in
set_option maxHeartbeats 1000000 in
theorem few_any (v : Value) (p : PProg) (w : World) (h : ProgAt w v p) (hs : OkP p) : Calls Tryz.prog 6 #[v] w (AggPost w (.bool (fewP p))) := by
  obtain ⟨vt, vc, rfl, ht, hc⟩ := h
  have hwb : Below w.heap.size w (w.alloc (.cells (progC vt p vc) 25)) := (Below.refl _ _).alloc (Nat.le_refl _) _
  obtain ⟨a, c, rfl, h1, h2, h3⟩ := (ht.below hwb).elems
  obtain ⟨a', c', rfl, g1, g2, g3⟩ := hc.below hwb
  have HT := Lib.hid h3
  have HP := Lib.hid hs
  have hlo := hs.lo
  have hgl := hs.gl
  clear h3 g3 hs ht hc
  unfold maxLen at h2 g2 hlo hgl
  go_enter Tryz.func6, Tryz.ntmps6
  go_wp2
  go_loop [3, 16] (fun v i => ∃ k : Nat, k ≤ p.types.length ∧ i = .int .i64 k ∧ v = .int .i64 (wsum (wrap64 ((p.locals.length : Int) + p.globs.length)) (p.types.take k))) (fun _ i => p.types.length - (intOf i).toNat)
  case atStart => exact ⟨0, Nat.zero_le _, rfl, rfl⟩
  case round =>
    obtain ⟨k, hk, rfl, rfl⟩ := hrel
    by_cases hlt : k < p.types.length
    · obtain ⟨t, hx⟩ : ∃ t, p.types[k]? = some t := ⟨_, List.getElem?_eq_getElem hlt⟩
      obtain ⟨b, o, rfl, hb, hcell⟩ := HT.out k t hx
      have hl := HP.out.ty t (List.mem_of_getElem? hx)
      have hn : wsum (wrap64 ((p.locals.length : Int) + p.globs.length)) (p.types.take (k + 1)) = wrap64 (wsum (wrap64 ((p.locals.length : Int) + p.globs.length)) (p.types.take k) + wrap64 ((t.length : Int) + 1)) := by
        obtain ⟨h1, rfl⟩ := List.getElem?_eq_some_iff.1 hx
        rw [List.take_succ_eq_append_getElem h1, wsum_snoc]
      have HN := Lib.hid hn
      clear hn hx
      generalize wsum (wrap64 ((p.locals.length : Int) + p.globs.length)) (p.types.take k) = z at *
      unfold maxLen at hl
      go_wp2
      go_round
      case rel => exact ⟨k + 1, by omega, by go_num, by rw [HN.out]⟩
      case measure => simp [intOf]; omega
    · obtain rfl : k = p.types.length := by omega
      rw [List.take_length]
      have HF : Hid (fewP p = (decide (wsum (wrap64 ((p.locals.length : Int) + p.globs.length)) p.types ≤ 500) && decide (p.code.length ≤ 210))) := Lib.hid rfl
      generalize wsum (wrap64 ((p.locals.length : Int) + p.globs.length)) p.types = z at *
      by_cases hz : z ≤ 500
      · by_cases hc : p.code.length ≤ 210
        · go_wp2
          go_ret
          exact ⟨ret_bool (by rw [HF.out]; simp [hz]; omega), hwb⟩
        · go_wp2
          go_ret
          exact ⟨ret_bool (by rw [HF.out]; simp [hz]; omega), hwb⟩
      · go_wp2
        go_ret
        exact ⟨ret_bool (by rw [HF.out, decide_eq_false (by omega)]; rfl), hwb⟩
theorem few_b (v : Value) (p : PProg) (b : Bool) (w : World) (h : ProgAt w v p) (hs : OkP p) (hb : fewP p = b) : Calls Tryz.prog 6 #[v] w (AggPost w (.bool b)) := by
  subst hb; exact few_any v p w h hs

/-! ### A program that may be printed, and is small -/
def sumT (ts : List Bs) : Nat := (ts.map fun t => t.length + 1).sum
theorem sumT_cons (t : Bs) (r : List Bs) : sumT (t :: r) = t.length + 1 + sumT r := by simp [sumT]
theorem wsum_sum : ∀ (ts : List Bs) (x : Nat), (∀ t ∈ ts, t.length ≤ 30) → x + 31 * ts.length ≤ 9223372036854775807 → wsum (x : Int) ts = (x + sumT ts : Nat)
  | [], x, _, _ => by simp [wsum, sumT]
  | t :: r, x, h, hx => by
    have ht := h t (by simp)
    simp only [List.length_cons] at hx
    unfold wsum
    rw [w64 ((t.length : Int) + 1) (by omega), w64 _ (by omega)]
    have := wsum_sum r (x + (t.length + 1)) (fun y hy => h y (by simp [hy])) (by omega)
    rw [show (x : Int) + ((t.length : Int) + 1) = ((x + (t.length + 1) : Nat) : Int) by omega, this, sumT_cons]
    omega
theorem areL_len {s : Bs} (h : areL s = true) : s.length ≤ 30 := by
  unfold areL at h
  exact of_decide_eq_true (Bool.and_eq_true_iff.1 h).1
theorem typeL_parts {t : Bs} (h : typeL t = true) : t ≠ [] ∧ areL t = true := by
  unfold typeL at h
  simp only [Bool.and_eq_true, Bool.not_eq_true'] at h
  exact ⟨by intro e; subst e; simp at h, h.2⟩
theorem mayP_all {p : PProg} (h : mayP p = true) : (∀ t ∈ p.types, t ≠ [] ∧ areL t = true) ∧ areL p.locals = true ∧ areL p.globs = true ∧ p.code.length ≤ 200 ∧ ∀ i ∈ p.code, rightL i = true := by
  unfold mayP at h
  simp only [Bool.and_eq_true, decide_eq_true_eq] at h
  exact ⟨fun t ht => typeL_parts (List.all_eq_true.1 h.1.1 t ht), h.1.2.1.1, h.1.2.1.2, h.1.2.2, List.all_eq_true.1 h.2⟩
/-- What 'few' says of a program that may be printed. -/
theorem few_sum {p : PProg} (h : mayP p = true) (hf : fewP p = true) (hlen : p.types.length ≤ 8796093022208) : p.locals.length + p.globs.length + sumT p.types ≤ 500 := by
  obtain ⟨h1, h2, h3, _, _⟩ := mayP_all h
  have hl := areL_len h2
  have hg := areL_len h3
  unfold fewP at hf
  simp only [Bool.and_eq_true, decide_eq_true_eq] at hf
  have := hf.1
  rw [w64 _ (by omega), show (p.locals.length : Int) + p.globs.length = ((p.locals.length + p.globs.length : Nat) : Int) by omega, wsum_sum p.types _ (fun t ht => areL_len (h1 t ht).2) (by omega)] at this
  omega
theorem sumT_len (ts : List Bs) : ts.length ≤ sumT ts := by
  induction ts with
  | nil => simp
  | cons t r ih => rw [sumT_cons, List.length_cons]; omega
theorem sumT_two {ts : List Bs} (h : ∀ t ∈ ts, t ≠ []) : 2 * ts.length ≤ sumT ts := by
  induction ts with
  | nil => simp
  | cons t r ih =>
    have h1 := ih (fun y hy => h y (by simp [hy]))
    have h2 : 1 ≤ t.length := by
      have := h t (by simp)
      rcases t with _ | _
      · exact absurd rfl this
      · simp
    rw [sumT_cons, List.length_cons]; omega

/-! ### How long the text is -/
theorem itoa_len {v : Int} (h0 : -9223372036854775808 ≤ v) (h1 : v ≤ 9223372036854775807) : (Lib.itoa v).length ≤ 20 := by
  have h := num_itoa v h0 h1
  have hd := h.2
  rcases Nat.lt_or_ge 19 (trimL (Lib.itoa v)).length with hl | hl
  · have := num_long hd hl
    rw [h.1] at this
    exact absurd (Prod.mk.inj this).2 (by decide)
  · have : (Lib.itoa v).length ≤ (trimL (Lib.itoa v)).length + 1 := by
      unfold trimL
      cases Lib.itoa v with
      | nil => simp
      | cons c r => simp only; split <;> simp
    omega
theorem joinL_app (a b : List (List Bs)) : joinL (a ++ b) = joinL a ++ joinL b := by unfold joinL; simp
theorem join_le (x : List Bs) (hx : x ≠ []) : (Lib.join x [32] ++ [10]).length ≤ lens1 x := by
  have := join_len x
  have h1 : 1 ≤ lens1 x := by
    rcases x with _ | ⟨a, r⟩
    · exact absurd rfl hx
    · rw [lens1_cons]; omega
  rw [List.length_append]
  simp; omega
theorem joinL_one (x : List Bs) : joinL [x] = Lib.join x [32] ++ [10] := by simp [joinL]
theorem joinL_cons' (x : List Bs) (G : List (List Bs)) : joinL (x :: G) = (Lib.join x [32] ++ [10]) ++ joinL G := by simp [joinL]
theorem ty_len : ∀ ts : List Bs, (joinL (ts.map fun t => [kType, t])).length ≤ sumT ts + 5 * ts.length
  | [] => by simp [joinL]
  | t :: r => by
    have ih := ty_len r
    have h1 := join_le [kType, t] (by simp)
    rw [lens1_cons, lens1_cons] at h1
    rw [List.map_cons, joinL_cons', List.length_append, sumT_cons, List.length_cons]
    have e : kType.length = 4 := rfl
    have e2 : lens1 [] = 0 := rfl
    omega
theorem words_le {i : PIns} (ho : OkI i) (h : rightL i = true) : lens1 (wordsI i) ≤ 70 := by
  unfold rightL at h
  rcases hb : byOpL i.op with _ | o
  · rw [hb] at h; cases h
  · obtain ⟨_, _, _, _, hm, _, _, _, hh⟩ := ops_cases (byOp_mem hb).1
    have hnm : o.2.1.length ≤ 6 := by
      have := (byOp_mem hb).1
      simp only [OPS, List.mem_cons, List.not_mem_nil, or_false] at this
      rcases this with rfl | rfl | rfl | rfl | rfl | rfl | rfl | rfl | rfl | rfl | rfl | rfl | rfl | rfl | rfl <;> decide
    unfold wordsI
    rw [hb]
    simp only
    obtain ⟨x, a, b, c, n⟩ := i
    obtain ⟨o0, o1, a0, a1, b0, b1, c0, c1, n0, n1⟩ := ho
    simp only at *
    have fa : (Lib.itoa a).length ≤ 20 := itoa_len (by omega) (by omega)
    have fb : (Lib.itoa b).length ≤ 20 := itoa_len (by omega) (by omega)
    have fc : (Lib.itoa c).length ≤ 20 := itoa_len (by omega) (by omega)
    have fn : (Lib.itoa n).length ≤ 20 := itoa_len n0 n1
    simp only [List.mem_cons, List.not_mem_nil, or_false] at hh
    have e2 : lens1 [] = 0 := rfl
    rcases hh with hh | hh | hh | hh | hh | hh | hh <;> (rw [hh]; simp [lens1_cons, partL, e2]; omega)
theorem code_len2 : ∀ c : List PIns, (∀ i ∈ c, OkI i) → (∀ i ∈ c, rightL i = true) → (joinL (c.map wordsI)).length ≤ 70 * c.length
  | [], _, _ => by simp [joinL]
  | i :: r, h1, h2 => by
    have ih := code_len2 r (fun j hj => h1 j (by simp [hj])) (fun j hj => h2 j (by simp [hj]))
    have hw := words_le (h1 i (by simp)) (h2 i (by simp))
    have h3 := join_le (wordsI i) (by unfold wordsI; split <;> simp)
    rw [List.map_cons, joinL_cons', List.length_append, List.length_cons]
    omega
theorem orL_len (s : Bs) : (orL s).length ≤ s.length + 1 := by unfold orL; split <;> simp
theorem text_len {p : PProg} (hs : OkP p) (h : mayP p = true) : (joinL (linesP p)).length ≤ sumT p.types + 5 * p.types.length + (p.locals.length + p.globs.length + 19) + 70 * p.code.length := by
  obtain ⟨_, _, _, _, h5⟩ := mayP_all h
  unfold linesP
  rw [joinL_app, joinL_app, List.length_append, List.length_append, joinL_cons', joinL_one, List.length_append]
  have h1 := ty_len p.types
  have h2 := code_len2 p.code hs.ins h5
  have h3 := join_le [kLocals, orL p.locals] (by simp)
  have h4 := join_le [kGlobals, orL p.globs] (by simp)
  rw [lens1_cons, lens1_cons] at h3 h4
  have e : kLocals.length = 6 := rfl
  have e3 : kGlobals.length = 7 := rfl
  have e2 : lens1 [] = 0 := rfl
  have := orL_len p.locals
  have := orL_len p.globs
  omega
/-- A small program's text is short. -/
theorem text_short {p : PProg} (hs : OkP p) (h : mayP p = true) (hf : fewP p = true) (hlen : p.types.length ≤ 8796093022208) : (joinL (linesP p)).length ≤ 20000 ∧ p.types.length ≤ 250 := by
  have h1 := few_sum h hf hlen
  obtain ⟨h2, _, _, h4, _⟩ := mayP_all h
  have h3 := sumT_two (fun t ht => (h2 t ht).1)
  have := text_len hs h
  omega
end Go.Proofs.YtgmpggjikebcdaaGreatDoor
