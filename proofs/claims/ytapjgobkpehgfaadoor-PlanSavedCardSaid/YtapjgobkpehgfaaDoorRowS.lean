/-
  Rows of structs of whatever cells: as they lie, in memory of the call's own, and as they grow.
-/
import Derived.Test.YtapjgobkpehgfaaDoorUAE
namespace Go.Proofs.YtapjgobkpehgfaaDoor
set_option linter.unusedSimpArgs false
set_option linter.unusedVariables false
open Go.RowKit

section
variable {α : Type} (c : α → List Value) (n : Nat)
/-- A slice of structs, wherever it lies: each one's n cells one behind the other. -/
def RowS (w : World) (v : Value) (l : List α) : Prop :=
  ∃ a cap, v = .slice a l.length cap ∧ l.length ≤ cap ∧ cap ≤ maxLen ∧ ∀ j x, l[j]? = some x → ∃ b o, a = some ⟨b, o, none⟩ ∧ b < w.heap.size ∧ w.rangeAt b (o + j * n) (c x)
def cellsS (l : List α) : List Value := l.flatMap c
end
section
variable {α : Type} {c : α → List Value} {n : Nat}
theorem RowS.below {w w' : World} {v : Value} {l : List α} (h : RowS c n w v l) (hb : Below w.heap.size w w') : RowS c n w' v l := by
  obtain ⟨a, cap, rfl, h1, h2, h3⟩ := h
  refine ⟨a, cap, rfl, h1, h2, fun j x hj => ?_⟩
  obtain ⟨b, o, rfl, hlt, hr⟩ := h3 j x hj
  exact ⟨b, o, rfl, Nat.lt_of_lt_of_le hlt hb.size, rangeAt_below hr hlt hb⟩
theorem RowS.form {w : World} {v : Value} {l : List α} (h : RowS c n w v l) : ∃ a cap, v = .slice a l.length cap ∧ l.length ≤ cap ∧ cap ≤ 9223372036854775807 := by
  obtain ⟨a, cap, rfl, h1, h2, -⟩ := h
  unfold maxLen at h2
  exact ⟨a, cap, rfl, h1, by omega⟩
/-- One of them. -/
theorem RowS.at' {w : World} {a : Option Addr} {m cap : Nat} {l : List α} (h : RowS c n w (.slice a m cap) l) {k : Nat} {x : α} (hk : l[k]? = some x) : ∃ b o, a = some ⟨b, o, none⟩ ∧ b < w.heap.size ∧ w.rangeAt b (o + k * n) (c x) := by
  obtain ⟨a', cap', e, -, -, h3⟩ := h
  simp only [Value.slice.injEq] at e
  obtain ⟨rfl, -, -⟩ := e
  exact h3 k x hk
theorem rowS_nil (w : World) : RowS c n w (.slice none 0 0) ([] : List α) := ⟨none, 0, rfl, Nat.le_refl _, Nat.zero_le _, fun j x hj => by simp at hj⟩
theorem RowS.take {w : World} {a : Option Addr} {m k cap : Nat} {l : List α} (h : RowS c n w (.slice a m cap) l) (hk : k ≤ l.length) : RowS c n w (.slice a k cap) (l.take k) := by
  obtain ⟨a', cap', e, h1, h2, h3⟩ := h
  simp only [Value.slice.injEq] at e
  obtain ⟨rfl, -, rfl⟩ := e
  refine ⟨a, cap, by rw [List.length_take, Nat.min_eq_left hk], by rw [List.length_take]; omega, h2, fun j x hj => h3 j x ?_⟩
  rw [List.getElem?_take] at hj
  split at hj
  · exact hj
  · cases hj
theorem cellsS_app (l m : List α) : cellsS c (l ++ m) = cellsS c l ++ cellsS c m := by unfold cellsS; simp
theorem cellsS_len (hc : ∀ x, (c x).length = n) (l : List α) : (cellsS c l).length = l.length * n := by
  induction l with
  | nil => simp [cellsS]
  | cons a r ih =>
    unfold cellsS at ih ⊢
    rw [List.flatMap_cons, List.length_append, ih, hc, List.length_cons, Nat.add_mul]
    omega
theorem cellsS_get (hc : ∀ x, (c x).length = n) : ∀ (l : List α) (j : Nat) (x : α) (t : Nat) (v : Value), l[j]? = some x → (c x)[t]? = some v → (cellsS c l)[j * n + t]? = some v
  | [], _, _, _, _, h, _ => by simp at h
  | a :: r, 0, x, t, v, h, hv => by
    simp at h; subst h
    unfold cellsS; rw [List.flatMap_cons, Nat.zero_mul, Nat.zero_add]
    rw [List.getElem?_append_left (List.getElem?_eq_some_iff.1 hv).1]; exact hv
  | a :: r, j + 1, x, t, v, h, hv => by
    have ih := cellsS_get hc r j x t v (by simpa using h) hv
    unfold cellsS at ih ⊢
    have e : (j + 1) * n + t = n + (j * n + t) := by rw [Nat.add_mul]; omega
    rw [List.flatMap_cons, e, List.getElem?_append_right (by rw [hc]; omega), hc, Nat.add_sub_cancel_left]
    exact ih
theorem cellsS_inv (hc : ∀ x, (c x).length = n) : ∀ (l : List α) (j : Nat) (u : Value), (cellsS c l)[j]? = some u → ∃ x, l[j / n]? = some x ∧ (c x)[j % n]? = some u
  | [], j, u, h => by simp [cellsS] at h
  | a :: r, j, u, h => by
    unfold cellsS at h
    rw [List.flatMap_cons] at h
    by_cases hj : j < n
    · rw [List.getElem?_append_left (by rw [hc]; exact hj)] at h
      exact ⟨a, by rw [Nat.div_eq_of_lt hj]; rfl, by rw [Nat.mod_eq_of_lt hj]; exact h⟩
    · rw [List.getElem?_append_right (by rw [hc]; omega), hc] at h
      obtain ⟨x, h1, h2⟩ := cellsS_inv hc r (j - n) u h
      have hn : 0 < n := by
        rcases Nat.eq_zero_or_pos n with h0 | h0
        · subst h0
          have := List.length_eq_zero_iff.1 (hc x)
          rw [this] at h2; simp at h2
        · exact h0
      refine ⟨x, ?_, ?_⟩
      · rw [Nat.div_eq_sub_div hn (by omega)]; simpa using h1
      · rw [Nat.mod_eq_sub_mod (by omega)]; exact h2
/-- In memory of the call's own. -/
theorem rowS_own {w : World} {B : Nat} {e : TypeId} {v : Value} {l : List α} (hc : ∀ x, (c x).length = n) (h : w.ownsRow B e n v l.length (cellsS c l)) : RowS c n w v l := by
  rcases h.2 with ⟨rfl, h0⟩ | ⟨g, cap, cur, rfl, hB, hg, h1, h2, h3, h4⟩
  · have : l = [] := List.length_eq_zero_iff.1 h0
    subst this
    exact rowS_nil w
  · refine ⟨some ⟨g, 0, none⟩, cap, rfl, h1, h2, fun j x hj => ⟨g, 0, rfl, (Array.getElem?_eq_some_iff.1 hg).1, fun t v hv => ?_⟩⟩
    have := cellsS_get hc l j x t v hj hv
    rw [← h4, List.getElem?_take] at this
    have hx : cur.toList[j * n + t]? = some v := by
      split at this
      · exact this
      · cases this
    simp only [World.cell?, hg, Nat.zero_add]
    simpa using hx
/-- In a block of its own. -/
theorem rowS_blk {w : World} {g : Nat} {cs : Array Value} {t : TypeId} {l : List α} (hc : ∀ x, (c x).length = n) (h : blk w g cs t) (he : cs.toList = cellsS c l) (hl : l.length ≤ maxLen) : RowS c n w (.slice (some ⟨g, 0, none⟩) l.length l.length) l := by
  refine ⟨some ⟨g, 0, none⟩, l.length, rfl, Nat.le_refl _, hl, fun j x hj => ⟨g, 0, rfl, blk_lt h, fun t v hv => ?_⟩⟩
  have := cellsS_get hc l j x t v hj hv
  rw [← he] at this
  rw [Nat.zero_add]
  exact blk_cell h _ v (by simpa using this)
theorem cellsS_all (h1 : ∀ x, ∀ u ∈ c x, u.oneCell' = true) (l : List α) : ∀ u ∈ cellsS c l, u.oneCell' = true := fun u hu => by
  unfold cellsS at hu
  obtain ⟨x, _, hx⟩ := List.mem_flatMap.1 hu
  exact h1 x u hx
/-- An append to a row of the call's own: its run. -/
theorem appendS_run {w : World} {T e : TypeId} {z : Value} {bytes : Nat} (hT : Tryd.prog.underlying T = some (.slice e)) (hi : ∃ i, Tryd.prog.info? e = some i ∧ i.zero = some z ∧ i.size = n ∧ i.bytes = bytes) (hz : z.cells.size = n) (hn : 0 < n) (hb : bytes ≤ 1000)
    (hc : ∀ x, (c x).length = n) (h1 : ∀ x, ∀ u ∈ c x, u.oneCell' = true) (base : Nat) (v : Value) (l js : List α) (hown : w.ownsRow base e n v l.length (cellsS c l)) (ad : Addr) (cap : Nat) (hsrc : RowS c n w (.slice (some ad) js.length cap) js) (h63 : l.length + js.length ≤ 1000000) (hbase : base ≤ w.heap.size) (ty : TypeId) :
    ∃ v' w', (Builtin.append_ #[T, T] ty #[v, .slice (some ad) js.length cap]).run Tryd.prog w = .ok v' w' ∧ w'.ownsRow base e n v' (l ++ js).length (cellsS c (l ++ js)) ∧ Below base w w' := by
  obtain ⟨i0, q1, q2, q3, q4⟩ := hi
  have hby : (l.length + js.length) * bytes ≤ 140737488355328 := by
    have : (l.length + js.length) * bytes ≤ 1000000 * 1000 := Nat.mul_le_mul h63 hb
    omega
  obtain ⟨v', w', hr, h2, h3, -⟩ := run_append_own (P := Tryd.prog) w base T ty e i0 z n bytes hT q1 q2 q3 q4 hz hn v l.length (cellsS c l) hown ad js.length cap (cellsS c js) (cellsS_len hc js) (fun j y hy => by
    obtain ⟨x, k1, k2⟩ := cellsS_inv hc js j y hy
    obtain ⟨b, off, e1, _, hr⟩ := hsrc.at' k1
    obtain rfl := Option.some.inj e1
    rw [plain_addr]
    have := hr (j % n) y k2
    rw [show off + j / n * n + j % n = off + j by rw [Nat.add_assoc, Nat.mul_comm, Nat.div_add_mod]] at this
    exact this) (cellsS_all h1 js) (by unfold maxLen; omega) hby hbase
  exact ⟨v', w', hr, by rw [List.length_append, cellsS_app]; exact h2, (Below.refl base w).grown h3 hbase (fun g hg => (hown.lt g hg).1)⟩
/-- 'append(l, js...)': l is a row of the call's own, js wherever it lies. -/
theorem wpList_appendS {w : World} {ops : Array Oper} {rest : List Oper} {o : Oper} {a : Act} {Q : Exit → Act → World → Prop} (hw : Region.wanted o (yielded ops a.tmps) = true) (s x : Operand) {T e : TypeId}
    (ho : o.op = .call { callee := .builtin .append, args := #[s, x], argTypes := #[T, T] }) {z : Value} {bytes : Nat} (hT : Tryd.prog.underlying T = some (.slice e)) (hi : ∃ i, Tryd.prog.info? e = some i ∧ i.zero = some z ∧ i.size = n ∧ i.bytes = bytes) (hz : z.cells.size = n) (hn : 0 < n) (hb : bytes ≤ 1000)
    (hc : ∀ x, (c x).length = n) (h1 : ∀ x, ∀ u ∈ c x, u.oneCell' = true) (base : Nat) (v : Value) (l js : List α) (hs : a.eval s = v) (hown : w.ownsRow base e n v l.length (cellsS c l)) (u : Value) (hx : a.eval x = u) (hsrc : RowS c n w u js) (hform : FormS u) (h63 : l.length + js.length ≤ 1000000) (hbase : base ≤ w.heap.size)
    (h : ∀ v' w', w'.ownsRow base e n v' (l ++ js).length (cellsS c (l ++ js)) → Below base w w' → wpList Tryd.prog ops Q rest (a.put o.dst v') w') : wpList Tryd.prog ops Q (o :: rest) a w := by
  rcases hform with rfl | ⟨ad, m, cp, rfl⟩
  · obtain ⟨a0, c0, e0, _, _, _⟩ := hsrc
    simp only [Value.slice.injEq] at e0
    have hn0 : js = [] := List.length_eq_zero_iff.1 e0.2.1.symm
    subst hn0
    obtain ⟨i0, q1, q2, q3, q4⟩ := hi
    refine BigFrame.wpList_want hw fun K hK => ?_
    have hrun := run_append_owned_none (P := Tryd.prog) (w := w) base T o.type e i0 n hT q1 v l.length (cellsS c l) hown
    unfold Oper.wp
    simp [execOp, ho, resolve, invoke, builtin, hs, hx, hrun, Result.andThen]
    exact hK _ _ (h v w (by simpa using hown) (Below.refl _ _))
  · have hm : m = js.length := by
      obtain ⟨a0, c0, e0, _, _, _⟩ := hsrc
      simp only [Value.slice.injEq] at e0
      exact e0.2.1
    subst hm
    obtain ⟨v', w', hr, h2, h3⟩ := appendS_run hT hi hz hn hb hc h1 base v l js hown ad cp hsrc h63 hbase o.type
    refine BigFrame.wpList_want hw fun K hK => ?_
    unfold Oper.wp execOp
    simp only [ho, resolve, invoke, builtin, Sem.run_bind, Sem.run_pure, Result.andThen_ok, List.map_toArray, List.map_cons, List.map_nil, hs, hx, hr]
    exact hK _ _ (h v' w' h2 h3)
end
end Go.Proofs.YtapjgobkpehgfaaDoor
