/-
  Appends of instructions, and of texts, to rows of the call's own.
-/
import Derived.Test.YtjkpbajojgdooaaDoorBRB
import Derived.Laws.AppendOwnNone
import Derived.BigFrame
namespace Go.Proofs.YtjkpbajojgdooaaDoor
set_option linter.unusedSimpArgs false
set_option linter.unusedVariables false
open Go.RowKit

theorem plain_addr {b off i : Nat} : (⟨b, off, none⟩ : Addr).add i = ⟨b, off + i, none⟩ := by
  unfold Addr.add
  by_cases h : i = 0 <;> simp [h]
theorem codeCells_app (is js : List PIns) : codeCells (is ++ js) = codeCells is ++ codeCells js := by unfold codeCells; simp
theorem flat_inv : ∀ (is : List PIns) (j : Nat) (u : Value), (codeCells is)[j]? = some u → ∃ i, is[j / 5]? = some i ∧ (insC i).toList[j % 5]? = some u
  | [], j, u, h => by simp [codeCells] at h
  | a :: r, j, u, h => by
    unfold codeCells at h
    rw [List.flatMap_cons] at h
    have hl : (insC a).toList.length = 5 := rfl
    by_cases hj : j < 5
    · rw [List.getElem?_append_left (by rw [hl]; exact hj)] at h
      exact ⟨a, by rw [Nat.div_eq_of_lt hj]; rfl, by rw [Nat.mod_eq_of_lt hj]; exact h⟩
    · rw [List.getElem?_append_right (by rw [hl]; omega), hl] at h
      obtain ⟨i, h1, h2⟩ := flat_inv r (j - 5) u h
      refine ⟨i, ?_, ?_⟩
      · rw [show j / 5 = (j - 5) / 5 + 1 by omega]; simpa using h1
      · rw [show j % 5 = (j - 5) % 5 by omega]; exact h2
theorem codeCells_one (is : List PIns) : ∀ u ∈ codeCells is, u.oneCell' = true := by
  intro u hu
  obtain ⟨j, hj⟩ := List.getElem?_of_mem hu
  obtain ⟨i, _, h2⟩ := flat_inv is j u hj
  have := List.mem_of_getElem? h2
  simp at this
  rcases this with rfl | rfl | rfl | rfl | rfl <;> rfl
abbrev zeroC : Array Value := #[.int .u8 0, .int .u8 0, .int .u8 0, .int .u8 0, .int .i64 0]
theorem infoI : (Tryd.prog.info? 45).map (fun i => (i.zero, i.size, i.bytes)) = some (some (.agg zeroC), 5, 16) := by kernel_rfl
/-- A slice that is nil, or has an address. -/
def FormS (u : Value) : Prop := u = .slice none 0 0 ∨ ∃ ad n c, u = .slice (some ad) n c
/-- 'append(is, js...)': is a row of the call's own, js wherever it lies. -/
theorem wpList_append_ins {w : World} {ops : Array Oper} {rest : List Oper} {o : Oper} {a : Act} {Q : Exit → Act → World → Prop} (hw : Region.wanted o (yielded ops a.tmps) = true) (s x : Operand)
    (ho : o.op = .call { callee := .builtin .append, args := #[s, x], argTypes := #[23, 23] }) (base : Nat) (v : Value) (is js : List PIns) (hs : a.eval s = v) (hown : w.ownsRow base 45 5 v is.length (codeCells is))
    (u : Value) (hx : a.eval x = u) (hsrc : InsRow w u js) (hform : FormS u) (h63 : is.length + js.length ≤ 1000000) (hbase : base ≤ w.heap.size)
    (h : ∀ v' w', w'.ownsRow base 45 5 v' (is ++ js).length (codeCells (is ++ js)) → Below base w w' → wpList Tryd.prog ops Q rest (a.put o.dst v') w') : wpList Tryd.prog ops Q (o :: rest) a w := by
  obtain ⟨i0, hi, hz0, hz1, hz2⟩ := info_parts infoI
  rcases hform with rfl | ⟨ad, n, c, rfl⟩
  · obtain ⟨a0, c0, e, _, _, _⟩ := hsrc
    simp only [Value.slice.injEq] at e
    have hn : js = [] := List.length_eq_zero_iff.1 e.2.1.symm
    subst hn
    refine BigFrame.wpList_want hw fun K hK => ?_
    have hrun := run_append_owned_none (P := Tryd.prog) (w := w) base 23 o.type 45 i0 5 Tryd.underlying23 hi v is.length (codeCells is) hown
    unfold Oper.wp
    simp [execOp, ho, resolve, invoke, builtin, hs, hx, hrun, Result.andThen]
    exact hK _ _ (h v w (by simpa using hown) (Below.refl _ _))
  · obtain ⟨a0, c0, e, _, _, hc⟩ := hsrc
    simp only [Value.slice.injEq] at e
    obtain ⟨rfl, rfl, rfl⟩ := e
    refine BigFrame.wpList_want hw fun K hK => wp_append_own w s x 23 ho base 45 i0 (.agg zeroC) 5 16 Tryd.underlying23 hi hz0 hz1 hz2 rfl (by decide) v is.length (codeCells is) hs hown ad js.length c (codeCells js) hx (codeCells_len js) ?_ (codeCells_one js) (by unfold maxLen; omega) (by omega) hbase ?_
    · intro j y hy
      obtain ⟨i, h1, h2⟩ := flat_inv js j y hy
      obtain ⟨b, off, e1, _, hr⟩ := hc (j / 5) i h1
      obtain rfl := Option.some.inj e1
      rw [plain_addr]
      have := hr (j % 5) y h2
      rw [show off + j / 5 * 5 + j % 5 = off + j by omega] at this
      exact this
    · intro v' w' h1 h2 _
      refine hK _ _ (h v' w' (by rw [List.length_append, codeCells_app]; exact h1) ?_)
      exact (Below.refl base w).grown h2 hbase (fun g hg => (hown.lt g hg).1)
end Go.Proofs.YtjkpbajojgdooaaDoor
