/-
  Junk in the pointer locals that a step doesn't use.
-/
import Derived.Test.YtijgpfimdlnkiaaDoorVPure4
namespace Go.Proofs.YtijgpfimdlnkiaaDoor
set_option linter.unusedSimpArgs false
set_option linter.unusedVariables false

section
variable {q : PProg} {s : PSt} {ts : List Nat} {n : Nat} {i : PIns}
/-- A step of a state, and of the same with junk in what it doesn't use. -/
theorem step_junk (hc : (checkL q).2 = 0) (hok : ∀ i ∈ q.code, OkI i) (hn : n < 1000000) (hr : RunOk q s ts n) (hi : q.code[s.pc]? = some i) {tp : List Int} (ht : tp.length = 8) (ha : ∀ a, (usesN i).testBit a = true → tp.getD a 0 = s.p.getD a 0) :
    ∃ (z : Nat) (x : PSt) (yp : List Int), stepL q s = (x, false, z) ∧ stepL q (withP s tp) = (withP x yp, false, z) ∧ x.p.length = 8 ∧ yp.length = 8 ∧
      (z ≠ 0 ∨ (z = 0 ∧ (∃ ts', RunOk q x ts' (n + 1)) ∧ ∀ a, ((setsN i).testBit a = true → yp.getD a 0 = x.p.getD a 0) ∧ ((setsN i).testBit a = false → x.p.getD a 0 = s.p.getD a 0 ∧ yp.getD a 0 = tp.getD a 0))) := by
  have hlp := hr.inv.lp
  rcases step_one hc hr with ⟨hpc, he⟩ | ⟨i', hi', _, hcase⟩
  · have := (List.getElem?_eq_some_iff.1 hi).1; omega
  · rw [hi] at hi'; cases hi'
    have hi2 : q.code[(withP s tp).pc]? = some i := hi
    obtain ⟨_, _, _, hall, _⟩ := check_ok hc
    obtain ⟨hrt, _, _, _⟩ := ins_parts (hall i (List.mem_of_getElem? hi))
    have hag := (agr_with (m := usesN i) hlp ht ha).onI
    have h2 := doI_two (q := q) hag (right_op' hrt) (fun a h => h)
    rcases hcase with ⟨hd, he⟩ | ⟨x, hd, he⟩
    · rcases h2 with ⟨_, h3⟩ | ⟨x', y', h3, _, _⟩
      · exact ⟨9, s, tp, he, by rw [step_at hc hi2, h3], hlp, ht, .inl (by decide)⟩
      · rw [hd] at h3; cases h3
    · rcases h2 with ⟨h3, _⟩ | ⟨x', y, h3, h4, ho⟩
      · rw [hd] at h3; cases h3
      · rw [hd] at h3; cases h3
        obtain ⟨ts', hrn, _⟩ := run_next hc hok (by omega) hr hi hd
        refine ⟨0, x, y.p, he, ?_, ho.ls, ho.lt, .inr ⟨rfl, ⟨ts', hrn⟩, fun a => ⟨ho.set a, ho.old a⟩⟩⟩
        rw [step_at hc hi2, h4]; simp only; rw [← out_with ho]
theorem use_junk (hc : (checkL q).2 = 0) (hok : ∀ i ∈ q.code, OkI i) (hn : n ≤ 1000000) (hr : RunOk q s ts n) (hi : q.code[s.pc]? = some i) {tp : List Int} (ht : tp.length = 8) (ha : ∀ a, (usesN i).testBit a = true → tp.getD a 0 = s.p.getD a 0) : UseOk q s ∧ UseOk q (withP s tp) := by
  have h := UseOk.of_run hc hok hr hn
  exact ⟨h, h.agr (agr_with (m := usesN i) hr.inv.lp ht ha) (fun i' hi' => by rw [hi] at hi'; cases hi'; exact fun a h => h)⟩
/-- Junk in what is not used, up to one. -/
def junkTo (u : Nat) (l : List Nat) (n k : Nat) (ps : List Int) : List Int := ps.mapIdx fun a v => if a < k ∧ u.testBit a = false then ((l.getD a 0 % (n + 1) : Nat) : Int) else v
theorem junk_0 (u : Nat) (l : List Nat) (n : Nat) (ps : List Int) : junkTo u l n 0 ps = ps := by
  unfold junkTo
  apply List.ext_getElem <;> simp
theorem junk_len (u : Nat) (l : List Nat) (n k : Nat) (ps : List Int) : (junkTo u l n k ps).length = ps.length := by unfold junkTo; simp
theorem junk_use {u : Nat} {l : List Nat} {n k : Nat} {ps : List Int} (a : Nat) (h : u.testBit a = true) : (junkTo u l n k ps).getD a 0 = ps.getD a 0 := by
  unfold junkTo
  rw [List.getD_eq_getElem?_getD, List.getD_eq_getElem?_getD, List.getElem?_mapIdx]
  rcases ps[a]? with _ | v
  · simp
  · simp [h]
theorem junk_next {u k n : Nat} {l : List Nat} {ps : List Int} (h : u.testBit k = false) : junkTo u l n (k + 1) ps = (junkTo u l n k ps).set k ((l.getD k 0 % (n + 1) : Nat) : Int) := by
  apply List.ext_getElem
  · simp [junk_len]
  · intro j h1 h2
    simp only [junkTo, List.getElem_mapIdx, List.getElem_set]
    by_cases hj : k = j
    · subst hj; simp [h]
    · by_cases hl : j < k
      · simp [hl, hj, show j < k + 1 by omega]
      · simp [hl, hj, show ¬ (j < k + 1) by omega]
theorem junk_skip {u k n : Nat} {l : List Nat} {ps : List Int} (h : u.testBit k = true) : junkTo u l n (k + 1) ps = junkTo u l n k ps := by
  apply List.ext_getElem
  · simp [junk_len]
  · intro j h1 h2
    simp only [junkTo, List.getElem_mapIdx]
    by_cases hj : k = j
    · subst hj; simp [h]
    · by_cases hl : j < k
      · simp [hl, show j < k + 1 by omega]
      · simp [hl, show ¬ (j < k + 1) by omega]
end
end Go.Proofs.YtijgpfimdlnkiaaDoor
