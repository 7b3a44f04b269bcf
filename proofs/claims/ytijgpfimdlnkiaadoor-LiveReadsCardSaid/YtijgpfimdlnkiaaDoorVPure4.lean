/-
  Two runs that differ in pointer locals that do not matter: a step of both.
-/
import Derived.Test.YtijgpfimdlnkiaaDoorVPure3
namespace Go.Proofs.YtijgpfimdlnkiaaDoor
set_option linter.unusedSimpArgs false
set_option linter.unusedVariables false

def withP (s : PSt) (ps : List Int) : PSt := { s with p := ps }
section
variable {q : PProg} {s t : PSt}
theorem doI_pcV {i : PIns} (h3 : i.op ≠ 3) (h4 : i.op ≠ 4) (h : doI q s i = some t) : t.pc = s.pc := by
  unfold doI at h
  by_cases e1 : i.op = 1
  · rw [if_pos e1] at h; obtain rfl := Option.some.inj h; rfl
  rw [if_neg e1] at h
  by_cases e2 : i.op = 2
  · rw [if_pos e2] at h; obtain rfl := Option.some.inj h; rfl
  rw [if_neg e2, if_neg h3, if_neg h4] at h
  by_cases e5 : i.op = 5
  · rw [if_pos e5] at h; obtain rfl := Option.some.inj h; rfl
  rw [if_neg e5] at h
  by_cases e6 : i.op = 6
  · rw [if_pos e6] at h; obtain rfl := Option.some.inj h; rfl
  rw [if_neg e6] at h
  by_cases e7 : i.op = 7
  · rw [if_pos e7] at h; obtain rfl := Option.some.inj h; rfl
  rw [if_neg e7] at h
  by_cases e8 : i.op = 8
  · rw [if_pos e8] at h
    split at h
    · cases h
    · obtain rfl := Option.some.inj h; rfl
  rw [if_neg e8] at h
  by_cases e9 : i.op = 9
  · rw [if_pos e9] at h
    split at h
    · cases h
    · obtain rfl := Option.some.inj h; rfl
  rw [if_neg e9] at h
  by_cases e10 : i.op = 10
  · rw [if_pos e10] at h
    split at h
    · cases h
    · obtain rfl := Option.some.inj h; rfl
  rw [if_neg e10] at h
  by_cases e11 : i.op = 11
  · rw [if_pos e11] at h
    split at h
    · cases h
    · obtain rfl := Option.some.inj h; rfl
  rw [if_neg e11] at h
  by_cases e12 : i.op = 12
  · rw [if_pos e12] at h; obtain rfl := Option.some.inj h; rfl
  rw [if_neg e12] at h
  by_cases e13 : i.op = 13
  · rw [if_pos e13] at h; obtain rfl := Option.some.inj h; rfl
  rw [if_neg e13] at h
  by_cases e14 : i.op = 14
  · rw [if_pos e14] at h; obtain rfl := Option.some.inj h; rfl
  rw [if_neg e14] at h
  obtain rfl := Option.some.inj h; rfl
/-- A step goes to a next place. -/
theorem step_nextV {i : PIns} (hin : InP q) (hi : q.code[s.pc]? = some i) (h : doI q (onI s) i = some t) : t.pc ∈ nextL q s.pc := by
  have hp := hin i (List.mem_of_getElem? hi)
  unfold nextL
  rw [hi]
  simp only [nextI]
  by_cases h3 : i.op = 3
  · rw [doI_3 h3] at h
    obtain rfl := Option.some.inj h
    rw [if_pos h3]; simp
  · rw [if_neg h3]
    by_cases h4 : i.op = 4
    · rw [doI_4 h4] at h
      obtain rfl := Option.some.inj h
      have := hp (.inr h4)
      rw [if_pos h4]
      by_cases hx : xA (onI s) i.a = 0
      · rw [if_pos hx]
        show i.n.toNat ∈ _
        split
        · simp
        · split
          · simp
          · simp; omega
      · rw [if_neg hx]
        show s.pc + 1 ∈ _
        split
        · simp
        · split <;> simp
    · have := doI_pcV h3 h4 h
      rw [if_neg h4, this]
      show s.pc + 1 ∈ [s.pc + 1]
      simp
end
section
variable {q : PProg} {s : PSt} {ts : List Nat} {n : Nat} {i : PIns}
theorem agr_with {m : Nat} {tp : List Int} (hl : s.p.length = 8) (ht : tp.length = 8) (h : ∀ a, m.testBit a = true → tp.getD a 0 = s.p.getD a 0) : Agr m s (withP s tp) := ⟨rfl, rfl, rfl, rfl, rfl, rfl, hl, ht, h⟩
theorem out_with {s t x y : PSt} (h : Out2 i s t x y) : y = withP x y.p := by
  obtain ⟨a1, a2, a3, a4, a5, a6⟩ := x
  obtain ⟨b1, b2, b3, b4, b5, b6⟩ := y
  have h1 := h.x; have h2 := h.g; have h3 := h.objs; have h4 := h.out; have h5 := h.pc; have h6 := h.steps
  simp only at h1 h2 h3 h4 h5 h6
  subst h1 h2 h3 h4 h5 h6
  rfl
theorem live_uses {k : Nat} (hi : q.code[k]? = some i) (a : Nat) (h : (usesN i).testBit a = true) : ((liveL q).getD k 0).testBit a = true := by
  rw [live_at hi, Nat.testBit_or, h, Bool.or_true]
/-- A step of both. -/
theorem step_both (hc : (checkL q).2 = 0) (hin : InP q) (hok : ∀ i ∈ q.code, OkI i) (hn : n < 1000000) (hr : RunOk q s ts n) {tp : List Int} (ht : tp.length = 8) (ha : ∀ a, ((liveL q).getD s.pc 0).testBit a = true → tp.getD a 0 = s.p.getD a 0) :
    ∃ (d : Bool) (z : Nat) (x : PSt) (yp : List Int), stepL q s = (x, d, z) ∧ stepL q (withP s tp) = (withP x yp, d, z) ∧ x.p.length = 8 ∧ yp.length = 8 ∧
      ((d = true ∨ z ≠ 0) ∨ (d = false ∧ z = 0 ∧ (∃ ts', RunOk q x ts' (n + 1)) ∧ ∀ a, ((liveL q).getD x.pc 0).testBit a = true → yp.getD a 0 = x.p.getD a 0)) := by
  have hlp := hr.inv.lp
  rcases step_one hc hr with ⟨hpc, he⟩ | ⟨i, hi, _, hcase⟩
  · exact ⟨true, 0, s, tp, he, step_end hc hpc, hlp, ht, .inl (.inl rfl)⟩
  · have hi2 : q.code[(withP s tp).pc]? = some i := hi
    obtain ⟨_, _, _, hall, _⟩ := check_ok hc
    obtain ⟨hrt, _, _, _⟩ := ins_parts (hall i (List.mem_of_getElem? hi))
    have hag := (agr_with hlp ht ha).onI
    have h2 := doI_two (q := q) hag (right_op' hrt) (live_uses hi)
    rcases hcase with ⟨hd, he⟩ | ⟨x, hd, he⟩
    · rcases h2 with ⟨_, h3⟩ | ⟨x', y', h3, _, _⟩
      · exact ⟨false, 9, s, tp, he, by rw [step_at hc hi2, h3], hlp, ht, .inl (.inr (by decide))⟩
      · rw [hd] at h3; cases h3
    · rcases h2 with ⟨h3, _⟩ | ⟨x', y, h3, h4, ho⟩
      · rw [hd] at h3; cases h3
      · rw [hd] at h3; cases h3
        obtain ⟨ts', hrn, _⟩ := run_next hc hok (by omega) hr hi hd
        refine ⟨false, 0, x, y.p, he, ?_, ho.ls, ho.lt, .inr ⟨rfl, rfl, ⟨ts', hrn⟩, fun a hla => ?_⟩⟩
        · rw [step_at hc hi2, h4]; simp only; rw [← out_with ho]
        · by_cases hs : (setsN i).testBit a = true
          · exact ho.set a hs
          · have hs' : (setsN i).testBit a = false := by simpa using hs
            obtain ⟨o1, o2⟩ := ho.old a hs'
            rw [o1, o2]
            refine ha a ((live_iff a s.pc).2 ((lv_flow a s.pc).2 (.inr ⟨by rw [setsK_at hi]; exact hs', x.pc, step_nextV hin hi hd, (live_iff a x.pc).1 hla⟩)))
theorem use_both (hc : (checkL q).2 = 0) (hok : ∀ i ∈ q.code, OkI i) (hn : n ≤ 1000000) (hr : RunOk q s ts n) {tp : List Int} (ht : tp.length = 8) (ha : ∀ a, ((liveL q).getD s.pc 0).testBit a = true → tp.getD a 0 = s.p.getD a 0) : UseOk q s ∧ UseOk q (withP s tp) := by
  have h := UseOk.of_run hc hok hr hn
  exact ⟨h, h.agr (agr_with hr.inv.lp ht ha) (fun i hi => live_uses hi)⟩
/-- The pointer locals that do not matter put to nothing, up to one. -/
def zeroTo (m k : Nat) (ps : List Int) : List Int := ps.mapIdx fun a v => if a < k ∧ m.testBit a = false then 0 else v
theorem zero_0 (m : Nat) (ps : List Int) : zeroTo m 0 ps = ps := by
  unfold zeroTo
  apply List.ext_getElem <;> simp
theorem zero_len (m k : Nat) (ps : List Int) : (zeroTo m k ps).length = ps.length := by unfold zeroTo; simp
theorem zero_get (m k : Nat) (ps : List Int) (a : Nat) : (zeroTo m k ps).getD a 0 = if a < k ∧ m.testBit a = false then 0 else ps.getD a 0 := by
  unfold zeroTo
  rw [List.getD_eq_getElem?_getD, List.getD_eq_getElem?_getD, List.getElem?_mapIdx]
  rcases h : ps[a]? with _ | v
  · simp
  · simp
theorem zero_next {m k : Nat} {ps : List Int} (h : m.testBit k = false) : zeroTo m (k + 1) ps = (zeroTo m k ps).set k 0 := by
  apply List.ext_getElem
  · simp [zero_len]
  · intro j h1 h2
    simp only [zeroTo, List.getElem_mapIdx, List.getElem_set]
    by_cases hj : k = j
    · subst hj; simp [h]
    · by_cases hl : j < k
      · simp [hl, hj, show j < k + 1 by omega]
      · simp [hl, hj, show ¬ (j < k + 1) by omega]
theorem zero_skip {m k : Nat} {ps : List Int} (h : m.testBit k = true) : zeroTo m (k + 1) ps = zeroTo m k ps := by
  apply List.ext_getElem
  · simp [zero_len]
  · intro j h1 h2
    simp only [zeroTo, List.getElem_mapIdx]
    by_cases hj : k = j
    · subst hj; simp [h]
    · by_cases hl : j < k
      · simp [hl, show j < k + 1 by omega]
      · simp [hl, show ¬ (j < k + 1) by omega]
theorem zero_live {m : Nat} {ps qs : List Int} (h : ∀ a, m.testBit a = true → ps.getD a 0 = qs.getD a 0) (k a : Nat) (ha : m.testBit a = true) : (zeroTo m k ps).getD a 0 = qs.getD a 0 := by
  rw [zero_get, if_neg (by rw [ha]; simp)]; exact h a ha
end
end Go.Proofs.YtijgpfimdlnkiaaDoor
