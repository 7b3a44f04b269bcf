/-
  CheckEach: the walk, whole.
-/
import Derived.Test.YtclkccbihnccgaaDoorHLaw7
namespace Go.Proofs.YtclkccbihnccgaaDoor
open Go.RowKit

theorem each_walk (v : Value) (p : PProg) (w : World) (h : ProgAt w v p) (hs : OkP p) (hO : HasO w) : Calls Tryd.prog 6 #[v] w (AggPost w (.bool true)) := by
  obtain ⟨x, k, x', k', rfl, g1, g2, g3, g4, hwb, kp⟩ := prog_box h
  have hO0 := hO.below hwb
  generalize hW0 : w.alloc (.cells #[.slice x p.types.length k, str p.locals, str p.globs, .slice x' p.code.length k'] 25) = W0 at hwb kp hO0
  have hp := kp.at'
  obtain ⟨hco, hty⟩ := ins_box kp
  have HAL := Lib.hid (fun w1 (hb : Below W0.heap.size W0 w1) => alive_any w1 (hO0.below hb))
  have HF := Lib.hid (fun w1 (hb : Below W0.heap.size W0 w1) => few_b _ p _ w1 (hp.below hb) hs rfl)
  have HC := Lib.hid (fun w1 (hb : Below W0.heap.size W0 w1) => check_n _ p _ _ w1 (hp.below hb) hs (hO0.below hb) rfl rfl)
  by_cases hno : fewP p = false ∨ p.code.length < 1 ∨ 60 < p.code.length
  · exact each_no w W0 p _ x x' k k' hW0.symm (Lib.hid kp) (Lib.hid hwb) HAL HF (Lib.hid hno)
  · have hb : fewP p = true := by
      rcases hf : fewP p with _ | _
      · exact absurd (.inl hf) hno
      · rfl
    have h1 : 1 ≤ p.code.length := Nat.le_of_not_lt fun h => hno (.inr (.inl h))
    have h60 : p.code.length ≤ 60 := Nat.le_of_not_lt fun h => hno (.inr (.inr h))
    rw [hb] at HF
    have HCE : Hid (∀ v w1 m i, p.code[m]? = some i → ProgAt w1 v (eachP p m i) → Below W0.heap.size W0 w1 → Calls Tryd.prog 10 #[v] w1 (ChkPost w1 ((fun m => ((checkL (eachP p m (p.code.getD m prI))).1, ((checkL (eachP p m (p.code.getD m prI))).2 : Int))) m).1 ((fun m => ((checkL (eachP p m (p.code.getD m prI))).1, ((checkL (eachP p m (p.code.getD m prI))).2 : Int))) m).2)) := Lib.hid fun v w1 m i hi h hb => by
      have e : p.code.getD m prI = i := by rw [List.getD_eq_getElem?_getD, hi]; rfl
      simp only [e]
      exact check_n v (eachP p m i) _ _ w1 h (each_ok hs (hs.ins i (List.mem_of_getElem? hi))) (hO0.below hb) rfl rfl
    have hlaw : ∀ m i, p.code[m]? = some i → checkL (eachP p m (p.code.getD m prI)) = if headB p = false then (-1, 5) else if insE p p.code.length i = 0 then (-1, 0) else ((m : Int), insE p p.code.length i) := fun m i hi => by
      have e : p.code.getD m prI = i := by rw [List.getD_eq_getElem?_getD, hi]; rfl
      rw [e]
      exact law_each h1 (by omega) (List.getElem?_eq_some_iff.1 hi).1
    rcases check_cases p with ⟨hh, e⟩ | ⟨hh, hbig, e⟩ | ⟨hh, _, _, hall, e⟩ | ⟨hh, _, _, a, i, r, hcode, ha, hi, e⟩
    · refine each_ok' w W0 p _ _ _ 0 x x' k k' hW0.symm (Lib.hid kp) (Lib.hid hwb) h1 h60 HAL HF HC HCE (Lib.hid hco) (Lib.hid hty) (Nat.zero_le _) (Lib.hid fun m hm => absurd hm (Nat.not_lt_zero m)) (Lib.hid fun _ => ?_) (Lib.hid fun h0 => by omega)
      have := hlaw 0 _ (List.getElem?_eq_getElem h1)
      rw [if_pos hh] at this
      simp only [this, e]
      exact ⟨by trivial, by decide, fun h => by omega⟩
    · omega
    · refine each_ok' w W0 p _ _ _ p.code.length x x' k k' hW0.symm (Lib.hid kp) (Lib.hid hwb) h1 h60 HAL HF HC HCE (Lib.hid hco) (Lib.hid hty) (Nat.le_refl _) (Lib.hid fun m hm => ?_) (Lib.hid fun h0 => by omega) (Lib.hid fun _ => by simp [e])
      have := hlaw m _ (List.getElem?_eq_getElem hm)
      rw [if_neg (by rw [hh]; simp), if_pos (hall _ (List.getElem_mem hm))] at this
      simp only [this]
      rfl
    · have hal : a.length < p.code.length := by rw [hcode]; simp
      have hget : p.code[a.length]? = some i := by rw [hcode]; simp
      refine each_ok' w W0 p _ _ _ a.length x x' k k' hW0.symm (Lib.hid kp) (Lib.hid hwb) h1 h60 HAL HF HC HCE (Lib.hid hco) (Lib.hid hty) (Nat.le_of_lt hal) (Lib.hid fun m hm => ?_) (Lib.hid fun _ => ?_) (Lib.hid fun h0 => by omega)
      · have hm' : m < p.code.length := by omega
        have hmem : p.code[m] ∈ a := by
          have : p.code[m]? = a[m]? := by rw [hcode, List.getElem?_append_left hm]
          rw [List.getElem?_eq_getElem hm'] at this
          exact List.mem_of_getElem? this.symm
        have := hlaw m _ (List.getElem?_eq_getElem hm')
        rw [if_neg (by rw [hh]; simp), if_pos (ha _ hmem)] at this
        simp only [this]
        rfl
      · have := hlaw a.length i hget
        rw [if_neg (by rw [hh]; simp), if_neg hi] at this
        simp only [this, e]
        exact ⟨trivial, by omega, fun _ => ⟨trivial, trivial⟩⟩
end Go.Proofs.YtclkccbihnccgaaDoor
