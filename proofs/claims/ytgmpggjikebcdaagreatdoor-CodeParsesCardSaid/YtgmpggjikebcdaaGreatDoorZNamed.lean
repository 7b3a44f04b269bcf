/-
  The contract of the document's named.
-/
import Derived.Test.YtgmpggjikebcdaaGreatDoorZMay
import Derived.Test.YtgmpggjikebcdaaGreatDoorWLinesR
namespace Go.Proofs.YtgmpggjikebcdaaGreatDoor
open Go.RowKit

def namedL (nm : Bs) (dash : Bool) : List (List Bs) → Bs × Bool
  | [] => ([], false)
  | ws :: _ => if pairL nm ws then (if dash = true ∧ snd ws = [45] then ([], true) else (snd ws, areL (snd ws))) else ([], false)
theorem namedL_true (nm : Bs) (l : List (List Bs)) : namedL nm true l = lettersL nm l := by
  cases l with
  | nil => rfl
  | cons x r => simp [namedL, lettersL]
theorem namedL_at {nm : Bs} {dash : Bool} {xss : List (List Bs)} {k : Nat} {x : List Bs} (h : xss[k]? = some x) :
    namedL nm dash (xss.drop k) = if pairL nm x then (if dash = true ∧ snd x = [45] then ([], true) else (snd x, areL (snd x))) else ([], false) := by
  obtain ⟨hlt, rfl⟩ := List.getElem?_eq_some_iff.1 h
  rw [List.drop_eq_getElem_cons hlt]; rfl
theorem namedL_end {nm : Bs} {dash : Bool} {xss : List (List Bs)} {k : Nat} (h : xss.length ≤ k) : namedL nm dash (xss.drop k) = ([], false) := by
  rw [List.drop_eq_nil_of_le h]; rfl

set_option maxRecDepth 100000 in
set_option maxHeartbeats 1000000 in
theorem named_any (nm : Bs) (dash : Bool) (k : Nat) (v : Value) (xss : List (List Bs)) (w : World) (h : GridAt w v xss) (hsh : ∀ x ∈ xss, ∀ y ∈ x, y.length ≤ maxLen) (hk : k ≤ 200000) :
    Calls Tryz.prog 30 #[v, .int .i64 k, str nm, .bool dash] w fun e w' => e = .returned (.tuple #[str (namedL nm dash (xss.drop k)).1, .bool (namedL nm dash (xss.drop k)).2]) ∧ w = w' := by
  obtain ⟨a, c, rfl, h1, h2, h3⟩ := h.elems
  unfold maxLen at h2
  clear h
  by_cases hlt : k < xss.length
  · obtain ⟨x, hx⟩ : ∃ x, xss[k]? = some x := ⟨_, List.getElem?_eq_getElem hlt⟩
    obtain ⟨b, o, u, rfl, hb, hcl, hra⟩ := h3 k x hx
    have hsx := hsh x (List.mem_of_getElem? hx)
    rw [namedL_at hx]
    obtain ⟨a', c', rfl, g1, g2, g3⟩ := hra.elems
    unfold maxLen at g2
    clear h3 hsh hra hx
    generalize xss.length = n at *
    by_cases hl : x.length = 2
    · obtain ⟨p, q, rfl⟩ := len2 hl
      obtain ⟨b', o', rfl, hb', hp'⟩ := g3 0 p rfl
      obtain ⟨b2, o2, e2, _, hq'⟩ := g3 1 q rfl
      simp only [Option.some.injEq, Addr.mk.injEq, and_true] at e2
      obtain ⟨rfl, rfl⟩ := e2
      rw [Nat.add_zero] at hp'
      have hql := hsx q (by simp)
      have e2 : snd [p, q] = q := rfl
      have e3 : pairL nm [p, q] = (p == nm) := by unfold pairL; simp
      rw [e2, e3]
      simp only [List.length_cons, List.length_nil] at *
      clear g3 hsx hl e2 e3
      by_cases hp : p = nm
      · subst hp
        rw [if_pos (by simp)]
        rcases dash with _ | _
        · rw [if_neg (by simp)]
          rcases hm : areL q with _ | _
          · have HM := Lib.hid hm
            clear hm
            go_enter Tryz.func30, Tryz.ntmps30
            go_wp2_with (go_at_call 38; refine (letters_b q false _ hql HM.out).mono ?_; rintro e w' ⟨rfl, rfl⟩)
            go_ret2
            exact ⟨rfl, rfl⟩
          · have HM := Lib.hid hm
            clear hm
            go_enter Tryz.func30, Tryz.ntmps30
            go_wp2_with (go_at_call 38; refine (letters_b q true _ hql HM.out).mono ?_; rintro e w' ⟨rfl, rfl⟩)
            go_ret2
            exact ⟨rfl, rfl⟩
        · by_cases hd : q = [45]
          · subst hd
            rw [if_pos (by simp)]
            go_enter Tryz.func30, Tryz.ntmps30
            go_wp2
            go_ret2
            exact ⟨rfl, rfl⟩
          · rw [if_neg (by simp [hd])]
            have hd2 : (q == [45]) = false := by simpa using hd
            clear hd
            rcases hm : areL q with _ | _
            · have HM := Lib.hid hm
              clear hm
              go_enter Tryz.func30, Tryz.ntmps30
              go_wp2_with (go_at_call 38; refine (letters_b q false _ hql HM.out).mono ?_; rintro e w' ⟨rfl, rfl⟩)
              go_ret2
              exact ⟨rfl, rfl⟩
            · have HM := Lib.hid hm
              clear hm
              go_enter Tryz.func30, Tryz.ntmps30
              go_wp2_with (go_at_call 38; refine (letters_b q true _ hql HM.out).mono ?_; rintro e w' ⟨rfl, rfl⟩)
              go_ret2
              exact ⟨rfl, rfl⟩
      · have hp2 : (p == nm) = false := by simpa using hp
        rw [if_neg (by rw [hp2]; simp)]
        clear hp
        go_enter Tryz.func30, Tryz.ntmps30
        go_wp2
        go_ret2
        exact ⟨rfl, rfl⟩
    · have e : pairL nm x = false := by unfold pairL; simp [hl]
      rw [if_neg (by rw [e]; simp)]
      have hne : ((x.length : Int) == 2) = false := by simp only [beq_eq_false_iff_ne]; omega
      have hne2 : ((x.length : Int) != 2) = true := by simp only [bne_iff_ne, ne_eq]; omega
      clear g3 hsx hl e
      generalize x.length = m at *
      go_enter Tryz.func30, Tryz.ntmps30
      go_wp2
      go_ret2
      exact ⟨rfl, rfl⟩
  · rw [namedL_end (by omega)]
    have hge : xss.length ≤ k := by omega
    clear h3 hsh hlt
    go_enter Tryz.func30, Tryz.ntmps30
    go_wp2
    go_ret2
    exact ⟨rfl, rfl⟩
end Go.Proofs.YtgmpggjikebcdaaGreatDoor
