/-
  Print, of few.
-/
import Derived.Test.YtgmpggjikebcdaaGreatDoorCOpen
namespace Go.Proofs.YtgmpggjikebcdaaGreatDoor
open Go.RowKit

theorem print_few (v : Value) (p : PProg) (w : World) (h : ProgAt w v p) (hs : OkP p) (hA : HasAll w) (hf : fewP p = true) (hl : p.types.length ≤ 8796093022208) : Calls Tryz.prog 7 #[v] w (PrintPost w (printL p)) := by
  unfold printL
  rcases hm : mayP p with _ | _
  · rw [if_neg (by simp)]; exact print_bad v p w h hs hA.o hm
  · obtain ⟨h1, h2⟩ := text_short hs hm hf hl
    rw [if_pos rfl]; exact print_ok v p w h hs hA.o hA.t hm (by omega) (by omega)
def noCode (p : PProg) : PProg := { p with code := [] }
theorem noCode_ok {p : PProg} (h : OkP p) : OkP (noCode p) := ⟨h.ty, h.lo, h.gl, fun i hi => by simp [noCode] at hi⟩
theorem noCode_few {p : PProg} (h : fewP p = true) : fewP (noCode p) = true := by
  unfold fewP at h ⊢
  simp only [Bool.and_eq_true, decide_eq_true_eq] at h ⊢
  exact ⟨h.1, by simp [noCode]⟩
theorem noCode_at {w : World} {vt vc : Value} {p : PProg} (h : RowAt w vt (p.types.map str)) : ProgAt w (.agg (progC vt (noCode p) (.slice none 0 0))) (noCode p) :=
  ⟨vt, .slice none 0 0, rfl, h, ⟨none, 0, rfl, Nat.le_refl _, Nat.zero_le _, fun j i hj => by simp [noCode] at hj⟩⟩
theorem may_split (p : PProg) : mayP p = ((decide (p.code.length ≤ 200) && p.code.all rightL) && mayP (noCode p)) := by
  unfold mayP noCode
  simp only [List.length_nil, List.all_nil, Nat.zero_le, decide_true, Bool.and_true]
  cases p.types.all typeL <;> cases areL p.locals <;> cases areL p.globs <;> cases decide (p.code.length ≤ 200) <;> cases p.code.all rightL <;> rfl
theorem printL_e (p : PProg) : (printL p).2 = if mayP p then 0 else 2 := by unfold printL; split <;> rfl

theorem all_false {c : List PIns} {k : Nat} {i : PIns} {d : Bool} (h : c[k]? = some i) (hE : (d && (c.take k).all rightL) = false) : (d && (c.take (k + 1)).all rightL) = false := by
  obtain ⟨hlt, rfl⟩ := List.getElem?_eq_some_iff.1 h
  rw [List.take_succ_eq_append_getElem hlt, List.all_append, ← Bool.and_assoc, hE]; rfl
theorem all_next_f {c : List PIns} {k : Nat} {i : PIns} {d : Bool} (h : c[k]? = some i) (hi : rightL i = false) : (d && (c.take (k + 1)).all rightL) = false := by
  obtain ⟨hlt, rfl⟩ := List.getElem?_eq_some_iff.1 h
  rw [List.take_succ_eq_append_getElem hlt, List.all_append]; simp [hi]
theorem all_next_t {c : List PIns} {k : Nat} {i : PIns} {d : Bool} (h : c[k]? = some i) (hi : rightL i = true) (hE : (d && (c.take k).all rightL) = true) : (d && (c.take (k + 1)).all rightL) = true := by
  obtain ⟨hlt, rfl⟩ := List.getElem?_eq_some_iff.1 h
  rw [List.take_succ_eq_append_getElem hlt, List.all_append, ← Bool.and_assoc, hE]; simp [hi]

end Go.Proofs.YtgmpggjikebcdaaGreatDoor
