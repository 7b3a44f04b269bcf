/-
  A program as it lies; the contract of Few.
-/
import Derived.Test.YtcenjphpdgadmaaDoorCNum
namespace Go.Proofs.YtcenjphpdgadmaaDoor
set_option linter.unusedSimpArgs false
set_option linter.unusedVariables false
open Go.RowKit

/-- A slice of instructions, wherever it lies. -/
def InsRow (w : World) (v : Value) (code : List PIns) : Prop :=
  ∃ a c, v = .slice a code.length c ∧ code.length ≤ c ∧ c ≤ maxLen ∧ ∀ j i, code[j]? = some i → ∃ b o, a = some ⟨b, o, none⟩ ∧ b < w.heap.size ∧ w.rangeAt b (o + j * 5) (insC i).toList
theorem rangeAt_below {w w' : World} {b o : Nat} {cs : List Value} (h : w.rangeAt b o cs) (hlt : b < w.heap.size) (hb : Below w.heap.size w w') : w'.rangeAt b o cs := fun j v hv => by
  rw [(bcell hb).1 b _ hlt]; exact h j v hv
theorem InsRow.below {w w' : World} {v : Value} {code : List PIns} (h : InsRow w v code) (hb : Below w.heap.size w w') : InsRow w' v code := by
  obtain ⟨a, c, rfl, h1, h2, h3⟩ := h
  refine ⟨a, c, rfl, h1, h2, fun j i hj => ?_⟩
  obtain ⟨b, o, rfl, hlt, hr⟩ := h3 j i hj
  exact ⟨b, o, rfl, Nat.lt_of_lt_of_le hlt hb.size, rangeAt_below hr hlt hb⟩
def codeCells (is : List PIns) : List Value := is.flatMap (fun i => (insC i).toList)
theorem flat_get : ∀ (is : List PIns) (j : Nat) (i : PIns) (t : Nat) (v : Value), is[j]? = some i → (insC i).toList[t]? = some v → (codeCells is)[j * 5 + t]? = some v
  | [], _, _, _, _, h, _ => by simp at h
  | a :: r, 0, i, t, v, h, hv => by
    simp at h; subst h
    unfold codeCells; rw [List.flatMap_cons, Nat.zero_mul, Nat.zero_add]
    have ht : t < (insC a).toList.length := (List.getElem?_eq_some_iff.1 hv).1
    rw [List.getElem?_append_left ht]; exact hv
  | a :: r, j + 1, i, t, v, h, hv => by
    have ih := flat_get r j i t v (by simpa using h) hv
    unfold codeCells at ih ⊢
    have hl : (insC a).toList.length = 5 := rfl
    rw [List.flatMap_cons, List.getElem?_append_right (by rw [hl]; omega), hl, show (j + 1) * 5 + t - 5 = j * 5 + t by omega]
    exact ih
/-- Instructions in a block of their own. -/
theorem insRow_blk {w : World} {g : Nat} {cs : Array Value} {is : List PIns} (h : blk w g cs 46) (hc : cs.toList = codeCells is) (hl : is.length ≤ maxLen) : InsRow w (.slice (some ⟨g, 0, none⟩) is.length is.length) is := by
  refine ⟨some ⟨g, 0, none⟩, is.length, rfl, Nat.le_refl _, hl, fun j i hj => ⟨g, 0, rfl, blk_lt h, fun t v hv => ?_⟩⟩
  have := flat_get is j i t v hj hv
  rw [← hc] at this
  rw [Nat.zero_add]
  exact blk_cell h _ v (by simpa using this)
/-- One-cell values in a block of their own. -/
theorem row_blk {w : World} {g : Nat} {cs : Array Value} {t : TypeId} (h : blk w g cs t) (hl : cs.size ≤ maxLen) : RowAt w (.slice (some ⟨g, 0, none⟩) cs.size cs.size) cs.toList := by
  refine ⟨some ⟨g, 0, none⟩, cs.size, by simp, by simp, hl, .inr ⟨g, 0, rfl, blk_lt h, fun j x hx => ?_⟩⟩
  rw [Nat.zero_add]
  exact blk_cell h j x (by simpa using hx)
abbrev progC (vt : Value) (p : PProg) (vc : Value) : Array Value := #[vt, str p.locals, str p.globs, vc]
/-- A program, wherever it lies. -/
def ProgAt (w : World) (v : Value) (p : PProg) : Prop := ∃ vt vc, v = .agg (progC vt p vc) ∧ RowAt w vt (p.types.map str) ∧ InsRow w vc p.code
theorem ProgAt.below {w w' : World} {v : Value} {p : PProg} (h : ProgAt w v p) (hb : Below w.heap.size w w') : ProgAt w' v p := by
  obtain ⟨vt, vc, rfl, h1, h2⟩ := h
  exact ⟨vt, vc, rfl, h1.below hb, h2.below hb⟩
/-- What is so of any program. -/
structure OkP (p : PProg) : Prop where
  ty : ∀ t ∈ p.types, t.length ≤ maxLen
  lo : p.locals.length ≤ maxLen
  gl : p.globs.length ≤ maxLen
  ins : ∀ i ∈ p.code, OkI i
theorem prog_info : (Tryd.prog.info? 25).map (·.size) = some 4 := by kernel_rfl
/-- The sum as the machine has it. -/
def wsum (x : Int) : List Bs → Int
  | [] => x
  | t :: r => wsum (wrap64 (x + wrap64 ((t.length : Int) + 1))) r
def fewP (p : PProg) : Bool := decide (wsum (wrap64 ((p.locals.length : Int) + p.globs.length)) p.types ≤ 500) && decide (p.code.length ≤ 210)
theorem wsum_snoc (x : Int) (ts : List Bs) (t : Bs) : wsum x (ts ++ [t]) = wrap64 (wsum x ts + wrap64 ((t.length : Int) + 1)) := by
  induction ts generalizing x with
  | nil => rfl
  | cons a r ih => exact ih _

set_option maxRecDepth 100000 in
set_option maxHeartbeats 1000000 in
theorem few_any (v : Value) (p : PProg) (w : World) (h : ProgAt w v p) (hs : OkP p) : Calls Tryd.prog 21 #[v] w (AggPost w (.bool (fewP p))) := by
  obtain ⟨vt, vc, rfl, ht, hc⟩ := h
  have hwb : Below w.heap.size w (w.alloc (.cells (progC vt p vc) 25)) := (Below.refl _ _).alloc (Nat.le_refl _) _
  obtain ⟨a, c, rfl, h1, h2, h3⟩ := (ht.below hwb).elems
  obtain ⟨a', c', rfl, g1, g2, g3⟩ := hc.below hwb
  have HT := Lib.hid h3
  have HP := Lib.hid hs
  have hlo := hs.lo
  have hgl := hs.gl
  clear h3 g3 hs ht hc
  unfold maxLen at h2 g2 hlo hgl
  go_enter Tryd.func21, Tryd.ntmps21
  go_wp2
  go_loop [3, 16] (fun v i => ∃ k : Nat, k ≤ p.types.length ∧ i = .int .i64 k ∧ v = .int .i64 (wsum (wrap64 ((p.locals.length : Int) + p.globs.length)) (p.types.take k))) (fun _ i => p.types.length - (intOf i).toNat)
  case atStart => exact ⟨0, Nat.zero_le _, rfl, rfl⟩
  case round =>
    obtain ⟨k, hk, rfl, rfl⟩ := hrel
    by_cases hlt : k < p.types.length
    · obtain ⟨t, hx⟩ : ∃ t, p.types[k]? = some t := ⟨_, List.getElem?_eq_getElem hlt⟩
      obtain ⟨b, o, rfl, hb, hcell⟩ := HT.out k t hx
      have hl := HP.out.ty t (List.mem_of_getElem? hx)
      have hn : wsum (wrap64 ((p.locals.length : Int) + p.globs.length)) (p.types.take (k + 1)) = wrap64 (wsum (wrap64 ((p.locals.length : Int) + p.globs.length)) (p.types.take k) + wrap64 ((t.length : Int) + 1)) := by
        obtain ⟨h1, rfl⟩ := List.getElem?_eq_some_iff.1 hx
        rw [List.take_succ_eq_append_getElem h1, wsum_snoc]
      have HN := Lib.hid hn
      clear hn hx
      generalize wsum (wrap64 ((p.locals.length : Int) + p.globs.length)) (p.types.take k) = z at *
      unfold maxLen at hl
      go_wp2
      go_round
      case rel => exact ⟨k + 1, by omega, by go_num, by rw [HN.out]⟩
      case measure => simp [intOf]; omega
    · obtain rfl : k = p.types.length := by omega
      rw [List.take_length]
      have HF : Hid (fewP p = (decide (wsum (wrap64 ((p.locals.length : Int) + p.globs.length)) p.types ≤ 500) && decide (p.code.length ≤ 210))) := Lib.hid rfl
      generalize wsum (wrap64 ((p.locals.length : Int) + p.globs.length)) p.types = z at *
      by_cases hz : z ≤ 500
      · by_cases hc : p.code.length ≤ 210
        · go_wp2
          go_ret
          exact ⟨ret_bool (by rw [HF.out]; simp [hz]; omega), hwb⟩
        · go_wp2
          go_ret
          exact ⟨ret_bool (by rw [HF.out]; simp [hz]; omega), hwb⟩
      · go_wp2
        go_ret
        exact ⟨ret_bool (by rw [HF.out, decide_eq_false (by omega)]; rfl), hwb⟩
theorem few_b (v : Value) (p : PProg) (b : Bool) (w : World) (h : ProgAt w v p) (hs : OkP p) (hb : fewP p = b) : Calls Tryd.prog 21 #[v] w (AggPost w (.bool b)) := by
  subst hb; exact few_any v p w h hs

end Go.Proofs.YtcenjphpdgadmaaDoor
