/-
  Contracts of check: named, Local, Glob.
  Contracts of check: hasField, isNumber, pointsTo, alike, isPlace, jumps, areInts.
-/
import Derived.Test.YtjkpbajojgdooaaDoorKRt
import Derived.Test.YtjkpbajojgdooaaDoorBRB
import Derived.Test.YtjkpbajojgdooaaDoorVPa

/- Contracts of check: named, Local, Glob. -/
namespace Go.Proofs.YtjkpbajojgdooaaDoor
set_option linter.unusedSimpArgs false
set_option linter.unusedVariables false
open Go.RowKit

theorem ts_of {w : World} {v : Value} {ts : List Bs} (h : RowAt w v (ts.map str)) (hs : ∀ t ∈ ts, t.length ≤ maxLen) : TsAt w v (tsP ts) := by
  refine ⟨?_, fun s hs' => ?_⟩
  · have e : (tsP ts).map Value.string = ts.map str := by unfold tsP; rw [List.map_map]; rfl
    rw [e]; exact h
  · unfold tsP at hs'
    obtain ⟨t, ht, rfl⟩ := List.mem_map.1 hs'
    have := hs t ht
    unfold maxLen at this; exact this
theorem names_le {ts : List Bs} {s : Bs} {a : Int} : -1 ≤ namesI ts s a ∧ namesI ts s a ≤ 207 := by
  unfold namesI
  split
  · next h =>
    have h1 := ((refs_list.1 h.2.2).2 (s.getD a.toNat 0) (by simp)).1
    have h2 := UInt8.toNat_lt (s.getD a.toNat 0)
    have e : (2 : Nat) ^ 8 = 256 := rfl
    omega
  · omega

end Go.Proofs.YtjkpbajojgdooaaDoor

/- Contracts of check: hasField, isNumber, pointsTo, alike, isPlace, jumps, areInts. -/
namespace Go.Proofs.YtjkpbajojgdooaaDoor
set_option linter.unusedSimpArgs false
set_option linter.unusedVariables false
open Go.RowKit

theorem sizeI_le {ts : List ByteArray} {t : Int} : 0 ≤ sizeI ts t ∧ sizeI ts t ≤ 6 := by
  unfold sizeI
  split
  · next h =>
    obtain ⟨h0, h1, h2⟩ := one_iff.1 h
    have := right_ty h2 (n := t.toNat) (by omega)
    omega
  · omega
theorem toI_le {ts : List ByteArray} {t f : Int} : -1 ≤ toI ts t f ∧ toI ts t f ≤ 207 := by
  unfold toI
  split
  · next h =>
    obtain ⟨h0, h1, h2⟩ := one_iff.1 h.1
    have hb := byt_lt (ty ts t.toNat) f.toNat
    rcases right_let h2 (n := t.toNat) (k := f.toNat) (by omega) (by omega) with e | e
    · rw [e, ptr_i]; omega
    · have := dig_iff.1 e
      by_cases h3 : byt (ty ts t.toNat) f.toNat = 105
      · rw [h3, ptr_i]; omega
      · rw [ptr_d h3]; omega
  · omega
/-- A program in a block of its own. -/
structure Keep (W : World) (b : Nat) (vt vc : Value) (p : PProg) : Prop where
  blk : blk W b (progC vt p vc) 25
  at' : ProgAt W (.agg (progC vt p vc)) p
theorem Keep.below {W w' : World} {b : Nat} {vt vc : Value} {p : PProg} (h : Keep W b vt vc p) (hb : Below W.heap.size W w') : Keep w' b vt vc p := ⟨blk_below h.blk hb, h.at'.below hb⟩
theorem Keep.cells {W : World} {b : Nat} {vt vc : Value} {p : PProg} (h : Keep W b vt vc p) : W.cell? ⟨b, 0, none⟩ = some vt ∧ W.cell? ⟨b, 1, none⟩ = some (str p.locals) ∧ W.cell? ⟨b, 2, none⟩ = some (str p.globs) ∧ W.cell? ⟨b, 3, none⟩ = some vc :=
  ⟨blk_cell h.blk 0 _ rfl, blk_cell h.blk 1 _ rfl, blk_cell h.blk 2 _ rfl, blk_cell h.blk 3 _ rfl⟩
theorem Keep.ts {W : World} {b : Nat} {vt vc : Value} {p : PProg} (h : Keep W b vt vc p) (hs : OkP p) : TsAt W vt (tsP p.types) := by
  obtain ⟨vt', vc', e, ht, _⟩ := h.at'
  simp only [progC, Value.agg.injEq, Array.mk.injEq, List.cons.injEq] at e
  rw [e.1]; exact ts_of ht hs.ty
theorem keep_new {w : World} {vt vc : Value} {p : PProg} (h : ProgAt w (.agg (progC vt p vc)) p) : Keep (w.alloc (.cells (progC vt p vc) 25)) w.heap.size vt vc p :=
  ⟨blk_new _ _ _, h.below ((Below.refl _ _).alloc (Nat.le_refl _) _)⟩
end Go.Proofs.YtjkpbajojgdooaaDoor
