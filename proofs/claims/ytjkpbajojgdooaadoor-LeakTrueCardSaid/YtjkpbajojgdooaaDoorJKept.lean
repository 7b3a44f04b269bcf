/-
  The statement's own closure: is it the number of an object whose place does not leak?
-/
import Derived.Test.YtjkpbajojgdooaaDoorJRu
import Derived.Test.YtjkpbajojgdooaaDoorJProg
import Derived.Test.YtjkpbajojgdooaaDoorJUse
import Derived.Deep.RegionHeld3
import Derived.Deep.QuietTactic
namespace Go.Proofs.YtjkpbajojgdooaaDoor
set_option linter.unusedSimpArgs false
set_option linter.unusedVariables false
open Go.RowKit

noncomputable def keptB (q : PProg) (made : List Nat) (v : Int) : Bool := decide (0 < v) && decide (v ≤ (made.length : Int)) && !(leakB q (placeN made v))
theorem keptB_iff {q : PProg} {made : List Nat} {v : Int} : keptB q made v = true ↔ KeptN q made v := by
  unfold keptB KeptN
  simp only [Bool.and_eq_true, decide_eq_true_eq, Bool.not_eq_true', leakB_no, and_assoc]
theorem keptB_no {q : PProg} {made : List Nat} {v : Int} (h : ¬ KeptN q made v) : keptB q made v = false := by
  rcases hk : keptB q made v with _ | _
  · rfl
  · exact absurd (keptB_iff.1 hk) h
set_option maxRecDepth 100000 in
set_option maxHeartbeats 4000000 in
theorem jkept_no (w : World) (bm : Nat) (vm a2 : Value) (q : PProg) (made : List Nat) (v : Int) (x : Option Addr) (c : Nat) (hvm : vm = .slice x made.length c) (hm : Hid (blk w bm #[vm] 37)) (h : v ≤ 0 ∨ (0 < v ∧ (made.length : Int) < v)) :
    Calls Tryd.prog 9 #[.int .i64 v, .pointer (some ⟨bm, 0, none⟩), a2] w (AggPost w (.bool false)) := by
  subst hvm
  have e0 : w.cell? ⟨bm, 0, none⟩ = some (.slice x made.length c) := blk_cell hm.out 0 _ rfl
  rcases h with h | ⟨h0, h1⟩
  · have h2 : ¬ (0 < v) := by omega
    go_enter Tryd.func9, Tryd.ntmps9
    go_upto_region 1 with (fail)
    go_quiet (fail)
    go_wp2
    go_ret
    exact ⟨rfl, jN _ _⟩
  · have h2 : ¬ (v ≤ (made.length : Int)) := by omega
    go_enter Tryd.func9, Tryd.ntmps9
    go_upto_region 1 with (fail)
    go_quiet (fail)
    go_wp2
    go_ret
    exact ⟨rfl, jN _ _⟩
set_option maxRecDepth 100000 in
set_option maxHeartbeats 4000000 in
theorem jkept_yes (w : World) (bm Pb n z g : Nat) (vm vt' vc : Value) (q : PProg) (made : List Nat) (v : Int) (c : Nat) (r : Bool) (hvm : vm = .slice (some ⟨g, 0, none⟩) made.length c) (hm : Hid (blk w bm #[vm] 37)) (hp : Hid (blk w Pb (progC vt' q vc) 25)) (hn : n < made.length) (hv0 : 0 < v) (hv1 : v ≤ (made.length : Int)) (hv2 : v - 1 = (n : Int))
    (hz : Hid (w.cell? ⟨g, n, none⟩ = some (.int .i64 (z : Int)))) (hc : made.length ≤ c) (hc2 : c ≤ 9223372036854775807)
    (HLK : Hid (∀ w1, Below w.heap.size w w1 → Calls Tryd.prog 10 #[.agg #[vt', str q.locals, str q.globs, vc], .int .i64 z] w1 (AggPost w1 (.bool r)))) :
    Calls Tryd.prog 9 #[.int .i64 v, .pointer (some ⟨bm, 0, none⟩), .pointer (some ⟨Pb, 0, none⟩)] w (AggPost w (.bool (!r))) := by
  subst hvm
  have hw1 : IntKind.i64.wrap (n : Int) = (n : Int) := by rw [IntKind.wrap_i64]; omega
  have hni : (n : Int) < (made.length : Int) := by omega
  have HFA : Hid (∀ w', Below w.heap.size w w' → w'.cell? ⟨bm, 0, none⟩ = some (.slice (some ⟨g, 0, none⟩) made.length c) ∧ w'.cell? ⟨g, n, none⟩ = some (.int .i64 (z : Int)) ∧ w'.cell? ⟨Pb, 0, none⟩ = some vt' ∧ w'.cell? ⟨Pb, 1, none⟩ = some (str q.locals) ∧ w'.cell? ⟨Pb, 2, none⟩ = some (str q.globs) ∧ w'.cell? ⟨Pb, 3, none⟩ = some vc) := Lib.hid fun w' hb => ⟨blk_cell (blk_below hm.out hb) 0 _ rfl, by rw [hb.cell (World.block_lt_of_cell? w _ hz.out)]; exact hz.out, blk_cell (blk_below hp.out hb) 0 _ rfl, blk_cell (blk_below hp.out hb) 1 _ rfl, blk_cell (blk_below hp.out hb) 2 _ rfl, blk_cell (blk_below hp.out hb) 3 _ rfl⟩
  have HB := Lib.hid (Below.refl w.heap.size w)
  go_enter Tryd.func9, Tryd.ntmps9
  go_upto_region 1 with (fail)
  obtain ⟨c0, c1, p0, p1, p2, p3⟩ := HFA.out w HB.out
  have HB := Lib.hid HB.out.drew
  go_region_held3 (fun w' => w'.cell? ⟨bm, 0, none⟩ = some (.slice (some ⟨g, 0, none⟩) made.length c) ∧ w'.cell? ⟨g, n, none⟩ = some (.int .i64 (z : Int)) ∧ w'.cell? ⟨Pb, 0, none⟩ = some vt' ∧ w'.cell? ⟨Pb, 1, none⟩ = some (str q.locals) ∧ w'.cell? ⟨Pb, 2, none⟩ = some (str q.globs) ∧ w'.cell? ⟨Pb, 3, none⟩ = some vc) (go_keep) (first
    | (go_at_call 10; ((with_reducible refine (HLK.out _ HB.out).mono ?_); rintro e w1 ⟨rfl, hb⟩; have HB := Lib.hid (HB.out.trans (hb.mono HB.out.size)); clear hb c0 c1 p0 p1 p2 p3; obtain ⟨c0, c1, p0, p1, p2, p3⟩ := HFA.out _ HB.out)))
  all_goals
    go_wp2
    go_ret
    exact ⟨rfl, HB.out⟩
theorem jkept_n (w : World) (bm Pb : Nat) (vm vt' vc : Value) (B : Nat) (q : PProg) (made : List Nat) (v : Int) (hm : blk w bm #[vm] 37) (hp : blk w Pb (progC vt' q vc) 25) (hr : w.ownsRow B 3 1 vm made.length (i64s (natI made)))
    (HLK : ∀ (w1 : World) (k : Nat), Below w.heap.size w w1 → Calls Tryd.prog 10 #[.agg #[vt', str q.locals, str q.globs, vc], .int .i64 k] w1 (AggPost w1 (.bool (leakB q k)))) :
    Calls Tryd.prog 9 #[.int .i64 v, .pointer (some ⟨bm, 0, none⟩), .pointer (some ⟨Pb, 0, none⟩)] w (AggPost w (.bool (keptB q made v))) := by
  by_cases h : 0 < v ∧ v ≤ (made.length : Int)
  · obtain ⟨h0, h1⟩ := h
    obtain ⟨g, c, e, h2, h3, h4⟩ := own_nat hr (k := (v - 1).toNat) (by omega)
    have hk : keptB q made v = !(leakB q (placeN made v)) := by unfold keptB; simp [h0, h1]
    rw [hk]
    have hpl : made.getD (v - 1).toNat 0 = placeN made v := by unfold placeN; congr 1; omega
    rw [hpl] at h4
    exact jkept_yes w bm Pb (v - 1).toNat (placeN made v) g vm vt' vc q made v c _ e (Lib.hid hm) (Lib.hid hp) (by omega) h0 h1 (by omega) (Lib.hid h4) h2 h3 (Lib.hid fun w1 hb => HLK w1 _ hb)
  · have hk : keptB q made v = false := by
      unfold keptB
      by_cases h0 : 0 < v
      · have : ¬ v ≤ (made.length : Int) := fun h1 => h ⟨h0, h1⟩
        simp [this]
      · simp [h0]
    rw [hk]
    obtain ⟨x, c, e, -, -⟩ := own_natF hr
    exact jkept_no w bm vm _ q made v x c e (Lib.hid hm) (by omega)
end Go.Proofs.YtjkpbajojgdooaaDoor
