/-
  Layer 12: the contract of alive: answers that the document fixes.
  PlanSaved: the walk.
-/
import Derived.Test.YtapjgobkpehgfaaDoorUBU
import Derived.Deep.RegionHeld3
import Derived.Deep.QuietTactic
import Derived.Deep.LoopGhost
import Derived.Deep.CutRange
import Derived.Deep.CutBlock

/- Layer 12: the contract of alive: answers that the document fixes. -/
namespace Go.Proofs.YtapjgobkpehgfaaDoor
set_option linter.unusedSimpArgs false
set_option linter.unusedVariables false
open Go.RowKit

def PLA : PProg := ⟨[[105, 48]], [48], [], [⟨5, 0, 0, 0, 0⟩, ⟨9, 0, 0, 0, 0⟩, ⟨11, 0, 0, 0, 1⟩, ⟨5, 0, 0, 0, 0⟩]⟩
theorem pla_ok : OkP PLA := ⟨by intro t ht; simp [PLA] at ht; subst ht; decide, by decide, by decide, by intro i hi; simp [PLA] at hi; rcases hi with rfl | rfl | rfl | rfl <;> (constructor <;> decide)⟩
theorem pla_check : (checkL PLA).2 = 0 := by kernel_rfl
theorem pla_leak {k : Nat} (h : k = 0 ∨ k = 3) : leakB PLA k = true := leakB_iff.2 ⟨⟨11, 0, 0, 0, 1⟩, by simp [PLA], .inl rfl, by
  rcases h with rfl | rfl
  · exact .new (i := ⟨5, 0, 0, 0, 0⟩) rfl rfl
  · exact .new (i := ⟨5, 0, 0, 0, 0⟩) rfl rfl⟩
theorem pla_l0 : lastL PLA 0 = 2 := by kernel_rfl
theorem pla_l3 : lastL PLA 3 = -1 := by kernel_rfl
theorem pla_fresh : freshL PLA = [255, 1, 1, 1, 1] := by kernel_rfl
theorem pla_b0 : bestK PLA 0 = ⟨false, true, false⟩ := by
  show bestI PLA 0 ⟨5, 0, 0, 0, 0⟩ = _
  unfold bestI; rw [pla_leak (.inl rfl), pla_l0]; rfl
theorem pla_b1 : bestK PLA 1 = noFact := rfl
theorem pla_b2 : bestK PLA 2 = ⟨false, false, true⟩ := by
  show bestI PLA 2 ⟨11, 0, 0, 0, 1⟩ = _
  unfold bestI; rw [pla_fresh]; rfl
theorem pla_b3 : bestK PLA 3 = noFact := by
  show bestI PLA 3 ⟨5, 0, 0, 0, 0⟩ = _
  unfold bestI; rw [pla_leak (.inr rfl), pla_l3]; rfl
theorem pla_best : bestL PLA = [⟨false, true, false⟩, noFact, ⟨false, false, true⟩, noFact] := by
  show [bestK PLA 0, bestK PLA 1, bestK PLA 2, bestK PLA 3] = _
  rw [pla_b0, pla_b1, pla_b2, pla_b3]
theorem pla_none : noneL PLA = [noFact, noFact, noFact, noFact] := rfl
abbrev plaC : Array Value := #[.int .u8 5, .int .u8 0, .int .u8 0, .int .u8 0, .int .i64 0, .int .u8 9, .int .u8 0, .int .u8 0, .int .u8 0, .int .i64 0, .int .u8 11, .int .u8 0, .int .u8 0, .int .u8 0, .int .i64 1, .int .u8 5, .int .u8 0, .int .u8 0, .int .u8 0, .int .i64 0]
abbrev plaV (w : World) : Array Value := progC (.slice (some ⟨w.heap.size, 0, none⟩) 1 1) PLA (.slice (some ⟨w.heap.size + 1, 0, none⟩) 4 4)
set_option maxRecDepth 100000 in
set_option maxHeartbeats 8000000 in
theorem plalive_at (w W0 : World) (hW0 : W0 = ((w.alloc (.cells #[.string ⟨#[105, 48]⟩] 9)).alloc (.cells plaC 29)).alloc (.cells #[(.slice (some ⟨w.heap.size, 0, none⟩) 1 1), .string ⟨#[48]⟩, .string ⟨#[]⟩, (.slice (some ⟨w.heap.size + 1, 0, none⟩) 4 4)] 32))
    (KP : Hid (Keep W0 (w.heap.size + 1 + 1) (.slice (some ⟨w.heap.size, 0, none⟩) 1 1) (.slice (some ⟨w.heap.size + 1, 0, none⟩) 4 4) PLA)) (HB : Hid (Below w.heap.size w W0)) (HO : Hid (HasO w)) :
    Calls Tryd.prog 4 #[] w (AggPost w (.bool true)) := by
  have HF1 : Hid (∀ w1 vl, Below w.heap.size w w1 → ProgAt w1 (.agg (plaV w)) PLA → FactsAt w1 vl [noFact, noFact, noFact, noFact] → Calls Tryd.prog 8 #[.agg #[.slice (some ⟨w.heap.size, 0, none⟩) 1 1, .string ⟨#[48]⟩, .string ⟨#[]⟩, .slice (some ⟨w.heap.size + 1, 0, none⟩) 4 4], vl] w1 (AggPost w1 (.bool true))) := Lib.hid fun w1 vl hb h1 hl => by
    have h := plfits_n (.agg (plaV w)) vl PLA _ w1 h1 pla_ok (HO.out.below hb) pla_check hl
    rw [pla_best] at h; exact h
  have HF2 : Hid (∀ w1, Below w.heap.size w w1 → ProgAt w1 (.agg (plaV w)) PLA → Calls Tryd.prog 8 #[.agg #[.slice (some ⟨w.heap.size, 0, none⟩) 1 1, .string ⟨#[48]⟩, .string ⟨#[]⟩, .slice (some ⟨w.heap.size + 1, 0, none⟩) 4 4], .slice none 0 0] w1 (AggPost w1 (.bool false))) := Lib.hid fun w1 hb h1 => by
    have h := plfits_n (.agg (plaV w)) _ PLA _ w1 h1 pla_ok (HO.out.below hb) pla_check (rowS_nil w1)
    rw [pla_best] at h; exact h
  have HSV : Hid (∀ w1 vl, FactsAt w1 vl [⟨false, true, false⟩, noFact, ⟨false, false, true⟩, noFact] → Calls Tryd.prog 5 #[vl] w1 (AggPost w1 (.tuple #[.int .i64 0, .int .i64 1, .int .i64 1]))) := Lib.hid fun w1 vl hl => by
    have h := plsaved_n vl _ w1 hl
    rw [show savedV [⟨false, true, false⟩, noFact, ⟨false, false, true⟩, noFact] = .tuple #[.int .i64 0, .int .i64 1, .int .i64 1] from rfl] at h; exact h
  go_enter Tryd.func4, Tryd.ntmps4
  go_upto_region 2 with (fail)
  rw [← hW0]
  clear hW0
  go_upto_region 5 with (first
    | (refine wpList_loadB rfl 32 _ rfl (w.heap.size + 1 + 1) (plaV w) rfl 32 KP.out.blk _ Tryd.underlying32 rfl prog_info ?_)
    | (go_at_call 6; refine (plbest_n _ PLA _ KP.out.at' pla_ok (HO.out.below HB.out) pla_check).mono ?_; rintro e w1 ⟨v1, rfl, hr, hb⟩; rw [pla_best] at hr; obtain ⟨a1, c1, rfl, hc1, hc2⟩ := hr.form; have HL : Hid (FactsAt w1 (.slice a1 4 c1) [⟨false, true, false⟩, noFact, ⟨false, false, true⟩, noFact]) := Lib.hid hr; have HB := Lib.hid (HB.out.trans (hb.mono HB.out.size)); have KP := Lib.hid (KP.out.below hb); clear hr hb)
    | (go_at_call 7; refine (plnone_n _ PLA _ KP.out.at' pla_ok (HO.out.below HB.out) pla_check).mono ?_; rintro e w2 ⟨v2, rfl, hr, hb⟩; rw [pla_none] at hr; obtain ⟨a2, c2, rfl, hd1, hd2⟩ := hr.form; have HN : Hid (FactsAt w2 (.slice a2 4 c2) [noFact, noFact, noFact, noFact]) := Lib.hid hr; have HL := Lib.hid (HL.out.below hb); have HB := Lib.hid (HB.out.trans (hb.mono HB.out.size)); have KP := Lib.hid (KP.out.below hb); clear hr hb)
    | (go_at_call 5; refine (HSV.out _ _ HL.out).mono ?_; rintro e w3 ⟨rfl, hb⟩; have HN := Lib.hid (HN.out.below hb); have HL := Lib.hid (HL.out.below hb); have HB := Lib.hid (HB.out.trans (hb.mono HB.out.size)); have KP := Lib.hid (KP.out.below hb); clear hb))
  obtain ⟨b, o, rfl, q0, q1, q2⟩ := facts_cell HL.out (k := 0) rfl
  obtain ⟨b', o', hbo, q6, q7, q8⟩ := facts_cell HL.out (k := 2) rfl
  obtain ⟨rfl, rfl⟩ : b = b' ∧ o = o' := by simpa using hbo
  have q0 : w3.cell? ⟨b, o, none⟩ = some (.bool false) := q0
  have q1 : w3.cell? ⟨b, o + 1, none⟩ = some (.bool true) := q1
  have q2 : w3.cell? ⟨b, o + 2, none⟩ = some (.bool false) := q2
  have q6 : w3.cell? ⟨b, o + 6, none⟩ = some (.bool false) := q6
  have q7 : w3.cell? ⟨b, o + 7, none⟩ = some (.bool false) := q7
  have q8 : w3.cell? ⟨b, o + 8, none⟩ = some (.bool true) := q8
  clear hbo HL HSV
  have HFA : Hid (∀ w', Keep w' (w.heap.size + 1 + 1) (.slice (some ⟨w.heap.size, 0, none⟩) 1 1) (.slice (some ⟨w.heap.size + 1, 0, none⟩) 4 4) PLA → w'.cell? ⟨w.heap.size + 1 + 1, 0, none⟩ = some (.slice (some ⟨w.heap.size, 0, none⟩) 1 1) ∧ w'.cell? ⟨w.heap.size + 1 + 1, 1, none⟩ = some (.string ⟨#[48]⟩) ∧ w'.cell? ⟨w.heap.size + 1 + 1, 2, none⟩ = some (.string ⟨#[]⟩) ∧ w'.cell? ⟨w.heap.size + 1 + 1, 3, none⟩ = some (.slice (some ⟨w.heap.size + 1, 0, none⟩) 4 4)) := Lib.hid fun w' h => h.cells
  obtain ⟨k0, k1, k2, k3⟩ := HFA.out _ KP.out
  go_wp2_with (first
    | (go_at_call 8; ((with_reducible refine (HF1.out _ _ HB.out KP.out.at' HN.out).mono ?_); rintro e w4 ⟨rfl, hb⟩; have HB := Lib.hid (HB.out.trans (hb.mono HB.out.size)); have KP := Lib.hid (KP.out.below hb); clear hb q0 q1 q2 q6 q7 q8 HN k0 k1 k2 k3; obtain ⟨k0, k1, k2, k3⟩ := HFA.out _ KP.out))
    | (go_at_call 8; ((with_reducible refine (HF2.out _ HB.out KP.out.at').mono ?_); rintro e w5 ⟨rfl, hb⟩; have HB := Lib.hid (HB.out.trans (hb.mono HB.out.size)); clear hb)))
  go_ret
  exact ⟨rfl, HB.out⟩
theorem plalive_n (w : World) (hO : HasO w) : Calls Tryd.prog 4 #[] w (AggPost w (.bool true)) := by
  have hwb : Below w.heap.size w (((w.alloc (.cells #[.string ⟨#[105, 48]⟩] 9)).alloc (.cells plaC 29)).alloc (.cells #[(.slice (some ⟨w.heap.size, 0, none⟩) 1 1), .string ⟨#[48]⟩, .string ⟨#[]⟩, (.slice (some ⟨w.heap.size + 1, 0, none⟩) 4 4)] 32)) := (((Below.refl _ _).alloc (Nat.le_refl _) _).alloc (by rw [World.size_alloc]; omega) _).alloc (by rw [World.size_alloc, World.size_alloc]; omega) _
  have s1 : (w.alloc (.cells #[.string ⟨#[105, 48]⟩] 9)).heap.size = w.heap.size + 1 := World.size_alloc _ _
  have s2 : ((w.alloc (.cells #[.string ⟨#[105, 48]⟩] 9)).alloc (.cells plaC 29)).heap.size = w.heap.size + 1 + 1 := by rw [World.size_alloc, s1]
  have k1 : blk (w.alloc (.cells #[.string ⟨#[105, 48]⟩] 9)) w.heap.size #[.string ⟨#[105, 48]⟩] 9 := blk_new _ _ _
  have k2 : blk ((w.alloc (.cells #[.string ⟨#[105, 48]⟩] 9)).alloc (.cells plaC 29)) (w.heap.size + 1) plaC 29 := by rw [← s1]; exact blk_new _ _ _
  have hp : ProgAt ((w.alloc (.cells #[.string ⟨#[105, 48]⟩] 9)).alloc (.cells plaC 29)) (.agg (plaV w)) PLA :=
    ⟨_, _, rfl, row_blk (blk_alloc k1 _) (by decide), insRow_blk (is := PLA.code) k2 rfl (by decide)⟩
  have kp := keep_new hp
  rw [s2] at kp
  exact plalive_at w _ rfl (Lib.hid kp) (Lib.hid hwb) (Lib.hid hO)
end Go.Proofs.YtapjgobkpehgfaaDoor

/- PlanSaved: the walk. -/
namespace Go.Proofs.YtapjgobkpehgfaaDoor
set_option linter.unusedSimpArgs false
set_option linter.unusedVariables false
open Go.RowKit

set_option maxRecDepth 100000 in
set_option maxHeartbeats 8000000 in
theorem plsavedl_at (w : World) (a b : List PFact) (xa xb : Option Addr) (ca cb : Nat) (HFA : Hid (FormS (.slice xa a.length ca))) (HFB : Hid (FormS (.slice xb b.length cb)))
    (HA : Hid (FactsAt w (.slice xa a.length ca) a)) (HB : Hid (FactsAt w (.slice xb b.length cb) b)) (HO : Hid (HasO w)) (la : a.length ≤ 9223372036854775807) (lb : b.length ≤ 9223372036854775807) :
    Calls Tryd.prog 3 #[.slice xa a.length ca, .slice xb b.length cb] w (AggPost w (.bool true)) := by
  have HAL := Lib.hid (plalive_n w HO.out)
  have HSV : Hid (∀ w1 vl l, FactsAt w1 vl l → Calls Tryd.prog 5 #[vl] w1 (AggPost w1 (.tuple #[.int .i64 ((savedS l : Nat) : Int), .int .i64 ((savedR l : Nat) : Int), .int .i64 ((savedP l : Nat) : Int)]))) := Lib.hid fun w1 vl l h => plsaved_n vl l w1 h
  obtain ⟨h1, h2, h3⟩ := saved_app a b
  obtain ⟨h4, h5, h6⟩ := saved_le a
  obtain ⟨h7, h8, h9⟩ := saved_le b
  have HSA := Lib.hid fun w1 vl h => HSV.out w1 vl a h
  have HSB := Lib.hid fun w1 vl h => HSV.out w1 vl b h
  have HSC := Lib.hid fun w1 vl h => HSV.out w1 vl (a ++ b) h
  rw [h1, h2, h3] at HSC
  generalize savedS a = s at h4 HSA HSC
  generalize savedR a = r at h5 HSA HSC
  generalize savedP a = q at h6 HSA HSC
  generalize savedS b = t at h7 HSB HSC
  generalize savedR b = u at h8 HSB HSC
  generalize savedP b = v at h9 HSB HSC
  clear h1 h2 h3 HSV
  by_cases ha : a.length ≤ 200
  case neg =>
    have hai : ¬ ((a.length : Int) ≤ 200) := by omega
    have haj : (200 : Int) < (a.length : Int) := by omega
    go_enter Tryd.func3, Tryd.ntmps3
    go_wp2_with (go_at_call 4; ((with_reducible refine HAL.out.mono ?_); rintro e w1 ⟨rfl, hb⟩; have HBW := Lib.hid hb; clear hb))
    go_ret
    exact ⟨rfl, HBW.out⟩
  have hai : (a.length : Int) ≤ 200 := by omega
  have haj : ¬ ((200 : Int) < (a.length : Int)) := by omega
  by_cases hb : b.length ≤ 200
  case neg =>
    have hbi : ¬ ((b.length : Int) ≤ 200) := by omega
    have hbj : (200 : Int) < (b.length : Int) := by omega
    go_enter Tryd.func3, Tryd.ntmps3
    go_wp2_with (go_at_call 4; ((with_reducible refine HAL.out.mono ?_); rintro e w1 ⟨rfl, hb⟩; have HBW := Lib.hid hb; clear hb))
    go_ret
    exact ⟨rfl, HBW.out⟩
  have hbi : (b.length : Int) ≤ 200 := by omega
  have hbj : ¬ ((200 : Int) < (b.length : Int)) := by omega
  have e1 : (((s + t : Nat) : Int) == (s : Int) + (t : Int)) = true := by simp
  have e2 : (((r + u : Nat) : Int) == (r : Int) + (u : Int)) = true := by simp
  have e3 : (((q + v : Nat) : Int) == (q : Int) + (v : Int)) = true := by simp
  have i4 : (s : Int) ≤ (a.length : Int) := by omega
  have i5 : (r : Int) ≤ (a.length : Int) := by omega
  have i6 : (q : Int) ≤ (a.length : Int) := by omega
  go_enter Tryd.func3, Tryd.ntmps3
  go_upto_region 7 with (first
    | (go_at_call 4; ((with_reducible refine HAL.out.mono ?_); rintro e w1 ⟨rfl, hb⟩; have HBW := Lib.hid hb; have HA := Lib.hid (HA.out.below hb); have HB := Lib.hid (HB.out.below hb); clear hb))
    | (go_at_call 5; ((with_reducible refine (HSA.out _ _ HA.out).mono ?_); rintro e w2 ⟨rfl, hb⟩; have HBW := Lib.hid (HBW.out.trans (hb.mono HBW.out.size)); have HA := Lib.hid (HA.out.below hb); have HB := Lib.hid (HB.out.below hb); clear hb))
    | (go_at_call 5; ((with_reducible refine (HSB.out _ _ HB.out).mono ?_); rintro e w3 ⟨rfl, hb⟩; have HBW := Lib.hid (HBW.out.trans (hb.mono HBW.out.size)); have HA := Lib.hid (HA.out.below hb); have HB := Lib.hid (HB.out.below hb); clear hb)))
  clear HAL HSA HSB
  go_upto_region 8 with (first
    | (refine wpList_appendS (c := factC) (by rfl) _ _ rfl Tryd.underlying22 infoF' rfl (by decide) (by decide) factC_len factC_one w3.heap.size v4 a b rfl HOW.out _ rfl (HB.out.below HB4.out) HFB.out (by omega) HB4.out.size ?_; intro v5 w5 hown hbl; have HB5 := Lib.hid (HB4.out.trans hbl); have HOX := Lib.hid (rowS_own factC_len hown); clear hown hbl)
    | (refine wpList_appendS (c := factC) (by rfl) _ _ rfl Tryd.underlying22 infoF' rfl (by decide) (by decide) factC_len factC_one w3.heap.size _ [] a rfl (World.ownsRow_nil _ _ _ _) _ rfl HA.out HFA.out (by rw [List.length_nil]; omega) (Nat.le_refl _) ?_; intro v4 w4 hown hbl; rw [List.nil_append] at hown; have HB4 := Lib.hid hbl; have HOW := Lib.hid hown; clear hown hbl)
    | (go_at_call 5; ((with_reducible refine (HSC.out _ _ HOX.out).mono ?_); rintro e w6 ⟨rfl, hb⟩; have HBW := Lib.hid ((HBW.out.trans (HB5.out.mono HBW.out.size)).trans (hb.mono (Nat.le_trans HBW.out.size HB5.out.size))); clear hb)))
  go_wp2
  go_ret
  exact ⟨rfl, HBW.out⟩
theorem plsaved_walk (va vb : Value) (a b : List PFact) (w : World) (ha : FactsAt w va a) (fa : FormS va) (hb : FactsAt w vb b) (fb : FormS vb) (hO : HasO w) : Calls Tryd.prog 3 #[va, vb] w fun e w' => e = .returned (.bool true) ∧ Below w.heap.size w w' := by
  obtain ⟨xa, ca, rfl, k1, k2⟩ := ha.form
  obtain ⟨xb, cb, rfl, k3, k4⟩ := hb.form
  exact plsavedl_at w a b xa xb ca cb (Lib.hid fa) (Lib.hid fb) (Lib.hid ha) (Lib.hid hb) (Lib.hid hO) (by omega) (by omega)
end Go.Proofs.YtapjgobkpehgfaaDoor
