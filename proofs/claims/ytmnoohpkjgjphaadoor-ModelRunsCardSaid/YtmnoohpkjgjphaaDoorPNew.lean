/-
  The program's newObject: its contract.
-/
import Derived.Test.YtmnoohpkjgjphaaDoorPA
import Derived.Test.YtmnoohpkjgjphaaDoorPRF
import Derived.Deep.RegionLaw
import Derived.Deep.AppendLies
import Derived.Deep.OwnRows
namespace Go.Proofs.YtmnoohpkjgjphaaDoor
set_option linter.unusedSimpArgs false
set_option linter.unusedVariables false
open Go.RowKit

theorem one_cellV {w : World} (v : Value) (t : TypeId) : ∀ j u, [v][j]? = some u → (w.alloc (.cells #[v] t)).cell? ((⟨w.heap.size, 0, none⟩ : Addr).add j) = some u := by
  intro j u hu
  rcases j with _ | j
  · simp at hu; subst hu
    exact blk_cell (blk_new w #[v] t) 0 _ rfl
  · simp at hu
theorem made_rep (k : Nat) (v : Value) : madeCells #[v] k = Array.replicate k v := by
  unfold madeCells
  apply Array.ext
  · simp
  · intro i h1 h2
    simp [Nat.mod_one]
theorem blk_setM {w : World} {b g j : Nat} {cs cs' : Array Value} {t t' : TypeId} {v : Value} (hb : blk w b cs' t') (h : blk w g cs t) (hne : t ≠ t') : blk (w.setCell ⟨b, j, none⟩ v) g cs t := by
  rw [setCell_putB hb]
  unfold blk
  rw [putB_ne w (blk_ne h hb hne)]
  exact h
abbrev zerosV (k : Nat) : Array Value := Array.replicate k (.int .i64 0)
theorem zeros_own (w : World) {B k : Nat} (hB : B ≤ w.heap.size) (hk : k ≤ maxLen) : (w.alloc (.cells (madeCells #[.int .i64 0] k) 2)).ownsRow B 2 1 (.slice (some ⟨w.heap.size, 0, none⟩) k k) k (i64s (List.replicate k 0)) := by
  rw [made_rep]
  refine ⟨by simp, .inr ⟨w.heap.size, k, _, rfl, hB, blk_new _ _ _, Nat.le_refl _, hk, by simp, ?_⟩⟩
  simp [i64s]
set_option maxRecDepth 100000 in
set_option maxHeartbeats 2000000 in
theorem new_at (w W0 : World) (p : PProg) (B b : Nat) (s : PSt) (vo vt : Value) (a t : Int) (z : Nat) (x x' : Option Addr) (k k' : Nat)
    (hW0 : W0 = w.alloc (.cells (progC (.slice x p.types.length k) p (.slice x' p.code.length k')) 25)) (HS : Hid (Below w.heap.size w W0)) (KP : Hid (Keep W0 w.heap.size (.slice x p.types.length k) (.slice x' p.code.length k') p)) (HM : Hid (Mem W0 B b s vo vt))
    (HLA : Hid (∀ w1, Below W0.heap.size W0 w1 → Calls Tryd.prog 55 #[.agg (progC (.slice x p.types.length k) p (.slice x' p.code.length k')), .int .u8 a] w1 (AggPost w1 (.int .i64 t))))
    (HSZ : Hid (∀ w1, Below W0.heap.size W0 w1 → Calls Tryd.prog 54 #[.slice x p.types.length k, .int .i64 t] w1 fun e w' => e = .returned (.int .i64 z) ∧ w1 = w'))
    (h1 : 1 ≤ z) (h6 : z ≤ 6) (hn : s.objs.length ≤ 1000000) (hBw : B ≤ w.heap.size) :
    Calls Tryd.prog 39 #[.agg (progC (.slice x p.types.length k) p (.slice x' p.code.length k')), ptr b, .int .u8 a] w
      fun e w' => e = .returned (.int .i64 ((s.objs.length : Int) + 1)) ∧ (∃ vo', Mem w' B b { s with objs := s.objs ++ [List.replicate z 0] } vo' vt) ∧ FarB w w' b ∧ Below B w w' := by
  have HB := Lib.hid (Below.refl W0.heap.size W0)
  have hmk : ∀ w, (Instr.makeSlice 32 (.int .i64 (z : Int)) (.int .i64 (z : Int))).run Tryd.prog w = .ok (.slice (some ⟨w.heap.size, 0, none⟩) z z) (w.alloc (.cells (madeCells #[.int .i64 0] z) 2)) := fun w => run_make_row' _ _ _ _ Tryd.underlying32 info64 rfl _ _ z (by omega) (by omega) w
  obtain ⟨i0, hi0, hz0, hz1, hz2⟩ := info_parts infoO
  go_enter Tryd.func39, Tryd.ntmps39
  go_wp2_with (fail)
  rw [← hW0]
  clear hW0
  obtain ⟨p0, p1, p2, p3⟩ := KP.out.cells
  go_region_held3 (fun w' => w'.cell? ⟨w.heap.size, 0, none⟩ = some (.slice x p.types.length k) ∧ w'.cell? ⟨w.heap.size, 1, none⟩ = some (str p.locals) ∧ w'.cell? ⟨w.heap.size, 2, none⟩ = some (str p.globs) ∧ w'.cell? ⟨w.heap.size, 3, none⟩ = some (.slice x' p.code.length k')) (go_keep) (first
    | (go_at_call 55; ((with_reducible refine (HLA.out _ ?_).mono ?_); (first | exact HB.out.drew | exact HB.out); rintro e w5 ⟨rfl, hb⟩; have HB5 := Lib.hid (HB.out.drew.trans (hb.mono HB.out.size)); have KP5 := Lib.hid (Keep.below (W := W0.drew) (⟨KP.out.1, KP.out.2.below (Below.refl _ _).drew⟩) hb); clear hb p0 p1 p2 p3; obtain ⟨p0, p1, p2, p3⟩ := KP5.out.cells))
    | (go_at_call 54; ((with_reducible refine (HSZ.out _ HB5.out).mono ?_); rintro e w6 ⟨rfl, rfl⟩)))
  all_goals
    have HM5 := Lib.hid (HM.out.below HB5.out)
    clear HM HLA HSZ KP KP5 p0 p1 p2 p3
    obtain ⟨rows, gs, hown⟩ := HM5.out.parts.objs
    have HOWN := Lib.hid hown
    obtain ⟨c20, -, -, -⟩ := HM5.out.rest
    have f20 := blk_frozen HM5.out.blk 20
    obtain ⟨va, vc, rfl, hvl, hvc⟩ := own_form hown.outer
    clear hown
    go_wp2_with (fail)
    have HZ := Lib.hid (zeros_own (k := z) w5 (B := B) (by have := HM5.out.lt; omega) (by unfold maxLen; omega))
    have HBZ := Lib.hid ((((Below.refl w5.heap.size w5).alloc (Nat.le_refl _) (.cells (madeCells #[.int .i64 0] z) 2)).alloc (by simp) (.cells #[.slice (some ⟨w5.heap.size, 0, none⟩) z z] 32)).drew)
    have c20a := blk_cell (blk_alloc HM5.out.blk (.cells (madeCells #[.int .i64 0] z) 2)) 20 _ (stC_rest HM5.out.parts.len).1
    have c20b := blk_cell (blk_alloc (blk_alloc HM5.out.blk (.cells (madeCells #[.int .i64 0] z) 2)) (.cells #[.slice (some ⟨w5.heap.size, 0, none⟩) z z] 32)) 20 _ (stC_rest HM5.out.parts.len).1
    have hBs : B ≤ w5.heap.size := by have := HM5.out.lt; omega
    go_region_law (first
      | (refine step_append_lies _ (by rfl) _ _ _ (by rfl) B 32 i0 (.slice none 0 0) 1 24 Tryd.underlying31 hi0 hz0 hz1 hz2 rfl (by omega) (.slice va s.objs.length vc) s.objs.length rows (by rfl) (own_below HOWN.out.outer HBZ.out) ⟨w5.heap.size + 1, 0, none⟩ 1 1 [.slice (some ⟨w5.heap.size, 0, none⟩) z z] (by rfl) (by rfl) (by intro j u hu; have := one_cellV (w := w5.alloc (.cells (madeCells #[.int .i64 0] z) 2)) _ 32 j u hu; rw [World.size_alloc] at this; exact this) (by intro u hu; simp at hu; subst hu; rfl) (by omega) (by unfold maxLen; omega) (by omega) (by simp; omega) _ rfl ?_
         intro gg cp w4 hown4 hgr4 _ _
         have HB4 := Lib.hid (blk_grown (blk_below HM5.out.blk HBZ.out) hgr4 (fun e => own_ne HOWN.out.outer HM5.out.blk (by decide) b e rfl))
         have HP4 := Lib.hid (parts_new (s := s) (xs := List.replicate z 0) HM5.out.parts HOWN.out HBZ.out (by have := own_below HZ.out (((Below.refl _ _).alloc (Nat.le_refl _) (.cells #[.slice (some ⟨w5.heap.size, 0, none⟩) z z] 32)).drew); rw [List.length_replicate]; exact this) rfl (by intro e; have := congrArg List.length e; simp at this; omega) hown4 hgr4)
         have HF4 : Hid (∀ g cs t, blk w5 g cs t → t ≠ 32 → blk w4 g cs t) := Lib.hid fun g cs t hg hne => blk_grown (blk_below hg HBZ.out) hgr4 (fun e => own_ne HOWN.out.outer hg hne g e rfl)
         have HBW := Lib.hid (((Below.refl B w5).trans (HBZ.out.mono hBs)).grown hgr4 (by simp; omega) (fun g hg => (own_lt HOWN.out.outer g hg).1))
         clear hown4 hgr4 c20 f20 c20a c20b
         obtain ⟨c20, -, -, -⟩ := stC_rest (vo := .slice va s.objs.length vc) (vt := vt) HM5.out.parts.len
         have c20 := blk_cell HB4.out _ _ c20
         have f20 := blk_frozen HB4.out 20))
    all_goals
      have HN := Lib.hid (Mem.newObj HB4.out HM5.out.hb HP4.out)
      have HF5 : Hid (FarB w (w4.setCell ⟨b, 20, none⟩ (.slice (some ⟨gg, 0, none⟩) (s.objs.length + 1) cp)) b) := Lib.hid (FarB.setB (fun g cs t hg _ h2 _ => HF4.out g cs t (blk_below (blk_below hg HS.out) HB5.out) h2) HB4.out)
      clear HM5 HB4 HP4 HZ HBZ HOWN c20 f20
      obtain ⟨c20, -, -, -⟩ := HN.out.rest
      go_wp2
      go_ret
      refine ⟨ret_int (by omega), ⟨_, HN.out⟩, HF5.out, ?_⟩
      exact (((HS.out.mono hBw).trans (HB5.out.mono (by have := HS.out.size; omega))).trans HBW.out).setCell (p := ⟨b, 20, none⟩) HN.out.hb _
def NewPost (w : World) (B b : Nat) (s : PSt) (vt : Value) (z : Nat) (e : Ending) (w' : World) : Prop :=
  e = .returned (.int .i64 ((s.objs.length : Int) + 1)) ∧ (∃ vo', Mem w' B b { s with objs := s.objs ++ [List.replicate z 0] } vo' vt) ∧ FarB w w' b ∧ Below B w w'
theorem new_n (v : Value) (p : PProg) (w : World) (B b : Nat) (s : PSt) (vo vt : Value) (a : Int) (h : ProgAt w v p) (hs : OkP p) (hm : Mem w B b s vo vt) (hh : headB p = true) (h0 : 0 ≤ a) (ha : a ≤ 255) (hl : 0 ≤ localI p a) (hn : s.objs.length ≤ 1000000) :
    Calls Tryd.prog 39 #[v, ptr b, .int .u8 a] w (NewPost w B b s vt (sizeP p.types (localI p a)).toNat) := by
  obtain ⟨vt', vc, rfl, ht, hc⟩ := id h
  have hwb : Below w.heap.size w (w.alloc (.cells (progC vt' p vc) 25)) := (Below.refl _ _).alloc (Nat.le_refl _) _
  obtain ⟨x, c, rfl, -, -, -⟩ := id ht.elems
  obtain ⟨x', c', rfl, -, -, -⟩ := id hc
  have hlt := (local_lt hh h0 hl).2
  have hr' := (refs_list.1 (head_parts hh).1).1
  have hz := (sizeP_one hr' (t := (localI p a).toNat) (by omega)).2.1
  rw [Int.toNat_of_nonneg hl] at hz
  have h6 : sizeP p.types (localI p a) ≤ 6 := sizeI_le.2
  have hlt' := hm.lt
  refine new_at w _ p B b s vo vt a (localI p a) (sizeP p.types (localI p a)).toNat x x' c c' rfl (Lib.hid hwb) (Lib.hid (keep_new h)) (Lib.hid (hm.below hwb)) (Lib.hid fun w1 hb1 => local_any _ p a w1 ((h.below hwb).below hb1) hs h0 ha) (Lib.hid fun w1 hb1 => ?_) (by omega) (by omega) hn (by omega)
  have hts := ts_of ((ht.below hwb).below hb1) hs.ty
  rw [Int.toNat_of_nonneg (by omega)]
  exact ksize_n _ (tsP p.types) (localI p a) _ w1 hts (Lib.hid rfl)
end Go.Proofs.YtmnoohpkjgjphaaDoor
