/-
  The contract of the document's line.
-/
import Derived.Test.YtcenjphpdgadmaaDoorZShape
import Derived.Deep.AppendLies
import Derived.Deep.RegionLaw
namespace Go.Proofs.YtcenjphpdgadmaaDoor
set_option linter.unusedSimpArgs false
set_option linter.unusedVariables false
open Go.RowKit

structure LineRel (w : World) (i : PIns) (hs nm : Bs) (k : Nat) (v : Value) (wr : World) : Prop where
  hn : blk wr w.heap.size (insC i) 46
  hb : Below w.heap.size w wr
  row : wr.ownsRow (w.heap.size + 1) 9 1 v (k + 1) (wcells i nm hs k)
theorem line_step {w wr W2 w' : World} {i : PIns} {hs nm : Bs} {k : Nat} {v v' : Value} {c : UInt8} {o : Obj} (h : LineRel w i hs nm k v wr) (hc : hs[k]? = some c) (hb : Below wr.heap.size wr W2)
    (ho : w'.ownsRow (w.heap.size + 1) 9 1 v' (k + 1 + 1) (wcells i nm hs k ++ [str (Lib.itoa (partL i c))])) (hg : (W2.alloc o).grownBy w' v.ownBlock) : LineRel w i hs nm (k + 1) v' w' := by
  have hrow1 := (own_below h.row hb).alloc o
  have hw := h.hb.size
  have hlt := blk_lt h.hn
  refine ⟨?_, ?_, ?_⟩
  · exact grown_keep hrow1 hg (by rw [Below.heap_alloc _ _ _ (Nat.lt_of_lt_of_le hlt hb.size), hb.block _ hlt]; exact h.hn) (fun cur e => by cases e)
  · have s := hb.size
    exact ((h.hb.trans (hb.mono hw)).alloc (by omega) o).grown hg (by simp; omega) (fun g hg' => by have := (hrow1.lt g hg').1; omega)
  · rw [wcells_next i nm hs k c hc]; exact ho
theorem own_line {w wr : World} {i : PIns} {hs nm : Bs} {v : Value} (h : LineRel w i hs nm hs.length v wr) : OwnS w (nm :: hs.map (fun c => Lib.itoa (partL i c))) (.returned v) wr := by
  have hr := h.row
  rw [wcells_all] at hr
  rcases ownsRow_forms hr with ⟨_, h0⟩ | ⟨g, cap, rfl⟩
  · cases h0
  · refine ⟨some ⟨g, 0, none⟩, cap, by simp, ?_, h.hb⟩
    simpa using ownsRow_le hr (Nat.le_succ _)
theorem low_get {hs : Bs} {k : Nat} {c : UInt8} (h : hs[k]? = some c) (hk : k < (⟨(hs.map low).toArray⟩ : ByteArray).size) : (⟨(hs.map low).toArray⟩ : ByteArray)[k] = low c := by
  obtain ⟨hlt, rfl⟩ := List.getElem?_eq_some_iff.1 h
  show (hs.map low)[k] = low hs[k]
  simp

set_option maxRecDepth 100000 in
set_option maxHeartbeats 4000000 in
theorem line_walk (i : PIns) (nm hs : Bs) (ls : ByteArray) (w : World) (ht : HasT w) (hi : OkI i) (h : shapeL i.op = (nm, hs.map low)) (hls : ls = ⟨(hs.map low).toArray⟩) (H4 : Hid (FourL hs)) (hl3 : hs.length ≤ 3) : Calls Tryd.prog 44 #[insV i] w (OwnS w (nm :: hs.map (fun c => Lib.itoa (partL i c)))) := by
  have HSH : Hid (∀ w', Calls Tryd.prog 42 #[.int .u8 i.op] w' fun e w'' => e = .returned (.tuple #[str nm, .string ls]) ∧ w' = w'') := Lib.hid fun w' => by have := shape_any i.op w'; rw [h] at this; subst hls; exact this
  have HP : Hid (∀ (c : UInt8) (w' : World), c = 65 ∨ c = 66 ∨ c = 67 ∨ c = 78 → Calls Tryd.prog 66 #[insV i, .int .u8 (low c).toNat] w' (AggPost w' (.int .i64 (partL i c)))) := Lib.hid fun c w' hc => part_low i c w' hi hc
  have HF : Hid (∀ (c : UInt8) (w' : World), c = 65 ∨ c = 66 ∨ c = 67 ∨ c = 78 → Below w.heap.size w w' → Calls Tryd.prog 65 #[.int .i64 (partL i c), .int .i64 10] w' (StrPost w' (Lib.itoa (partL i c)))) := Lib.hid fun c w' hc hb => by
    obtain ⟨o0, o1, a0, a1, b0, b1, c0, c1, n0, n1⟩ := hi
    have : -9223372036854775808 ≤ partL i c ∧ partL i c ≤ 9223372036854775807 := by unfold partL; (repeat' split) <;> omega
    exact format_any _ this.1 this.2 w' (ht.below hb)
  have HLG : Hid (∀ (k : Nat) (c : UInt8) (hk : k < ls.size), hs[k]? = some c → ls[k] = low c) := Lib.hid fun k c hk hc => by subst hls; exact low_get hc hk
  have hsz : ls.size = hs.length := by subst hls; show (hs.map low).length = _; simp
  obtain ⟨i9, g9, z90, z91, z92⟩ := info_parts Tryd.info9
  clear hi h ht hls
  go_enter Tryd.func44, Tryd.ntmps44
  go_wp2_with (first
    | (go_at_call 42; refine (HSH.out _).mono ?_; rintro e w1 ⟨rfl, rfl⟩; clear HSH))
  have HS := Lib.hid (show LineRel w i hs nm 0 (.slice (some ⟨w.heap.size + 1, 0, none⟩) 1 1) ((w.alloc (.cells (insC i) 46)).alloc (.cells #[str nm] 9)) from
    ⟨blk_alloc (blk_new _ _ _) _, ((Below.refl _ _).alloc (Nat.le_refl _) _).alloc (by simp) _, by
      have := row_one (w.alloc (.cells (insC i) 46)) nm
      rw [World.size_alloc] at this
      exact this⟩)
  go_loopw [5, 6] (fun v v6 wr => ∃ k : Nat, k ≤ hs.length ∧ v6 = .int .i64 k ∧ LineRel w i hs nm k v wr) (fun _ v6 _ => hs.length - (intOf v6).toNat)
  case atStart => exact ⟨0, by omega, rfl, HS.out⟩
  case round =>
    obtain ⟨k, hk, rfl, hr⟩ := hrel
    clear HS
    have HR := Lib.hid hr
    have hrs := hr.hb.size
    clear hr
    by_cases hlt : k < hs.length
    · obtain ⟨c, hc⟩ : ∃ c, hs[k]? = some c := ⟨_, List.getElem?_eq_getElem hlt⟩
      have h4 := H4.out c (List.mem_of_getElem? hc)
      have hgl := HLG.out k c (by omega) hc
      have HC := Lib.hid hc
      have HPX := Lib.hid (HP.out c wr.drew h4)
      have HFX := Lib.hid (fun w' hb => HF.out c w' h4 hb)
      have kd : blk wr.drew w.heap.size (insC i) 46 := HR.out.hn
      have kd0 := blk_cell kd 0 _ rfl
      have kd1 := blk_cell kd 1 _ rfl
      have kd2 := blk_cell kd 2 _ rfl
      have kd3 := blk_cell kd 3 _ rfl
      have kd4 := blk_cell kd 4 _ rfl
      have HDR := Lib.hid ((Below.refl wr.heap.size wr).drew)
      clear kd h4 hc HP HF
      go_wp2_with (fail)
      go_region_law (first
        | (go_simp; go_at_call 66; refine HPX.out.mono ?_; rintro e w2 ⟨rfl, hb⟩; have HB2 := Lib.hid (HDR.out.trans (hb.mono HDR.out.size)); clear hb)
        | (go_simp; go_at_call 65; refine (HFX.out _ (HR.out.hb.trans (HB2.out.mono HR.out.hb.size))).mono ?_; rintro e w3 ⟨rfl, hb⟩; have HB3 := Lib.hid (HB2.out.trans (hb.mono HB2.out.size)); clear hb)
        | (refine step_append_lies _ (by rfl) _ _ _ (by rfl) (w.heap.size + 1) 9 i9 (.string ByteArray.empty) 1 16 Tryd.underlying22 g9 z90 z91 z92 rfl (by omega) u5 (k + 1) (wcells i nm hs k) (by rfl) ((own_below HR.out.row HB3.out).alloc _) ⟨w3.heap.size, 0, none⟩ 1 1 [str (Lib.itoa (partL i c))] (by rfl) (by rfl) (one_cell w3 _ _) (one_one _) (by omega) (by unfold maxLen; omega) (by omega) (by have := HR.out.hb.size; have := HB3.out.size; have := blk_lt HR.out.hn; simp; omega) _ rfl ?_; intro gg cp w4 hown4 hgr4 _ _; have HN := Lib.hid (line_step HR.out HC.out HB3.out hown4 hgr4); clear hown4 hgr4))
      all_goals
        go_wp2
        go_roundw
        case rel => exact ⟨k + 1, by omega, by go_num, HN.out⟩
        case measure => simp [intOf]; omega
    · obtain rfl : k = hs.length := by omega
      go_wp2
      go_ret
      exact own_line HR.out
theorem line_any (i : PIns) (w : World) (ht : HasT w) (hi : OkI i) : Calls Tryd.prog 44 #[insV i] w (OwnS w (wordsI i)) := by
  rcases h : byOpL i.op with _ | o
  · have e : wordsI i = [[]] := by unfold wordsI; rw [h]
    rw [e]
    exact line_walk i [] [] ⟨#[]⟩ w ht hi (by unfold shapeL; rw [h]; rfl) rfl (Lib.hid (fun c hc => by simp at hc)) (by simp)
  · have e : wordsI i = o.2.1 :: o.2.2.map (fun c => Lib.itoa (partL i c)) := by unfold wordsI; rw [h]
    rw [e]
    have hl3 : o.2.2.length ≤ 3 := by
      obtain ⟨_, _, _, _, _, _, _, _, hh⟩ := ops_cases (byOp_mem h).1
      simp only [List.mem_cons, List.not_mem_nil, or_false] at hh
      rcases hh with hh | hh | hh | hh | hh | hh | hh <;> (rw [hh]; decide)
    exact line_walk i o.2.1 o.2.2 ⟨(o.2.2.map low).toArray⟩ w ht hi (shapeL_some h) rfl (Lib.hid (four_ops (byOp_mem h).1)) hl3
end Go.Proofs.YtcenjphpdgadmaaDoor
