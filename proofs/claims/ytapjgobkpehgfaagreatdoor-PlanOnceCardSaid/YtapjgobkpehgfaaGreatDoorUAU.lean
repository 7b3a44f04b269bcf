/-
  The contract of the document's line.
  The document's digits and Number.
  The document's Number.
-/
import Derived.Test.YtapjgobkpehgfaaGreatDoorUAT
import Derived.Deep.AppendLies
import Derived.Deep.RegionLaw
import Derived.Test.YtapjgobkpehgfaaGreatDoorUAE
import Derived.Handy

/- The contract of the document's line. -/
namespace Go.Proofs.YtapjgobkpehgfaaGreatDoor
set_option linter.unusedSimpArgs false
set_option linter.unusedVariables false
open Go.RowKit

structure LineRel (w : World) (i : PIns) (hs nm : Bs) (k : Nat) (v : Value) (wr : World) : Prop where
  hn : blk wr w.heap.size (insC i) 46
  hb : Below w.heap.size w wr
  row : wr.ownsRow (w.heap.size + 1) 9 1 v (k + 1) (wcells i nm hs k)
theorem line_step {w wr W2 w' : World} {i : PIns} {hs nm : Bs} {k : Nat} {v v' : Value} {c : UInt8} {o : Obj} (h : LineRel w i hs nm k v wr) (hc : hs[k]? = some c) (hb : Below wr.heap.size wr W2)
    (ho : w'.ownsRow (w.heap.size + 1) 9 1 v' (k + 1 + 1) (wcells i nm hs k ++ [str (Lib.itoa (partL i c))])) (hg : (W2.alloc o).grownBy w' v.ownBlock) : LineRel w i hs nm (k + 1) v' w' := by
  have hrow1 := (own_below h.row hb).alloc o
  have hw := h.hb.size
  have hlt := blk_lt h.hn
  refine ⟨?_, ?_, ?_⟩
  · exact grown_keep hrow1 hg (by rw [Below.heap_alloc _ _ _ (Nat.lt_of_lt_of_le hlt hb.size), hb.block _ hlt]; exact h.hn) (fun cur e => by cases e)
  · have s := hb.size
    exact ((h.hb.trans (hb.mono hw)).alloc (by omega) o).grown hg (by simp; omega) (fun g hg' => by have := (hrow1.lt g hg').1; omega)
  · rw [wcells_next i nm hs k c hc]; exact ho
theorem own_line {w wr : World} {i : PIns} {hs nm : Bs} {v : Value} (h : LineRel w i hs nm hs.length v wr) : OwnS w (nm :: hs.map (fun c => Lib.itoa (partL i c))) (.returned v) wr := by
  have hr := h.row
  rw [wcells_all] at hr
  rcases ownsRow_forms hr with ⟨_, h0⟩ | ⟨g, cap, rfl⟩
  · cases h0
  · refine ⟨some ⟨g, 0, none⟩, cap, by simp, ?_, h.hb⟩
    simpa using ownsRow_le hr (Nat.le_succ _)
theorem low_get {hs : Bs} {k : Nat} {c : UInt8} (h : hs[k]? = some c) (hk : k < (⟨(hs.map low).toArray⟩ : ByteArray).size) : (⟨(hs.map low).toArray⟩ : ByteArray)[k] = low c := by
  obtain ⟨hlt, rfl⟩ := List.getElem?_eq_some_iff.1 h
  show (hs.map low)[k] = low hs[k]
  simp

set_option maxRecDepth 100000 in
set_option maxHeartbeats 4000000 in
theorem line_walk (i : PIns) (nm hs : Bs) (ls : ByteArray) (w : World) (ht : HasT w) (hi : OkI i) (h : shapeL i.op = (nm, hs.map low)) (hls : ls = ⟨(hs.map low).toArray⟩) (H4 : Hid (FourL hs)) (hl3 : hs.length ≤ 3) : Calls Tryz.prog 51 #[insV i] w (OwnS w (nm :: hs.map (fun c => Lib.itoa (partL i c)))) := by
  have HSH : Hid (∀ w', Calls Tryz.prog 49 #[.int .u8 i.op] w' fun e w'' => e = .returned (.tuple #[str nm, .string ls]) ∧ w' = w'') := Lib.hid fun w' => by have := shape_any i.op w'; rw [h] at this; subst hls; exact this
  have HP : Hid (∀ (c : UInt8) (w' : World), c = 65 ∨ c = 66 ∨ c = 67 ∨ c = 78 → Calls Tryz.prog 78 #[insV i, .int .u8 (low c).toNat] w' (AggPost w' (.int .i64 (partL i c)))) := Lib.hid fun c w' hc => part_low i c w' hi hc
  have HF : Hid (∀ (c : UInt8) (w' : World), c = 65 ∨ c = 66 ∨ c = 67 ∨ c = 78 → Below w.heap.size w w' → Calls Tryz.prog 77 #[.int .i64 (partL i c), .int .i64 10] w' (StrPost w' (Lib.itoa (partL i c)))) := Lib.hid fun c w' hc hb => by
    obtain ⟨o0, o1, a0, a1, b0, b1, c0, c1, n0, n1⟩ := hi
    have : -9223372036854775808 ≤ partL i c ∧ partL i c ≤ 9223372036854775807 := by unfold partL; (repeat' split) <;> omega
    exact format_any _ this.1 this.2 w' (ht.below hb)
  have HLG : Hid (∀ (k : Nat) (c : UInt8) (hk : k < ls.size), hs[k]? = some c → ls[k] = low c) := Lib.hid fun k c hk hc => by subst hls; exact low_get hc hk
  have hsz : ls.size = hs.length := by subst hls; show (hs.map low).length = _; simp
  obtain ⟨i9, g9, z90, z91, z92⟩ := info_parts Tryz.info9
  clear hi h ht hls
  go_enter Tryz.func51, Tryz.ntmps51
  go_wp2_with (first
    | (go_at_call 49; refine (HSH.out _).mono ?_; rintro e w1 ⟨rfl, rfl⟩; clear HSH))
  have HS := Lib.hid (show LineRel w i hs nm 0 (.slice (some ⟨w.heap.size + 1, 0, none⟩) 1 1) ((w.alloc (.cells (insC i) 46)).alloc (.cells #[str nm] 9)) from
    ⟨blk_alloc (blk_new _ _ _) _, ((Below.refl _ _).alloc (Nat.le_refl _) _).alloc (by simp) _, by
      have := row_one (w.alloc (.cells (insC i) 46)) nm
      rw [World.size_alloc] at this
      exact this⟩)
  go_loopw [5, 6] (fun v v6 wr => ∃ k : Nat, k ≤ hs.length ∧ v6 = .int .i64 k ∧ LineRel w i hs nm k v wr) (fun _ v6 _ => hs.length - (intOf v6).toNat)
  case atStart => exact ⟨0, by omega, rfl, HS.out⟩
  case round =>
    obtain ⟨k, hk, rfl, hr⟩ := hrel
    clear HS
    have HR := Lib.hid hr
    have hrs := hr.hb.size
    clear hr
    by_cases hlt : k < hs.length
    · obtain ⟨c, hc⟩ : ∃ c, hs[k]? = some c := ⟨_, List.getElem?_eq_getElem hlt⟩
      have h4 := H4.out c (List.mem_of_getElem? hc)
      have hgl := HLG.out k c (by omega) hc
      have HC := Lib.hid hc
      have HPX := Lib.hid (HP.out c wr.drew h4)
      have HFX := Lib.hid (fun w' hb => HF.out c w' h4 hb)
      have kd : blk wr.drew w.heap.size (insC i) 46 := HR.out.hn
      have kd0 := blk_cell kd 0 _ rfl
      have kd1 := blk_cell kd 1 _ rfl
      have kd2 := blk_cell kd 2 _ rfl
      have kd3 := blk_cell kd 3 _ rfl
      have kd4 := blk_cell kd 4 _ rfl
      have HDR := Lib.hid ((Below.refl wr.heap.size wr).drew)
      clear kd h4 hc HP HF
      go_wp2_with (fail)
      go_region_law (first
        | (go_simp; go_at_call 78; refine HPX.out.mono ?_; rintro e w2 ⟨rfl, hb⟩; have HB2 := Lib.hid (HDR.out.trans (hb.mono HDR.out.size)); clear hb)
        | (go_simp; go_at_call 77; refine (HFX.out _ (HR.out.hb.trans (HB2.out.mono HR.out.hb.size))).mono ?_; rintro e w3 ⟨rfl, hb⟩; have HB3 := Lib.hid (HB2.out.trans (hb.mono HB2.out.size)); clear hb)
        | (refine step_append_lies _ (by rfl) _ _ _ (by rfl) (w.heap.size + 1) 9 i9 (.string ByteArray.empty) 1 16 Tryz.underlying22 g9 z90 z91 z92 rfl (by omega) u5 (k + 1) (wcells i nm hs k) (by rfl) ((own_below HR.out.row HB3.out).alloc _) ⟨w3.heap.size, 0, none⟩ 1 1 [str (Lib.itoa (partL i c))] (by rfl) (by rfl) (one_cell w3 _ _) (one_one _) (by omega) (by unfold maxLen; omega) (by omega) (by have := HR.out.hb.size; have := HB3.out.size; have := blk_lt HR.out.hn; simp; omega) _ rfl ?_; intro gg cp w4 hown4 hgr4 _ _; have HN := Lib.hid (line_step HR.out HC.out HB3.out hown4 hgr4); clear hown4 hgr4))
      all_goals
        go_wp2
        go_roundw
        case rel => exact ⟨k + 1, by omega, by go_num, HN.out⟩
        case measure => simp [intOf]; omega
    · obtain rfl : k = hs.length := by omega
      go_wp2
      go_ret
      exact own_line HR.out
theorem line_any (i : PIns) (w : World) (ht : HasT w) (hi : OkI i) : Calls Tryz.prog 51 #[insV i] w (OwnS w (wordsI i)) := by
  rcases h : byOpL i.op with _ | o
  · have e : wordsI i = [[]] := by unfold wordsI; rw [h]
    rw [e]
    exact line_walk i [] [] ⟨#[]⟩ w ht hi (by unfold shapeL; rw [h]; rfl) rfl (Lib.hid (fun c hc => by simp at hc)) (by simp)
  · have e : wordsI i = o.2.1 :: o.2.2.map (fun c => Lib.itoa (partL i c)) := by unfold wordsI; rw [h]
    rw [e]
    have hl3 : o.2.2.length ≤ 3 := by
      obtain ⟨_, _, _, _, _, _, _, _, hh⟩ := ops_cases (byOp_mem h).1
      simp only [List.mem_cons, List.not_mem_nil, or_false] at hh
      rcases hh with hh | hh | hh | hh | hh | hh | hh <;> (rw [hh]; decide)
    exact line_walk i o.2.1 o.2.2 ⟨(o.2.2.map low).toArray⟩ w ht hi (shapeL_some h) rfl (Lib.hid (four_ops (byOp_mem h).1)) hl3
end Go.Proofs.YtapjgobkpehgfaaGreatDoor

/- The document's digits and Number. -/
namespace Go.Proofs.YtapjgobkpehgfaaGreatDoor
set_option linter.unusedSimpArgs false
set_option linter.unusedVariables false
open Go.RowKit

theorem trim_list (s : ByteArray) (h : 0 < s.size) (e : s[0] = 45) : (s.extract 1 s.size).data.toList = trimL s.data.toList := by
  have h2 : (s.extract 1 s.size).data.toList = s.data.toList.drop 1 := by simpa using Lib.extract_to_end s 1
  rw [h2]
  have hp : s.data.toList = s[0] :: s.data.toList.drop 1 := by
    conv => lhs; rw [← List.drop_zero (l := s.data.toList)]
    rw [List.drop_eq_getElem_cons (by rw [len_size]; exact h)]
    rfl
  conv => rhs; rw [hp, e]
  rw [trim_minus]
theorem trim_same (s : ByteArray) (h : 0 < s.size) (e : s[0] ≠ 45) : s.data.toList = trimL s.data.toList := by
  have hp : s.data.toList = s[0] :: s.data.toList.drop 1 := by
    conv => lhs; rw [← List.drop_zero (l := s.data.toList)]
    rw [List.drop_eq_getElem_cons (by rw [len_size]; exact h)]
    rfl
  rw [hp, trim_other e]
theorem eq45_of {c : UInt8} (h : c = 45) : (((c.toNat : Nat) : Int) == 45) = true := by subst h; rfl
theorem ne45_of {c : UInt8} (h : c ≠ 45) : (((c.toNat : Nat) : Int) == 45) = false := by
  have : c.toNat ≠ 45 := fun e => h (UInt8.toNat_inj.1 (by simpa using e))
  simp; omega
theorem eq48_of {c : UInt8} (h : c = 48) : (((c.toNat : Nat) : Int) == 48) = true := by subst h; rfl
theorem ne48_of {c : UInt8} (h : c ≠ 48) : (((c.toNat : Nat) : Int) == 48) = false := by
  have : c.toNat ≠ 48 := fun e => h (UInt8.toNat_inj.1 (by simpa using e))
  simp; omega
theorem not_empty' {d : ByteArray} (h : 0 < d.size) : d.toList.isEmpty = false := by
  rw [ByteArray.toList_eq]; exact not_empty h

/-- What the digits' walk answers of the digits d of the text s. -/
theorem dec_is {s d : ByteArray} (h : d.data.toList = trimL s.data.toList) : decL s.data.toList = decOf s d := by unfold decL decOf; rw [h]

theorem dec_bad {s d : ByteArray} (h : 0 < d.size) (h48 : d[0] = 48) (h2 : 1 < s.size) : decOf s d = false := by
  have e : (s.data.toList == [48]) = false := by
    rw [Bool.eq_false_iff]; intro e
    have := congrArg List.length (beq_iff_eq.1 e)
    rw [len_size] at this; simp at this; omega
  unfold decOf
  rw [head_of h, h48, e]; simp
theorem dec_all {s d : ByteArray} (h : 0 < d.size) (h48 : d[0] ≠ 48) : decOf s d = d.data.toList.all digC := by
  unfold decOf
  rw [not_empty h, head_of h]; simp [h48]
theorem dec_one {s : ByteArray} (h : 0 < s.size) (h48 : s[0] = 48) (h1 : s.size = 1) : decOf s s = s.data.toList.all digC := by
  have e : s.data.toList = [48] := by
    have hp : s.data.toList = s[0] :: s.data.toList.drop 1 := by
      conv => lhs; rw [← List.drop_zero (l := s.data.toList)]
      rw [List.drop_eq_getElem_cons (by rw [len_size]; exact h)]
      rfl
    rw [hp, h48, List.drop_eq_nil_of_le (by rw [len_size]; omega)]
  unfold decOf
  rw [e]; rfl

set_option maxRecDepth 100000 in
set_option maxHeartbeats 4000000 in
theorem digitsR_m (s d : ByteArray) (w : World) (hs : s.size ≤ 3000) (hpos : 0 < s.size) (h45 : s[0] = 45) (hd : d.size + 1 = s.size)
    (hsl : ∀ w, (Instr.slice 9 (.string s) (some (.int .i64 1)) none none).run Tryz.prog w = .ok (.string d) w) :
    Calls Tryz.prog 96 #[.string s] w fun e w' => e = .returned (.bool (decOf s d)) ∧ w = w' := by
  have e1 := eq45_of h45
  clear h45
  by_cases h0 : d.size = 0
  · have hx := ba_empty h0
    subst hx
    clear h0 hd
    go_enter Tryz.func96, Tryz.ntmps96
    go_wp2
    go_ret
    exact ⟨rfl, rfl⟩
  · have hdp : 0 < d.size := by omega
    have hl := not_empty' hdp
    by_cases h48 : d[0] = 48
    · have e2 := eq48_of h48
      have HE := Lib.hid (dec_bad hdp h48 (show 1 < s.size by omega))
      clear h48
      by_cases hd1 : 1 < d.size
      · go_enter Tryz.func96, Tryz.ntmps96
        go_wp2
        go_ret
        exact ⟨ret_bool HE.out.symm, rfl⟩
      · have hs1 : 1 < s.size := by omega
        go_enter Tryz.func96, Tryz.ntmps96
        go_wp2
        go_ret
        exact ⟨ret_bool HE.out.symm, rfl⟩
    · have e2 := ne48_of h48
      have HA := Lib.hid (dec_all (s := s) hdp h48)
      clear h48
      go_enter Tryz.func96, Tryz.ntmps96
      go_wp2
      clear hl
      go_loop [4] (fun i => ∃ k : Nat, k ≤ d.size ∧ i = .int .i64 k ∧ DigTo d k) (fun i => d.size - (intOf i).toNat)
      case atStart => exact ⟨0, Nat.zero_le _, rfl, digTo_zero d⟩
      case round =>
        obtain ⟨k, hk, rfl, hok⟩ := hrel
        by_cases hlt : k < d.size
        · rcases digC_cases d[k] with ⟨⟨h1, h2⟩, hc⟩ | ⟨h1, hc⟩
          · have HC := Lib.hid hc
            have n1 : ¬ ((d[k].toNat : Nat) : Int) < 48 := by omega
            have n2 : ¬ 57 < ((d[k].toNat : Nat) : Int) := by omega
            clear hc
            go_wp2
            go_round
            case rel => exact ⟨k + 1, by omega, by go_num, hok.next hlt HC.out⟩
            case measure => simp [intOf]; omega
          · have HC := Lib.hid hc
            clear hc
            rcases h1 with h1 | h1
            · go_wp2
              go_ret
              exact ⟨ret_bool (by rw [HA.out]; exact (not_dig hlt HC.out).symm), rfl⟩
            · have n1 : ¬ ((d[k].toNat : Nat) : Int) < 48 := by omega
              go_wp2
              go_ret
              exact ⟨ret_bool (by rw [HA.out]; exact (not_dig hlt HC.out).symm), rfl⟩
        · obtain rfl : k = d.size := by omega
          have HX := Lib.hid hok.all
          go_wp2
          go_ret
          exact ⟨ret_bool (by rw [HA.out]; exact HX.out.symm), rfl⟩

set_option maxRecDepth 100000 in
set_option maxHeartbeats 4000000 in
theorem digitsR_p (s : ByteArray) (w : World) (hs : s.size ≤ 3000) (hpos : 0 < s.size) (h45 : s[0] ≠ 45) :
    Calls Tryz.prog 96 #[.string s] w fun e w' => e = .returned (.bool (decOf s s)) ∧ w = w' := by
  have e1 := ne45_of h45
  have hl := not_empty' hpos
  clear h45
  by_cases h48 : s[0] = 48
  · have e2 := eq48_of h48
    by_cases hs1 : 1 < s.size
    · have HE := Lib.hid (dec_bad (s := s) hpos h48 hs1)
      clear h48
      go_enter Tryz.func96, Tryz.ntmps96
      go_wp2
      go_ret
      exact ⟨ret_bool HE.out.symm, rfl⟩
    · have HA := Lib.hid (dec_one hpos h48 (show s.size = 1 by omega))
      clear h48
      go_enter Tryz.func96, Tryz.ntmps96
      go_wp2
      clear hl
      go_loop [4] (fun i => ∃ k : Nat, k ≤ s.size ∧ i = .int .i64 k ∧ DigTo s k) (fun i => s.size - (intOf i).toNat)
      case atStart => exact ⟨0, Nat.zero_le _, rfl, digTo_zero s⟩
      case round =>
        obtain ⟨k, hk, rfl, hok⟩ := hrel
        by_cases hlt : k < s.size
        · rcases digC_cases s[k] with ⟨⟨h1, h2⟩, hc⟩ | ⟨h1, hc⟩
          · have HC := Lib.hid hc
            have n1 : ¬ ((s[k].toNat : Nat) : Int) < 48 := by omega
            have n2 : ¬ 57 < ((s[k].toNat : Nat) : Int) := by omega
            clear hc
            go_wp2
            go_round
            case rel => exact ⟨k + 1, by omega, by go_num, hok.next hlt HC.out⟩
            case measure => simp [intOf]; omega
          · have HC := Lib.hid hc
            clear hc
            rcases h1 with h1 | h1
            · go_wp2
              go_ret
              exact ⟨ret_bool (by rw [HA.out]; exact (not_dig hlt HC.out).symm), rfl⟩
            · have n1 : ¬ ((s[k].toNat : Nat) : Int) < 48 := by omega
              go_wp2
              go_ret
              exact ⟨ret_bool (by rw [HA.out]; exact (not_dig hlt HC.out).symm), rfl⟩
        · obtain rfl : k = s.size := by omega
          have HX := Lib.hid hok.all
          go_wp2
          go_ret
          exact ⟨ret_bool (by rw [HA.out]; exact HX.out.symm), rfl⟩
  · have e2 := ne48_of h48
    have HA := Lib.hid (dec_all (s := s) hpos h48)
    clear h48
    go_enter Tryz.func96, Tryz.ntmps96
    go_wp2
    clear hl
    go_loop [4] (fun i => ∃ k : Nat, k ≤ s.size ∧ i = .int .i64 k ∧ DigTo s k) (fun i => s.size - (intOf i).toNat)
    case atStart => exact ⟨0, Nat.zero_le _, rfl, digTo_zero s⟩
    case round =>
      obtain ⟨k, hk, rfl, hok⟩ := hrel
      by_cases hlt : k < s.size
      · rcases digC_cases s[k] with ⟨⟨h1, h2⟩, hc⟩ | ⟨h1, hc⟩
        · have HC := Lib.hid hc
          have n1 : ¬ ((s[k].toNat : Nat) : Int) < 48 := by omega
          have n2 : ¬ 57 < ((s[k].toNat : Nat) : Int) := by omega
          clear hc
          go_wp2
          go_round
          case rel => exact ⟨k + 1, by omega, by go_num, hok.next hlt HC.out⟩
          case measure => simp [intOf]; omega
        · have HC := Lib.hid hc
          clear hc
          rcases h1 with h1 | h1
          · go_wp2
            go_ret
            exact ⟨ret_bool (by rw [HA.out]; exact (not_dig hlt HC.out).symm), rfl⟩
          · have n1 : ¬ ((s[k].toNat : Nat) : Int) < 48 := by omega
            go_wp2
            go_ret
            exact ⟨ret_bool (by rw [HA.out]; exact (not_dig hlt HC.out).symm), rfl⟩
      · obtain rfl : k = s.size := by omega
        have HX := Lib.hid hok.all
        go_wp2
        go_ret
        exact ⟨ret_bool (by rw [HA.out]; exact HX.out.symm), rfl⟩

theorem digitsR_e (w : World) : Calls Tryz.prog 96 #[.string ⟨#[]⟩] w fun e w' => e = .returned (.bool false) ∧ w = w' := by
  go_enter Tryz.func96, Tryz.ntmps96
  go_wp2
  go_ret
  exact ⟨rfl, rfl⟩
theorem slice_one (s : ByteArray) (hpos : 0 < s.size) (w : World) : (Instr.slice 9 (.string s) (some (.int .i64 1)) none none).run Tryz.prog w = .ok (.string (s.extract 1 s.size)) w := by
  have h1 : (1 : Int) ≤ (s.size : Int) := by omega
  simpa using run_slice_string_l (P := Tryz.prog) w 9 s Tryz.underlying9 .i64 1 (by decide) h1
theorem digitsR_any (s : ByteArray) (w : World) (hs : s.size ≤ 3000) : Calls Tryz.prog 96 #[.string s] w fun e w' => e = .returned (.bool (decL s.data.toList)) ∧ w = w' := by
  by_cases h0 : s.size = 0
  · have hx := ba_empty h0
    subst hx
    exact digitsR_e w
  · have hpos : 0 < s.size := by omega
    by_cases h45 : s[0] = 45
    · rw [dec_is (trim_list s hpos h45)]
      exact digitsR_m s _ w hs hpos h45 (by rw [ByteArray.size_extract]; omega) (slice_one s hpos)
    · rw [dec_is (trim_same s hpos h45)]
      exact digitsR_p s w hs hpos h45
end Go.Proofs.YtapjgobkpehgfaaGreatDoor

/- The document's Number. -/
namespace Go.Proofs.YtapjgobkpehgfaaGreatDoor
set_option linter.unusedSimpArgs false
set_option linter.unusedVariables false
open Go.RowKit

structure NF (d : Bs) (R E : Int × Nat) (g : Int → Int) : Prop where
  long : 19 < d.length → R = (0, 3)
  big : 9223372036854775808 < vf 0 d → R = (0, 3)
  edge : vf 0 d = 9223372036854775808 → R = E
  small : vf 0 d < 9223372036854775808 → R = (g (vf 0 d), 0)
theorem nf_m {s : Bs} (h : decL s = true) (hm : s.head? = some 45) : NF (trimL s) (numL s) (-9223372036854775808, 0) (fun x => -x) := by
  refine ⟨num_long h, ?_, ?_, ?_⟩
  · intro hb; unfold numL; rw [if_pos h, if_pos hm, if_pos hb]
  · intro he; unfold numL; rw [if_pos h, if_pos hm, if_neg (by omega), he]; rfl
  · intro hb; unfold numL; rw [if_pos h, if_pos hm, if_neg (by omega)]
theorem nf_p {s : Bs} (h : decL s = true) (hm : s.head? ≠ some 45) : NF (trimL s) (numL s) (0, 3) (fun x => x) := by
  refine ⟨num_long h, ?_, ?_, ?_⟩
  · intro hb; unfold numL; rw [if_pos h, if_neg hm, if_pos (by omega)]
  · intro he; unfold numL; rw [if_pos h, if_neg hm, if_pos (by omega)]
  · intro hb; unfold numL; rw [if_pos h, if_neg hm, if_neg (by omega)]
theorem num_step {n c : Nat} (hb : 48 ≤ c ∧ c ≤ 57) (_hn : n < 1000000000000000000) : Value.int .u64 ((n : Int) * 10 + ((c : Int) - 48)) = .int .u64 ((n * 10 + (c - 48) : Nat) : Int) := by
  congr 1; omega
theorem mem_get {d : ByteArray} {k : Nat} (h : k < d.size) : d[k] ∈ d.data.toList := by
  have : d[k] = d.data.toList[k]'(by simpa using h) := rfl
  rw [this]; exact List.getElem_mem _
theorem vf_less {d : Bs} {k : Nat} (h : d.all digC = true) (hk : k ≤ 18) : vf 0 (d.take k) < 1000000000000000000 := by
  have := vf_lt (d.take k) 0 (all_take h k)
  have hl : (d.take k).length ≤ 18 := by rw [List.length_take]; omega
  have hp : 10 ^ (d.take k).length ≤ 10 ^ 18 := Nat.pow_le_pow_right (by decide) hl
  have e18 : (10 : Nat) ^ 18 = 1000000000000000000 := by decide
  omega

set_option maxRecDepth 100000 in
set_option maxHeartbeats 4000000 in
theorem numberR_m (s d : ByteArray) (R : Int × Nat) (w : World) (hs : s.size ≤ 3000) (hpos : 0 < s.size) (h45 : s[0] = 45) (hd : d.size + 1 = s.size)
    (hsl : ∀ w, (Instr.slice 9 (.string s) (some (.int .i64 1)) none none).run Tryz.prog w = .ok (.string d) w)
    (HDG : Hid (∀ w, Calls Tryz.prog 96 #[.string s] w fun e w' => e = .returned (.bool true) ∧ w = w')) (HALL : Hid (d.data.toList.all digC = true)) (HF : Hid (NF d.data.toList R (-9223372036854775808, 0) (fun x => -x))) :
    Calls Tryz.prog 75 #[.string s] w fun e w' => e = .returned (.tuple #[.int .i64 R.1, .int .i64 R.2]) ∧ w = w' := by
  have e1 := eq45_of h45
  have HD : Hid (∀ c ∈ d.data.toList, digC c = true) := Lib.hid (List.all_eq_true.1 HALL.out)
  clear h45
  go_enter Tryz.func75, Tryz.ntmps75
  go_wp2_with (go_at_call 96; refine (HDG.out _).mono ?_; rintro e w' ⟨rfl, rfl⟩)
  go_loop [6, 7] (fun v6 i => ∃ k n : Nat, k ≤ d.size ∧ k ≤ 19 ∧ i = .int .i64 k ∧ v6 = .int .u64 n ∧ Hid (n = vf 0 (d.data.toList.take k))) (fun _ i => d.size - (intOf i).toNat)
  case atStart => exact ⟨0, 0, Nat.zero_le _, by decide, rfl, rfl, Lib.hid (by simp [vf_nil])⟩
  case round =>
    obtain ⟨k, n, hk, hk9, rfl, rfl, HN⟩ := hrel
    by_cases hlt : k < d.size
    · by_cases h19 : k < 19
      · have hdig := HD.out d[k] (mem_get hlt)
        have hb := dig_le hdig
        have hn : n < 1000000000000000000 := by rw [HN.out]; exact vf_less (HALL.out) (by omega)
        have hc1 : 48 ≤ ((d[k].toNat : Nat) : Int) := by omega
        have hc2 : ((d[k].toNat : Nat) : Int) ≤ 57 := by omega
        have HX : Hid (n * 10 + (d[k].toNat - 48) = vf 0 (d.data.toList.take (k + 1))) := Lib.hid (by rw [take_snoc d k hlt, vf_snoc, HN.out])
        go_wp2
        go_round
        case rel => exact ⟨k + 1, n * 10 + (d[k].toNat - 48), by omega, by omega, by go_num, num_step hb (by omega), HX⟩
        case measure => simp [intOf]; omega
      · have hlong : 19 < d.size := by omega
        have HR := Lib.hid (HF.out.long (by rw [len_size]; exact hlong))
        go_wp2
        go_ret2
        rw [HR.out]
        exact ⟨rfl, rfl⟩
    · have hk2 : k = d.size := by omega
      have hsh : ¬ 19 < d.size := by omega
      have HU : Hid (n = vf 0 d.data.toList) := Lib.hid (by have := HN.out; rw [List.take_of_length_le (by rw [len_size]; omega)] at this; exact this)
      have hn : n < 10000000000000000000 := by rw [HU.out]; exact vf_short HALL.out (by rw [len_size]; omega)
      by_cases hbig : 9223372036854775808 < n
      · have HR := Lib.hid (HF.out.big (by rw [← HU.out]; exact hbig))
        go_wp2
        go_ret2
        rw [HR.out]
        exact ⟨rfl, rfl⟩
      · by_cases hedge : n = 9223372036854775808
        · have HR := Lib.hid (HF.out.edge (by rw [← HU.out]; exact hedge))
          subst hedge
          go_wp2
          go_ret2
          rw [HR.out]
          refine ⟨?_, rfl⟩
          simp
          kernel_rfl
        · have hlt63 : n < 9223372036854775808 := by omega
          have HR := Lib.hid (HF.out.small (by rw [← HU.out]; exact hlt63))
          rw [← HU.out] at HR
          have e6 : (((n : Nat) : Int) == 9223372036854775808) = false := by simp; omega
          go_wp2
          go_ret2
          rw [HR.out]
          exact ⟨rfl, rfl⟩
set_option maxRecDepth 100000 in
set_option maxHeartbeats 4000000 in
theorem numberR_p (s : ByteArray) (R : Int × Nat) (w : World) (hs : s.size ≤ 3000) (hpos : 0 < s.size) (h45 : s[0] ≠ 45)
    (HDG : Hid (∀ w, Calls Tryz.prog 96 #[.string s] w fun e w' => e = .returned (.bool true) ∧ w = w')) (HALL : Hid (s.data.toList.all digC = true)) (HF : Hid (NF s.data.toList R (0, 3) (fun x => x))) :
    Calls Tryz.prog 75 #[.string s] w fun e w' => e = .returned (.tuple #[.int .i64 R.1, .int .i64 R.2]) ∧ w = w' := by
  have e1 := ne45_of h45
  have HD : Hid (∀ c ∈ s.data.toList, digC c = true) := Lib.hid (List.all_eq_true.1 HALL.out)
  clear h45
  go_enter Tryz.func75, Tryz.ntmps75
  go_wp2_with (go_at_call 96; refine (HDG.out _).mono ?_; rintro e w' ⟨rfl, rfl⟩)
  go_loop [6, 7] (fun v6 i => ∃ k n : Nat, k ≤ s.size ∧ k ≤ 19 ∧ i = .int .i64 k ∧ v6 = .int .u64 n ∧ Hid (n = vf 0 (s.data.toList.take k))) (fun _ i => s.size - (intOf i).toNat)
  case atStart => exact ⟨0, 0, Nat.zero_le _, by decide, rfl, rfl, Lib.hid (by simp [vf_nil])⟩
  case round =>
    obtain ⟨k, n, hk, hk9, rfl, rfl, HN⟩ := hrel
    by_cases hlt : k < s.size
    · by_cases h19 : k < 19
      · have hdig := HD.out s[k] (mem_get hlt)
        have hb := dig_le hdig
        have hn : n < 1000000000000000000 := by rw [HN.out]; exact vf_less (HALL.out) (by omega)
        have hc1 : 48 ≤ ((s[k].toNat : Nat) : Int) := by omega
        have hc2 : ((s[k].toNat : Nat) : Int) ≤ 57 := by omega
        have HX : Hid (n * 10 + (s[k].toNat - 48) = vf 0 (s.data.toList.take (k + 1))) := Lib.hid (by rw [take_snoc s k hlt, vf_snoc, HN.out])
        go_wp2
        go_round
        case rel => exact ⟨k + 1, n * 10 + (s[k].toNat - 48), by omega, by omega, by go_num, num_step hb (by omega), HX⟩
        case measure => simp [intOf]; omega
      · have hlong : 19 < s.size := by omega
        have HR := Lib.hid (HF.out.long (by rw [len_size]; exact hlong))
        go_wp2
        go_ret2
        rw [HR.out]
        exact ⟨rfl, rfl⟩
    · have hk2 : k = s.size := by omega
      have hsh : ¬ 19 < s.size := by omega
      have HU : Hid (n = vf 0 s.data.toList) := Lib.hid (by have := HN.out; rw [List.take_of_length_le (by rw [len_size]; omega)] at this; exact this)
      have hn : n < 10000000000000000000 := by rw [HU.out]; exact vf_short HALL.out (by rw [len_size]; omega)
      by_cases hbig : 9223372036854775808 < n
      · have HR := Lib.hid (HF.out.big (by rw [← HU.out]; exact hbig))
        go_wp2
        go_ret2
        rw [HR.out]
        exact ⟨rfl, rfl⟩
      · by_cases hedge : n = 9223372036854775808
        · have HR := Lib.hid (HF.out.edge (by rw [← HU.out]; exact hedge))
          subst hedge
          go_wp2
          go_ret2
          rw [HR.out]
          exact ⟨rfl, rfl⟩
        · have hlt63 : n < 9223372036854775808 := by omega
          have HR := Lib.hid (HF.out.small (by rw [← HU.out]; exact hlt63))
          rw [← HU.out] at HR
          have e6 : (((n : Nat) : Int) == 9223372036854775808) = false := by simp; omega
          go_wp2
          go_ret2
          rw [HR.out]
          exact ⟨rfl, rfl⟩

theorem numberR_f (s : ByteArray) (w : World) (HDG : Hid (∀ w, Calls Tryz.prog 96 #[.string s] w fun e w' => e = .returned (.bool false) ∧ w = w')) :
    Calls Tryz.prog 75 #[.string s] w fun e w' => e = .returned (.tuple #[.int .i64 0, .int .i64 4]) ∧ w = w' := by
  go_enter Tryz.func75, Tryz.ntmps75
  go_wp2_with (go_at_call 96; refine (HDG.out _).mono ?_; rintro e w' ⟨rfl, rfl⟩)
  go_ret2
  exact ⟨rfl, rfl⟩
theorem head_s {s : ByteArray} (h : 0 < s.size) : s.data.toList.head? = some s[0] := head_of h
theorem numberR_any (s : ByteArray) (w : World) (hs : s.size ≤ 3000) : Calls Tryz.prog 75 #[.string s] w fun e w' => e = .returned (.tuple #[.int .i64 (numL s.data.toList).1, .int .i64 (numL s.data.toList).2]) ∧ w = w' := by
  rcases hd : decL s.data.toList with _ | _
  · have e : numL s.data.toList = (0, 4) := by unfold numL; rw [hd]; rfl
    rw [e]
    exact numberR_f s w (Lib.hid fun w => (digitsR_any s w hs).mono fun e w' ⟨h1, h2⟩ => ⟨by rw [h1, hd], h2⟩)
  · have HDG : Hid (∀ w, Calls Tryz.prog 96 #[.string s] w fun e w' => e = .returned (.bool true) ∧ w = w') := Lib.hid fun w => (digitsR_any s w hs).mono fun e w' ⟨h1, h2⟩ => ⟨by rw [h1, hd], h2⟩
    obtain ⟨p1, p2, p3⟩ := decL_parts hd
    have hpos : 0 < s.size := by
      rcases Nat.eq_zero_or_pos s.size with h | h
      · have := ba_empty h
        subst this
        exact absurd rfl p1
      · exact h
    by_cases h45 : s[0] = 45
    · have ht := trim_list s hpos h45
      have hf := nf_m hd (by rw [head_s hpos, h45])
      rw [← ht] at p2 hf
      exact numberR_m s _ _ w hs hpos h45 (by rw [ByteArray.size_extract]; omega) (slice_one s hpos) HDG (Lib.hid p2) (Lib.hid hf)
    · have ht := trim_same s hpos h45
      have hf := nf_p hd (by rw [head_s hpos]; simpa using h45)
      rw [← ht] at p2 hf
      exact numberR_p s _ w hs hpos h45 HDG (Lib.hid p2) (Lib.hid hf)
end Go.Proofs.YtapjgobkpehgfaaGreatDoor
