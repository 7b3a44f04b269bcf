/-
  The document's Reach and Loops: contracts.
  The document's at, Local, Glob, number, to, one: contracts.
  The document's ints and kinds: contracts.
-/
import Derived.Test.YtcjhgibhenocpaaGreatDoorFNext
import Derived.Test.YtcjhgibhenocpaaGreatDoorUAW
import Derived.Deep.LoopGhost
import Derived.Test.YtcjhgibhenocpaaGreatDoorUAT
import Derived.Test.YtcjhgibhenocpaaGreatDoorHFit

/- The document's Reach and Loops: contracts. -/
namespace Go.Proofs.YtcjhgibhenocpaaGreatDoor
set_option linter.unusedSimpArgs false
set_option linter.unusedVariables false
open Go.RowKit

abbrev boolsV (l : List Bool) : List Value := l.map Value.bool
abbrev bArr (l : List Bool) : Array Value := (boolsV l).toArray
theorem infoBool : (Tryz.prog.info? 4).map (fun i => (i.zero, i.size, i.bytes)) = some (some (.bool false), 1, 1) := by kernel_rfl
theorem bArr_get {l : List Bool} {k : Nat} (h : k < l.length) : (bArr l)[k]? = some (.bool (l.getD k false)) := by
  have e : l[k]? = some (l.getD k false) := by rw [List.getD_eq_getElem?_getD, List.getElem?_eq_getElem h]; rfl
  show ((boolsV l).toArray)[k]? = _
  rw [List.getElem?_toArray, List.getElem?_map, e]; rfl
theorem bArr_set (l : List Bool) (k : Nat) (v : Bool) : (bArr l).setIfInBounds k (.bool v) = bArr (l.set k v) := by simp [boolsV]
theorem bArr_zeros (n : Nat) : madeCells #[.bool false] n = bArr (List.replicate n false) := by
  rw [made_rep]
  apply Array.ext'
  simp
/-- The world in Reach. -/
structure RcW (w wr : World) (H : Nat) (C : Array Value) (had : List Bool) : Prop where
  below : Below w.heap.size w wr
  prog : blk wr w.heap.size C 25
  hd : blk wr H (bArr had) 4
  hH : w.heap.size < H
theorem RcW.next {w wr w' : World} {H : Nat} {C : Array Value} {had : List Bool} (h : RcW w wr H C had) (hb : Below wr.heap.size wr w') : RcW w w' H C had :=
  ⟨h.below.trans (hb.mono h.below.size), blk_below h.prog hb, blk_below h.hd hb, h.hH⟩
theorem RcW.mark {w wr : World} {H : Nat} {C : Array Value} {had : List Bool} (h : RcW w wr H C had) (n : Nat) : RcW w (wr.setCell ⟨H, n, none⟩ (.bool true)) H C (markK had n) := by
  have hH := h.hH
  rw [setCell_putB h.hd, bArr_set]
  exact ⟨h.below.trans (putB_below _ (by omega) _ _), by unfold blk; rw [putB_ne _ (by omega)]; exact h.prog, putB_at h.hd _ _, h.hH⟩
def BoolsPost (w : World) (l : List Bool) (e : Ending) (w' : World) : Prop := ∃ v, e = .returned v ∧ w'.ownsRow w.heap.size 4 1 v l.length (boolsV l) ∧ Below w.heap.size w w'
theorem RcW.post {w wr : World} {H : Nat} {C : Array Value} {had : List Bool} (h : RcW w wr H C had) (hl : had.length ≤ 1000000) : BoolsPost w had (.returned (.slice (some ⟨H, 0, none⟩) had.length had.length)) wr :=
  ⟨_, rfl, ⟨by simp, .inr ⟨H, had.length, bArr had, rfl, by have := h.hH; omega, h.hd, Nat.le_refl _, by unfold maxLen; omega, by simp, by rw [Nat.mul_one]; exact List.take_of_length_le (by simp)⟩⟩, h.below⟩
theorem nextL_cast (q : PProg) (k : Nat) : nextV q k = (nextL q k).map (fun n : Nat => (n : Int)) := by unfold nextV; rw [if_pos (by omega), Int.toNat_natCast]
end Go.Proofs.YtcjhgibhenocpaaGreatDoor

/- The document's at, Local, Glob, number, to, one: contracts. -/
namespace Go.Proofs.YtcjhgibhenocpaaGreatDoor
set_option linter.unusedSimpArgs false
set_option linter.unusedVariables false
open Go.RowKit

theorem rrefs_b (v : Value) (ts : List ByteArray) (s : ByteArray) (b : Bool) (w : World) (h : TsAt w v ts) (hs : s.size ≤ 9223372036854775807) (hr : Hid (refsB ts s = b)) : Calls Tryz.prog 37 #[v, .string s] w fun e w' => e = .returned (.bool b) ∧ w = w' :=
  (rrefs_any v ts s w h hs).mono fun e w' ⟨h1, h2⟩ => ⟨by rw [h1, hr.out], h2⟩
theorem rsize_n (v : Value) (ts : List ByteArray) (t z : Int) (w : World) (h : TsAt w v ts) (hz : Hid (sizeI ts t = z)) : Calls Tryz.prog 129 #[v, .int .i64 t] w fun e w' => e = .returned (.int .i64 z) ∧ w = w' :=
  (rsize_any v ts t w h).mono fun e w' ⟨h1, h2⟩ => ⟨by rw [h1, hz.out], h2⟩
theorem rto_n (v : Value) (ts : List ByteArray) (t f z : Int) (w : World) (h : TsAt w v ts) (hz : Hid (toI ts t f = z)) : Calls Tryz.prog 130 #[v, .int .i64 t, .int .i64 f] w fun e w' => e = .returned (.int .i64 z) ∧ w = w' :=
  (rto_any v ts t f w h).mono fun e w' ⟨h1, h2⟩ => ⟨by rw [h1, hz.out], h2⟩
theorem at_out (v : Value) (s : ByteArray) (a : Nat) (w : World) (hs : s.size ≤ 9223372036854775807) (ha : a ≤ 255) (h : s.size ≤ a) (hv : ∃ x n c, v = .slice x n c) :
    Calls Tryz.prog 128 #[v, .string s, .int .u8 a] w fun e w' => e = .returned (.int .i64 (-1)) ∧ w = w' := by
  obtain ⟨x, n, c, rfl⟩ := hv
  go_enter Tryz.func128, Tryz.ntmps128
  go_wp2
  go_ret
  exact ⟨rfl, rfl⟩
theorem at_f (v : Value) (ts : List ByteArray) (s d : ByteArray) (a : Nat) (w : World) (h : TsAt w v ts) (hs : s.size ≤ 9223372036854775807) (hd : d.size ≤ 9223372036854775807) (ha : a ≤ 254) (hlt : a < s.size)
    (h1 : ∀ w, (Instr.slice 9 (.string s) (some (.int .u8 (a : Int))) (some (.int .u8 ((a : Int) + 1))) none).run Tryz.prog w = .ok (.string d) w)
    (hr : Hid (refsB ts d = false)) :
    Calls Tryz.prog 128 #[v, .string s, .int .u8 a] w fun e w' => e = .returned (.int .i64 (-1)) ∧ w = w' := by
  have H := Lib.hid h
  obtain ⟨x, c, rfl, -, -⟩ := h.shape
  clear h
  go_enter Tryz.func128, Tryz.ntmps128
  go_wp2_with (go_at_call 37; refine (rrefs_b _ ts d false _ H.out hd hr).mono ?_; rintro e w' ⟨rfl, rfl⟩)
  go_ret
  exact ⟨rfl, rfl⟩
theorem at_t (v : Value) (ts : List ByteArray) (s d : ByteArray) (a : Nat) (w : World) (h : TsAt w v ts) (hs : s.size ≤ 9223372036854775807) (hd : d.size ≤ 9223372036854775807) (ha : a ≤ 254) (hlt : a < s.size)
    (h1 : ∀ w, (Instr.slice 9 (.string s) (some (.int .u8 (a : Int))) (some (.int .u8 ((a : Int) + 1))) none).run Tryz.prog w = .ok (.string d) w)
    (hr : Hid (refsB ts d = true)) (h48 : 48 ≤ s[a].toNat) (h256 : s[a].toNat < 256) :
    Calls Tryz.prog 128 #[v, .string s, .int .u8 a] w fun e w' => e = .returned (.int .i64 ((s[a].toNat : Int) - 48)) ∧ w = w' := by
  have H := Lib.hid h
  obtain ⟨x, c, rfl, -, -⟩ := h.shape
  clear h
  go_enter Tryz.func128, Tryz.ntmps128
  go_wp2_with (go_at_call 37; refine (rrefs_b _ ts d true _ H.out hd hr).mono ?_; rintro e w' ⟨rfl, rfl⟩)
  go_ret
  exact ⟨rfl, rfl⟩
theorem slice_at1 (s : ByteArray) (a : Nat) (h : a < s.size) (w : World) : (Instr.slice 9 (.string s) (some (.int .u8 (a : Int))) (some (.int .u8 ((a : Int) + 1))) none).run Tryz.prog w = .ok (.string (s.extract a (a + 1))) w := by
  have := run_slice_string (P := Tryz.prog) (w := w) 9 s .u8 .u8 (a : Int) ((a : Int) + 1) Tryz.underlying9 (by omega) (by omega) (by omega)
  simpa using this
theorem one_letter' (s : Bs) (a : Nat) (h : a < s.length) : (⟨s.toArray⟩ : ByteArray).extract a (a + 1) = baL [s.getD a 0] := by
  rw [ByteArray.ext_iff]
  apply Array.ext'
  have e : s.getD a 0 = s[a] := by rw [List.getD_eq_getElem?_getD, List.getElem?_eq_getElem h]; rfl
  rw [e]
  simp [baL, ByteArray.data_extract]
  rw [List.drop_eq_getElem_cons h]
  rfl
theorem at_any (v : Value) (ts : List Bs) (s : Bs) (a : Int) (w : World) (h : TsAt w v (tsP ts)) (hs : s.length ≤ 200) (h0 : 0 ≤ a) (ha : a ≤ 255) :
    Calls Tryz.prog 128 #[v, str s, .int .u8 a] w fun e w' => e = .returned (.int .i64 (namesI ts s a)) ∧ w = w' := by
  obtain ⟨a, rfl⟩ : ∃ n : Nat, a = n := ⟨a.toNat, by omega⟩
  have hs' : (⟨s.toArray⟩ : ByteArray).size ≤ 9223372036854775807 := by show s.length ≤ _; omega
  by_cases hlt : a < s.length
  · have e1 := slice_at1 ⟨s.toArray⟩ a hlt
    rw [one_letter' s a hlt] at e1
    have hd : (baL [s.getD a 0]).size ≤ 9223372036854775807 := by show 1 ≤ _; omega
    have e4 : namesI ts s a = if refsB (tsP ts) (baL [s.getD a 0]) = true then ((s.getD a 0).toNat : Int) - 48 else -1 := by
      unfold namesI
      simp only [Int.toNat_natCast]
      by_cases hr : refsB (tsP ts) (baL [s.getD a 0]) = true
      · rw [if_pos ⟨by omega, by omega, hr⟩, if_pos hr]
      · rw [if_neg (fun h => hr h.2.2), if_neg hr]
    have e5 : (⟨s.toArray⟩ : ByteArray)[a]'hlt = s.getD a 0 := by
      rw [List.getD_eq_getElem?_getD, List.getElem?_eq_getElem hlt]; rfl
    rw [e4]
    rcases hr : refsB (tsP ts) (baL [s.getD a 0]) with _ | _
    · rw [if_neg (by simp)]
      exact at_f v (tsP ts) ⟨s.toArray⟩ _ a w h hs' hd (by omega) hlt e1 (Lib.hid hr)
    · rw [if_pos rfl]
      have h48 := ((refs_list.1 hr).2 (s.getD a 0) (by simp)).1
      have := at_t v (tsP ts) ⟨s.toArray⟩ _ a w h hs' hd (by omega) hlt e1 (Lib.hid hr) (by rw [e5]; exact h48) (UInt8.toNat_lt _)
      rw [e5] at this
      exact this
  · rw [names_no (by omega)]
    obtain ⟨x, c, rfl, -, -⟩ := h.shape
    exact at_out _ ⟨s.toArray⟩ a w hs' (by omega) (by show s.length ≤ a; omega) ⟨_, _, _, rfl⟩
theorem rlocal_n (v : Value) (p : PProg) (a z : Int) (w : World) (h : ProgAt w v p) (hs : OkP p) (hl : p.locals.length ≤ 200) (h0 : 0 ≤ a) (ha : a ≤ 255) (hz : localI p a = z) : Calls Tryz.prog 83 #[v, .int .u8 a] w (AggPost w (.int .i64 z)) := by
  obtain ⟨vt, vc, rfl, ht, hc⟩ := h
  have hwb : Below w.heap.size w (w.alloc (.cells (progC vt p vc) 25)) := (Below.refl _ _).alloc (Nat.le_refl _) _
  have HN := Lib.hid (at_any vt p.types p.locals a _ (ts_of (ht.below hwb) hs.ty) hl h0 ha)
  have HW := Lib.hid hwb
  obtain ⟨x, c, rfl, -, -, -⟩ := id ht.elems
  obtain ⟨x', c', rfl, -, -, -⟩ := id hc
  have HZ := Lib.hid hz
  clear ht hc hs hwb hz
  go_enter Tryz.func83, Tryz.ntmps83
  go_wp2_with (go_at_call 128; refine HN.out.mono ?_; rintro e w' ⟨rfl, rfl⟩)
  go_ret
  exact ⟨by rw [← HZ.out]; rfl, HW.out⟩
theorem rglob_n (v : Value) (p : PProg) (a z : Int) (w : World) (h : ProgAt w v p) (hs : OkP p) (hl : p.globs.length ≤ 200) (h0 : 0 ≤ a) (ha : a ≤ 255) (hz : globI p a = z) : Calls Tryz.prog 87 #[v, .int .u8 a] w (AggPost w (.int .i64 z)) := by
  obtain ⟨vt, vc, rfl, ht, hc⟩ := h
  have hwb : Below w.heap.size w (w.alloc (.cells (progC vt p vc) 25)) := (Below.refl _ _).alloc (Nat.le_refl _) _
  have HN := Lib.hid (at_any vt p.types p.globs a _ (ts_of (ht.below hwb) hs.ty) hl h0 ha)
  have HW := Lib.hid hwb
  obtain ⟨x, c, rfl, -, -, -⟩ := id ht.elems
  obtain ⟨x', c', rfl, -, -, -⟩ := id hc
  have HZ := Lib.hid hz
  clear ht hc hs hwb hz
  go_enter Tryz.func87, Tryz.ntmps87
  go_wp2_with (go_at_call 128; refine HN.out.mono ?_; rintro e w' ⟨rfl, rfl⟩)
  go_ret
  exact ⟨by rw [← HZ.out]; rfl, HW.out⟩
theorem one_n (s t : Int) (b : Bool) (w : World) (hb : sameT s t = b) : Calls Tryz.prog 84 #[.int .i64 s, .int .i64 t] w fun e w' => e = .returned (.bool b) ∧ w = w' := by
  unfold sameT at hb
  have HB := Lib.hid hb
  clear hb
  by_cases h : 0 ≤ s
  · by_cases h2 : s = t
    · have e1 : (s == t) = true := by simp [h2]
      have HS := Lib.hid h2
      clear h2
      go_enter Tryz.func84, Tryz.ntmps84
      go_wp2
      go_ret
      exact ⟨ret_bool (by rw [← HB.out]; have := HS.out; simp; omega), rfl⟩
    · have e1 : (s == t) = false := by simp [h2]
      have HS := Lib.hid h2
      clear h2
      go_enter Tryz.func84, Tryz.ntmps84
      go_wp2
      go_ret
      exact ⟨ret_bool (by rw [← HB.out]; have := HS.out; simp; omega), rfl⟩
  · go_enter Tryz.func84, Tryz.ntmps84
    go_wp2
    go_ret
    exact ⟨ret_bool (by rw [← HB.out]; simp; omega), rfl⟩
theorem rnum_n (v : Value) (p : PProg) (t n : Int) (b : Bool) (w : World) (h : ProgAt w v p) (hs : OkP p) (hb : numF p.types t n = b) : Calls Tryz.prog 85 #[v, .int .i64 t, .int .i64 n] w (AggPost w (.bool b)) := by
  obtain ⟨vt, vc, rfl, ht, hc⟩ := h
  have hwb : Below w.heap.size w (w.alloc (.cells (progC vt p vc) 25)) := (Below.refl _ _).alloc (Nat.le_refl _) _
  have HT := Lib.hid (ts_of (ht.below hwb) hs.ty)
  have HW := Lib.hid hwb
  obtain ⟨x, c, rfl, -, -, -⟩ := id ht.elems
  obtain ⟨x', c', rfl, -, -, -⟩ := id hc
  obtain ⟨z0, z1⟩ := sizeI_le (ts := tsP p.types) (t := t)
  obtain ⟨y0, y1⟩ := toI_le (ts := tsP p.types) (t := t) (f := n)
  have hnum : numF p.types t n = (decide (0 ≤ n) && decide (n < sizeI (tsP p.types) t) && decide (toI (tsP p.types) t n < 0)) := rfl
  rw [hnum] at hb
  generalize hzz : sizeI (tsP p.types) t = z at *
  generalize hyy : toI (tsP p.types) t n = y at *
  have HZ := Lib.hid hzz
  have HY := Lib.hid hyy
  have HB := Lib.hid hb
  clear ht hc hs hwb hb hzz hyy hnum
  by_cases h0 : 0 ≤ n
  · by_cases h1 : n < z
    all_goals
      go_enter Tryz.func85, Tryz.ntmps85
      go_wp2_with (first
        | (go_at_call 129; refine (rsize_n _ (tsP p.types) t z _ HT.out HZ).mono ?_; rintro e w' ⟨rfl, rfl⟩)
        | (go_at_call 130; refine (rto_n _ (tsP p.types) t n y _ HT.out HY).mono ?_; rintro e w' ⟨rfl, rfl⟩))
      go_ret
      exact ⟨ret_bool (by rw [← HB.out]; simp; omega), HW.out⟩
  · go_enter Tryz.func85, Tryz.ntmps85
    go_wp2
    go_ret
    exact ⟨ret_bool (by rw [← HB.out]; simp; omega), HW.out⟩
theorem toP_out {ts : List Bs} {t n : Int} (h : n < 0 ∨ 6 < n) : toP ts t n = -1 := by
  have h2 := (sizeI_le (ts := tsP ts) (t := t)).2
  unfold sizeI at h2
  unfold toP toI
  rw [if_neg]
  rintro ⟨h1, h3, h4⟩
  rw [if_pos h1] at h2
  omega
theorem rpts_n (v : Value) (p : PProg) (t n z : Int) (w : World) (h : ProgAt w v p) (hs : OkP p) (hz : toP p.types t n = z) : Calls Tryz.prog 86 #[v, .int .i64 t, .int .i64 n] w (AggPost w (.int .i64 z)) := by
  obtain ⟨vt, vc, rfl, ht, hc⟩ := h
  have hwb : Below w.heap.size w (w.alloc (.cells (progC vt p vc) 25)) := (Below.refl _ _).alloc (Nat.le_refl _) _
  have HT := Lib.hid (ts_of (ht.below hwb) hs.ty)
  have HW := Lib.hid hwb
  obtain ⟨x, c, rfl, -, -, -⟩ := id ht.elems
  obtain ⟨x', c', rfl, -, -, -⟩ := id hc
  by_cases hn : n < 0 ∨ 6 < n
  · obtain rfl : z = -1 := by rw [← hz]; exact toP_out hn
    clear ht hc hs hwb hz
    rcases hn with hn | hn
    all_goals
      go_enter Tryz.func86, Tryz.ntmps86
      go_wp2
      go_ret
      exact ⟨rfl, HW.out⟩
  · have HY : Hid (toI (tsP p.types) t n = z) := Lib.hid hz
    have h0 : 0 ≤ n := by omega
    have h6 : n ≤ 6 := by omega
    clear ht hc hs hwb hz hn
    go_enter Tryz.func86, Tryz.ntmps86
    go_wp2_with (go_at_call 130; refine (rto_n _ (tsP p.types) t n z _ HT.out HY).mono ?_; rintro e w' ⟨rfl, rfl⟩)
    go_ret
    exact ⟨rfl, HW.out⟩
end Go.Proofs.YtcjhgibhenocpaaGreatDoor

/- The document's ints and kinds: contracts. -/
namespace Go.Proofs.YtcjhgibhenocpaaGreatDoor
set_option linter.unusedSimpArgs false
set_option linter.unusedVariables false
open Go.RowKit

set_option maxRecDepth 100000 in
set_option maxHeartbeats 2000000 in
theorem rints_n (i : PIns) (r : Bool) (w : World) (hi : OkI i) (hR : rightL i = true) (hr : intsB i = r) : Calls Tryz.prog 39 #[insV i] w (AggPost w (.bool r)) := by
  have hop := right_op hR
  obtain ⟨op, a, b, c, n⟩ := i
  obtain ⟨o0, o1, a0, a1, b0, b1, c0, c1, n0, n1⟩ := hi
  simp only at *
  clear hR
  have HR := Lib.hid hr
  have hw := Lib.hid ((Below.refl w.heap.size w).alloc (Nat.le_refl _) (.cells #[.int .u8 op, .int .u8 a, .int .u8 b, .int .u8 c, .int .i64 n] 60))
  clear hr
  rcases hop with rfl | rfl | rfl | rfl | rfl | rfl | rfl | rfl | rfl | rfl | rfl | rfl | rfl | rfl | rfl
  · by_cases h8 : a < 8
    all_goals
      go_enter Tryz.func39, Tryz.ntmps39
      go_wp2
      go_ret
      exact ⟨ret_bool (by rw [← HR.out]; unfold intsB; simp; omega), hw.out⟩
  · by_cases h8 : a < 8
    · by_cases h9 : b < 8
      · by_cases h10 : c < 8
        all_goals
          go_enter Tryz.func39, Tryz.ntmps39
          go_wp2
          go_ret
          exact ⟨ret_bool (by rw [← HR.out]; unfold intsB; simp; omega), hw.out⟩
      · go_enter Tryz.func39, Tryz.ntmps39
        go_wp2
        go_ret
        exact ⟨ret_bool (by rw [← HR.out]; unfold intsB; simp; omega), hw.out⟩
    · go_enter Tryz.func39, Tryz.ntmps39
      go_wp2
      go_ret
      exact ⟨ret_bool (by rw [← HR.out]; unfold intsB; simp; omega), hw.out⟩
  · go_enter Tryz.func39, Tryz.ntmps39
    go_wp2
    go_ret
    exact ⟨ret_bool (by rw [← HR.out]; rfl), hw.out⟩
  · by_cases h8 : a < 8
    all_goals
      go_enter Tryz.func39, Tryz.ntmps39
      go_wp2
      go_ret
      exact ⟨ret_bool (by rw [← HR.out]; unfold intsB; simp; omega), hw.out⟩
  · go_enter Tryz.func39, Tryz.ntmps39
    go_wp2
    go_ret
    exact ⟨ret_bool (by rw [← HR.out]; rfl), hw.out⟩
  · go_enter Tryz.func39, Tryz.ntmps39
    go_wp2
    go_ret
    exact ⟨ret_bool (by rw [← HR.out]; rfl), hw.out⟩
  · go_enter Tryz.func39, Tryz.ntmps39
    go_wp2
    go_ret
    exact ⟨ret_bool (by rw [← HR.out]; rfl), hw.out⟩
  · by_cases h8 : a < 8
    all_goals
      go_enter Tryz.func39, Tryz.ntmps39
      go_wp2
      go_ret
      exact ⟨ret_bool (by rw [← HR.out]; unfold intsB; simp; omega), hw.out⟩
  · by_cases h8 : b < 8
    all_goals
      go_enter Tryz.func39, Tryz.ntmps39
      go_wp2
      go_ret
      exact ⟨ret_bool (by rw [← HR.out]; unfold intsB; simp; omega), hw.out⟩
  · go_enter Tryz.func39, Tryz.ntmps39
    go_wp2
    go_ret
    exact ⟨ret_bool (by rw [← HR.out]; rfl), hw.out⟩
  · go_enter Tryz.func39, Tryz.ntmps39
    go_wp2
    go_ret
    exact ⟨ret_bool (by rw [← HR.out]; rfl), hw.out⟩
  · go_enter Tryz.func39, Tryz.ntmps39
    go_wp2
    go_ret
    exact ⟨ret_bool (by rw [← HR.out]; rfl), hw.out⟩
  · go_enter Tryz.func39, Tryz.ntmps39
    go_wp2
    go_ret
    exact ⟨ret_bool (by rw [← HR.out]; rfl), hw.out⟩
  · by_cases h8 : a < 8
    all_goals
      go_enter Tryz.func39, Tryz.ntmps39
      go_wp2
      go_ret
      exact ⟨ret_bool (by rw [← HR.out]; unfold intsB; simp; omega), hw.out⟩
  · by_cases h8 : a < 8
    all_goals
      go_enter Tryz.func39, Tryz.ntmps39
      go_wp2
      go_ret
      exact ⟨ret_bool (by rw [← HR.out]; unfold intsB; simp; omega), hw.out⟩

set_option maxRecDepth 100000 in
set_option maxHeartbeats 4000000 in
theorem rkinds_at (w W0 : World) (p : PProg) (op a b c n la lb : Int) (x x' : Option Addr) (k k' : Nat) (r : Bool)
    (hW0 : W0 = ((w.alloc (.cells #[.slice x p.types.length k, str p.locals, str p.globs, .slice x' p.code.length k'] 25)).alloc (.cells #[.int .u8 op, .int .u8 a, .int .u8 b, .int .u8 c, .int .i64 n] 60)))
    (KP : Hid (Keep W0 w.heap.size (.slice x p.types.length k) (.slice x' p.code.length k') p)) (KI : Hid (blk W0 (w.heap.size + 1) #[.int .u8 op, .int .u8 a, .int .u8 b, .int .u8 c, .int .i64 n] 60)) (HS : Hid (Below w.heap.size w W0))
    (a0 : 0 ≤ a) (a1 : a ≤ 255) (b0 : 0 ≤ b) (b1 : b ≤ 255) (c0 : 0 ≤ c) (c1 : c ≤ 255) (n0 : -9223372036854775808 ≤ n) (n1 : n ≤ 9223372036854775807) (la0 : -1 ≤ la) (la1 : la ≤ 207) (lb0 : -1 ≤ lb) (lb1 : lb ≤ 207)
    (hop : op = 1 ∨ op = 2 ∨ op = 3 ∨ op = 4 ∨ op = 5 ∨ op = 6 ∨ op = 7 ∨ op = 8 ∨ op = 9 ∨ op = 10 ∨ op = 11 ∨ op = 12 ∨ op = 13 ∨ op = 14 ∨ op = 15)
    (HLA : Hid (∀ w1, Below W0.heap.size W0 w1 → Calls Tryz.prog 83 #[.agg #[.slice x p.types.length k, str p.locals, str p.globs, .slice x' p.code.length k'], .int .u8 a] w1 (AggPost w1 (.int .i64 la))))
    (HLB : Hid (∀ w1, Below W0.heap.size W0 w1 → Calls Tryz.prog 83 #[.agg #[.slice x p.types.length k, str p.locals, str p.globs, .slice x' p.code.length k'], .int .u8 b] w1 (AggPost w1 (.int .i64 lb))))
    (HLC : Hid (∀ w1, Below W0.heap.size W0 w1 → Calls Tryz.prog 83 #[.agg #[.slice x p.types.length k, str p.locals, str p.globs, .slice x' p.code.length k'], .int .u8 c] w1 (AggPost w1 (.int .i64 (localI p c)))))
    (HGL : Hid (∀ w1 a, Below W0.heap.size W0 w1 → 0 ≤ a → a ≤ 255 → Calls Tryz.prog 87 #[.agg #[.slice x p.types.length k, str p.locals, str p.globs, .slice x' p.code.length k'], .int .u8 a] w1 (AggPost w1 (.int .i64 (globI p a)))))
    (HNU : Hid (∀ w1 t, Below W0.heap.size W0 w1 → Calls Tryz.prog 85 #[.agg #[.slice x p.types.length k, str p.locals, str p.globs, .slice x' p.code.length k'], .int .i64 t, .int .i64 n] w1 (AggPost w1 (.bool (numF p.types t n)))))
    (HPT : Hid (∀ w1 t, Below W0.heap.size W0 w1 → Calls Tryz.prog 86 #[.agg #[.slice x p.types.length k, str p.locals, str p.globs, .slice x' p.code.length k'], .int .i64 t, .int .i64 n] w1 (AggPost w1 (.int .i64 (toP p.types t n)))))
    (hla : Hid (localI p a = la)) (hlb : Hid (localI p b = lb)) (hr : Hid (kindsB p ⟨op, a, b, c, n⟩ = r)) :
    Calls Tryz.prog 40 #[.agg #[.slice x p.types.length k, str p.locals, str p.globs, .slice x' p.code.length k'], .agg #[.int .u8 op, .int .u8 a, .int .u8 b, .int .u8 c, .int .i64 n]] w (AggPost w (.bool r)) := by
  have HB := Lib.hid (Below.refl W0.heap.size W0)
  have hop' := Lib.hid hop
  clear hop
  go_enter Tryz.func40, Tryz.ntmps40
  go_wp2_with (fail)
  rw [← hW0]
  clear hW0
  obtain ⟨p0, p1, p2, p3⟩ := KP.out.cells
  have i0 := blk_cell KI.out 0 _ rfl
  have i1 := blk_cell KI.out 1 _ rfl
  have i2 := blk_cell KI.out 2 _ rfl
  go_region_held3 (fun w' => w'.cell? ⟨w.heap.size, 0, none⟩ = some (.slice x p.types.length k) ∧ w'.cell? ⟨w.heap.size, 1, none⟩ = some (str p.locals) ∧ w'.cell? ⟨w.heap.size, 2, none⟩ = some (str p.globs) ∧ w'.cell? ⟨w.heap.size, 3, none⟩ = some (.slice x' p.code.length k') ∧ w'.cell? ⟨w.heap.size + 1, 1, none⟩ = some (.int .u8 a) ∧ w'.cell? ⟨w.heap.size + 1, 2, none⟩ = some (.int .u8 b)) (go_keep) (first
    | (go_at_call 83; ((with_reducible refine (HLA.out _ ?_).mono ?_); (first | exact HB.out.drew | exact HB.out); rintro e w5 ⟨rfl, hb⟩; have HB5 := Lib.hid (HB.out.drew.trans (hb.mono HB.out.size)); have KP5 := Lib.hid (Keep.below (W := W0.drew) (⟨KP.out.1, KP.out.2.below (Below.refl _ _).drew⟩) hb); have KI5 := Lib.hid (blk_below (show blk W0.drew (w.heap.size + 1) #[.int .u8 op, .int .u8 a, .int .u8 b, .int .u8 c, .int .i64 n] 60 from KI.out) hb); clear hb p0 p1 p2 p3 i0 i1 i2; obtain ⟨p0, p1, p2, p3⟩ := KP5.out.cells; have i1 := blk_cell KI5.out 1 _ rfl; have i2 := blk_cell KI5.out 2 _ rfl))
    | (go_at_call 83; ((with_reducible refine (HLB.out _ HB5.out).mono ?_); rintro e w6 ⟨rfl, hb⟩; have HB6 := Lib.hid (HB5.out.trans (hb.mono HB5.out.size)); have KP6 := Lib.hid (KP5.out.below hb); have KI6 := Lib.hid (blk_below KI5.out hb); clear hb p0 p1 p2 p3 i1 i2; obtain ⟨p0, p1, p2, p3⟩ := KP6.out.cells; have i1 := blk_cell KI6.out 1 _ rfl; have i2 := blk_cell KI6.out 2 _ rfl)))
  all_goals
    have j0 := blk_cell KI6.out 0 _ rfl
    have j3 := blk_cell KI6.out 3 _ rfl
    have j4 := blk_cell KI6.out 4 _ rfl
    clear HLA HLB KP5 KI5 HB5 HB
    have HB := Lib.hid HB6.out
    clear HB6
    have hla := hla.out
    have hlb := hlb.out
    rcases hop'.out with rfl | rfl | rfl | rfl | rfl | rfl | rfl | rfl | rfl | rfl | rfl | rfl | rfl | rfl | rfl
  · clear hla hlb
    go_wp2
    go_ret
    exact ⟨ret_bool (by rw [← hr.out]; rfl), HS.out.trans (HB.out.mono HS.out.size)⟩
  · clear hla hlb
    go_wp2
    go_ret
    exact ⟨ret_bool (by rw [← hr.out]; rfl), HS.out.trans (HB.out.mono HS.out.size)⟩
  · clear hla hlb
    go_wp2
    go_ret
    exact ⟨ret_bool (by rw [← hr.out]; rfl), HS.out.trans (HB.out.mono HS.out.size)⟩
  · clear hla hlb
    go_wp2
    go_ret
    exact ⟨ret_bool (by rw [← hr.out]; rfl), HS.out.trans (HB.out.mono HS.out.size)⟩
  · have HLA := Lib.hid hla
    clear hla hlb
    by_cases hl : 0 ≤ la
    all_goals
      go_wp2
      go_ret
      exact ⟨ret_bool (by rw [← hr.out]; unfold kindsB; simp [HLA.out]; omega), HS.out.trans (HB.out.mono HS.out.size)⟩
  · have HLA := Lib.hid hla
    clear hla hlb
    by_cases hl : 0 ≤ la
    all_goals
      go_wp2
      go_ret
      exact ⟨ret_bool (by rw [← hr.out]; unfold kindsB; simp [HLA.out]; omega), HS.out.trans (HB.out.mono HS.out.size)⟩
  · have HLA := Lib.hid hla
    have HLB := Lib.hid hlb
    clear hla hlb
    go_wp2_with (go_at_call 84; refine (one_n la lb _ _ rfl).mono ?_; rintro e w' ⟨rfl, rfl⟩)
    go_ret
    exact ⟨ret_bool (by rw [← hr.out]; unfold kindsB; simp [HLA.out, HLB.out]), HS.out.trans (HB.out.mono HS.out.size)⟩
  · have HT := Lib.hid hlb
    clear hla hlb
    by_cases hl : 0 ≤ lb
    · go_wp2_with (first
        | (refine wpList_loadB rfl 25 _ rfl w.heap.size (progC (.slice x p.types.length k) p (.slice x' p.code.length k')) rfl 25 KP6.out.blk _ Tryz.underlying25 rfl prog_info ?_)
        | (go_at_call 85; refine (HNU.out _ lb HB.out).mono ?_; rintro e w8 ⟨rfl, hb8⟩))
      go_ret
      have hz := HB.out.size
      exact ⟨ret_bool (by rw [← hr.out]; show _ = (decide (0 ≤ localI p b) && numF p.types (localI p b) n); rw [HT.out, decide_eq_true hl, Bool.true_and]), HS.out.trans ((HB.out.trans (hb8.mono hz)).mono HS.out.size)⟩
    · go_wp2
      go_ret
      exact ⟨ret_bool (by rw [← hr.out]; show _ = (decide (0 ≤ localI p b) && numF p.types (localI p b) n); rw [HT.out, decide_eq_false (show ¬ 0 ≤ lb by omega), Bool.false_and]), HS.out.trans (HB.out.mono HS.out.size)⟩
  · have HT := Lib.hid hla
    clear hla hlb
    by_cases hl : 0 ≤ la
    · go_wp2_with (first
        | (refine wpList_loadB rfl 25 _ rfl w.heap.size (progC (.slice x p.types.length k) p (.slice x' p.code.length k')) rfl 25 KP6.out.blk _ Tryz.underlying25 rfl prog_info ?_)
        | (go_at_call 85; refine (HNU.out _ la HB.out).mono ?_; rintro e w8 ⟨rfl, hb8⟩))
      go_ret
      have hz := HB.out.size
      exact ⟨ret_bool (by rw [← hr.out]; show _ = (decide (0 ≤ localI p a) && numF p.types (localI p a) n); rw [HT.out, decide_eq_true hl, Bool.true_and]), HS.out.trans ((HB.out.trans (hb8.mono hz)).mono HS.out.size)⟩
    · go_wp2
      go_ret
      exact ⟨ret_bool (by rw [← hr.out]; show _ = (decide (0 ≤ localI p a) && numF p.types (localI p a) n); rw [HT.out, decide_eq_false (show ¬ 0 ≤ la by omega), Bool.false_and]), HS.out.trans (HB.out.mono HS.out.size)⟩
  · have HT := Lib.hid hlb
    have HX := Lib.hid hla
    clear hla hlb
    by_cases hl : 0 ≤ lb
    · go_wp2_with (first
        | (refine wpList_loadB rfl 25 _ rfl w.heap.size (progC (.slice x p.types.length k) p (.slice x' p.code.length k')) rfl 25 KP6.out.blk _ Tryz.underlying25 rfl prog_info ?_)
        | (go_at_call 86; refine (HPT.out _ lb HB.out).mono ?_; rintro e w8 ⟨rfl, hb8⟩)
        | (go_at_call 84; refine (one_n la _ _ _ rfl).mono ?_; rintro e w' ⟨rfl, rfl⟩))
      go_ret
      have hz := HB.out.size
      exact ⟨ret_bool (by rw [← hr.out]; show _ = (decide (0 ≤ localI p b) && sameT (localI p a) (toP p.types (localI p b) n)); rw [HT.out, HX.out, decide_eq_true hl, Bool.true_and]), HS.out.trans ((HB.out.trans (hb8.mono hz)).mono HS.out.size)⟩
    · go_wp2
      go_ret
      exact ⟨ret_bool (by rw [← hr.out]; show _ = (decide (0 ≤ localI p b) && sameT (localI p a) (toP p.types (localI p b) n)); rw [HT.out, decide_eq_false (show ¬ 0 ≤ lb by omega), Bool.false_and]), HS.out.trans (HB.out.mono HS.out.size)⟩
  · have HT := Lib.hid hla
    have HX := Lib.hid hlb
    clear hla hlb
    by_cases hl : 0 ≤ la
    · go_wp2_with (first
        | (refine wpList_loadB rfl 25 _ rfl w.heap.size (progC (.slice x p.types.length k) p (.slice x' p.code.length k')) rfl 25 KP6.out.blk _ Tryz.underlying25 rfl prog_info ?_)
        | (go_at_call 86; refine (HPT.out _ la HB.out).mono ?_; rintro e w8 ⟨rfl, hb8⟩)
        | (go_at_call 84; refine (one_n lb _ _ _ rfl).mono ?_; rintro e w' ⟨rfl, rfl⟩))
      go_ret
      have hz := HB.out.size
      exact ⟨ret_bool (by rw [← hr.out]; show _ = (decide (0 ≤ localI p a) && sameT (localI p b) (toP p.types (localI p a) n)); rw [HT.out, HX.out, decide_eq_true hl, Bool.true_and]), HS.out.trans ((HB.out.trans (hb8.mono hz)).mono HS.out.size)⟩
    · go_wp2
      go_ret
      exact ⟨ret_bool (by rw [← hr.out]; show _ = (decide (0 ≤ localI p a) && sameT (localI p b) (toP p.types (localI p a) n)); rw [HT.out, decide_eq_false (show ¬ 0 ≤ la by omega), Bool.false_and]), HS.out.trans (HB.out.mono HS.out.size)⟩
  · have HX := Lib.hid hla
    clear hla hlb
    go_wp2_with (first
      | (refine wpList_loadB rfl 25 _ rfl w.heap.size (progC (.slice x p.types.length k) p (.slice x' p.code.length k')) rfl 25 KP6.out.blk _ Tryz.underlying25 rfl prog_info ?_)
      | (go_at_call 87; refine (HGL.out _ b HB.out b0 b1).mono ?_; rintro e w8 ⟨rfl, hb8⟩)
      | (go_at_call 84; refine (one_n la _ _ _ rfl).mono ?_; rintro e w' ⟨rfl, rfl⟩))
    go_ret
    have hz := HB.out.size
    exact ⟨ret_bool (by rw [← hr.out]; unfold kindsB; simp [HX.out]), HS.out.trans ((HB.out.trans (hb8.mono hz)).mono HS.out.size)⟩
  · have HX := Lib.hid hlb
    clear hla hlb
    go_wp2_with (first
      | (refine wpList_loadB rfl 25 _ rfl w.heap.size (progC (.slice x p.types.length k) p (.slice x' p.code.length k')) rfl 25 KP6.out.blk _ Tryz.underlying25 rfl prog_info ?_)
      | (go_at_call 87; refine (HGL.out _ a HB.out a0 a1).mono ?_; rintro e w8 ⟨rfl, hb8⟩)
      | (go_at_call 84; refine (one_n lb _ _ _ rfl).mono ?_; rintro e w' ⟨rfl, rfl⟩))
    go_ret
    have hz := HB.out.size
    exact ⟨ret_bool (by rw [← hr.out]; unfold kindsB; simp [HX.out]), HS.out.trans ((HB.out.trans (hb8.mono hz)).mono HS.out.size)⟩
  · clear hla hlb
    go_wp2
    go_ret
    exact ⟨ret_bool (by rw [← hr.out]; rfl), HS.out.trans (HB.out.mono HS.out.size)⟩
  · have HX := Lib.hid hlb
    clear hla hlb
    go_wp2_with (first
      | (refine wpList_loadB rfl 25 _ rfl w.heap.size (progC (.slice x p.types.length k) p (.slice x' p.code.length k')) rfl 25 KP6.out.blk _ Tryz.underlying25 rfl prog_info ?_)
      | (go_at_call 83; refine (HLC.out _ HB.out).mono ?_; rintro e w8 ⟨rfl, hb8⟩)
      | (go_at_call 84; refine (one_n lb _ _ _ rfl).mono ?_; rintro e w' ⟨rfl, rfl⟩))
    go_ret
    have hz := HB.out.size
    exact ⟨ret_bool (by rw [← hr.out]; unfold kindsB; simp [HX.out]), HS.out.trans ((HB.out.trans (hb8.mono hz)).mono HS.out.size)⟩

theorem rkinds_n (v : Value) (p : PProg) (i : PIns) (r : Bool) (w : World) (h : ProgAt w v p) (hs : OkP p) (hi : OkI i) (hR : rightL i = true) (hlo : p.locals.length ≤ 200) (hgl : p.globs.length ≤ 200) (hr : kindsB p i = r) : Calls Tryz.prog 40 #[v, insV i] w (AggPost w (.bool r)) := by
  have hop := right_op hR
  obtain ⟨vt, vc, rfl, ht, hc⟩ := id h
  obtain ⟨x, k, rfl, -, -, -⟩ := id ht.elems
  obtain ⟨x', k', rfl, -, -, -⟩ := id hc
  obtain ⟨op, a, b, c, n⟩ := i
  obtain ⟨o0, o1, a0, a1, b0, b1, c0, c1, n0, n1⟩ := hi
  simp only at *
  have hsz : (w.alloc (.cells #[.slice x p.types.length k, str p.locals, str p.globs, .slice x' p.code.length k'] 25)).heap.size = w.heap.size + 1 := World.size_alloc _ _
  have hwb : Below w.heap.size w ((w.alloc (.cells #[.slice x p.types.length k, str p.locals, str p.globs, .slice x' p.code.length k'] 25)).alloc (.cells #[.int .u8 op, .int .u8 a, .int .u8 b, .int .u8 c, .int .i64 n] 60)) := ((Below.refl _ _).alloc (Nat.le_refl _) _).alloc (by omega) _
  have kp : Keep ((w.alloc (.cells #[.slice x p.types.length k, str p.locals, str p.globs, .slice x' p.code.length k'] 25)).alloc (.cells #[.int .u8 op, .int .u8 a, .int .u8 b, .int .u8 c, .int .i64 n] 60)) w.heap.size (.slice x p.types.length k) (.slice x' p.code.length k') p := (keep_new h).below ((Below.refl _ _).alloc (Nat.le_refl _) _)
  have ki : blk ((w.alloc (.cells #[.slice x p.types.length k, str p.locals, str p.globs, .slice x' p.code.length k'] 25)).alloc (.cells #[.int .u8 op, .int .u8 a, .int .u8 b, .int .u8 c, .int .i64 n] 60)) (w.heap.size + 1) #[.int .u8 op, .int .u8 a, .int .u8 b, .int .u8 c, .int .i64 n] 60 := by rw [← hsz]; exact blk_new _ _ _
  generalize hW0 : ((w.alloc (.cells #[.slice x p.types.length k, str p.locals, str p.globs, .slice x' p.code.length k'] 25)).alloc (.cells #[.int .u8 op, .int .u8 a, .int .u8 b, .int .u8 c, .int .i64 n] 60)) = W0 at hwb kp ki
  have hp := kp.at'
  exact rkinds_at w W0 p op a b c n (localI p a) (localI p b) x x' k k' r hW0.symm (Lib.hid kp) (Lib.hid ki) (Lib.hid hwb) a0 a1 b0 b1 c0 c1 n0 n1 names_le.1 names_le.2 names_le.1 names_le.2 hop
    (Lib.hid fun w1 hb => rlocal_n _ p a _ w1 (hp.below hb) hs hlo a0 a1 rfl) (Lib.hid fun w1 hb => rlocal_n _ p b _ w1 (hp.below hb) hs hlo b0 b1 rfl) (Lib.hid fun w1 hb => rlocal_n _ p c _ w1 (hp.below hb) hs hlo c0 c1 rfl)
    (Lib.hid fun w1 a hb h0 h1 => rglob_n _ p a _ w1 (hp.below hb) hs hgl h0 h1 rfl) (Lib.hid fun w1 t hb => rnum_n _ p t n _ w1 (hp.below hb) hs rfl) (Lib.hid fun w1 t hb => rpts_n _ p t n _ w1 (hp.below hb) hs rfl)
    (Lib.hid rfl) (Lib.hid rfl) (Lib.hid hr)
end Go.Proofs.YtcjhgibhenocpaaGreatDoor
