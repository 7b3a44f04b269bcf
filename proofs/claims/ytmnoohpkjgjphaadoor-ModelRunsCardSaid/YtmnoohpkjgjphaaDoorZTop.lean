/-
  The document's at, Local, Glob, number, to, one: contracts.
  The document's ints and kinds: contracts.
  The contract of the document's read.
  The contract of the document's Right.
-/
import Derived.Test.YtmnoohpkjgjphaaDoorHFld
import Derived.Test.YtmnoohpkjgjphaaDoorHFit
import Derived.Test.YtmnoohpkjgjphaaDoorZAll
import Derived.Deep.CutRange
import Derived.Deep.QuietTactic
import Derived.BigQuiet

/- The document's at, Local, Glob, number, to, one: contracts. -/
namespace Go.Proofs.YtmnoohpkjgjphaaDoor
set_option linter.unusedSimpArgs false
set_option linter.unusedVariables false
open Go.RowKit

theorem rrefs_b (v : Value) (ts : List ByteArray) (s : ByteArray) (b : Bool) (w : World) (h : TsAt w v ts) (hs : s.size ≤ 9223372036854775807) (hr : Hid (refsB ts s = b)) : Calls Tryd.prog 29 #[v, .string s] w fun e w' => e = .returned (.bool b) ∧ w = w' :=
  (rrefs_any v ts s w h hs).mono fun e w' ⟨h1, h2⟩ => ⟨by rw [h1, hr.out], h2⟩
theorem rsize_n (v : Value) (ts : List ByteArray) (t z : Int) (w : World) (h : TsAt w v ts) (hz : Hid (sizeI ts t = z)) : Calls Tryd.prog 42 #[v, .int .i64 t] w fun e w' => e = .returned (.int .i64 z) ∧ w = w' :=
  (rsize_any v ts t w h).mono fun e w' ⟨h1, h2⟩ => ⟨by rw [h1, hz.out], h2⟩
theorem rto_n (v : Value) (ts : List ByteArray) (t f z : Int) (w : World) (h : TsAt w v ts) (hz : Hid (toI ts t f = z)) : Calls Tryd.prog 62 #[v, .int .i64 t, .int .i64 f] w fun e w' => e = .returned (.int .i64 z) ∧ w = w' :=
  (rto_any v ts t f w h).mono fun e w' ⟨h1, h2⟩ => ⟨by rw [h1, hz.out], h2⟩
theorem at_out (v : Value) (s : ByteArray) (a : Nat) (w : World) (hs : s.size ≤ 9223372036854775807) (ha : a ≤ 255) (h : s.size ≤ a) (hv : ∃ x n c, v = .slice x n c) :
    Calls Tryd.prog 33 #[v, .string s, .int .u8 a] w fun e w' => e = .returned (.int .i64 (-1)) ∧ w = w' := by
  obtain ⟨x, n, c, rfl⟩ := hv
  go_enter Tryd.func33, Tryd.ntmps33
  go_wp2
  go_ret
  exact ⟨rfl, rfl⟩
theorem at_f (v : Value) (ts : List ByteArray) (s d : ByteArray) (a : Nat) (w : World) (h : TsAt w v ts) (hs : s.size ≤ 9223372036854775807) (hd : d.size ≤ 9223372036854775807) (ha : a ≤ 254) (hlt : a < s.size)
    (h1 : ∀ w, (Instr.slice 9 (.string s) (some (.int .u8 (a : Int))) (some (.int .u8 ((a : Int) + 1))) none).run Tryd.prog w = .ok (.string d) w)
    (hr : Hid (refsB ts d = false)) :
    Calls Tryd.prog 33 #[v, .string s, .int .u8 a] w fun e w' => e = .returned (.int .i64 (-1)) ∧ w = w' := by
  have H := Lib.hid h
  obtain ⟨x, c, rfl, -, -⟩ := h.shape
  clear h
  go_enter Tryd.func33, Tryd.ntmps33
  go_wp2_with (go_at_call 29; refine (rrefs_b _ ts d false _ H.out hd hr).mono ?_; rintro e w' ⟨rfl, rfl⟩)
  go_ret
  exact ⟨rfl, rfl⟩
theorem at_t (v : Value) (ts : List ByteArray) (s d : ByteArray) (a : Nat) (w : World) (h : TsAt w v ts) (hs : s.size ≤ 9223372036854775807) (hd : d.size ≤ 9223372036854775807) (ha : a ≤ 254) (hlt : a < s.size)
    (h1 : ∀ w, (Instr.slice 9 (.string s) (some (.int .u8 (a : Int))) (some (.int .u8 ((a : Int) + 1))) none).run Tryd.prog w = .ok (.string d) w)
    (hr : Hid (refsB ts d = true)) (h48 : 48 ≤ s[a].toNat) (h256 : s[a].toNat < 256) :
    Calls Tryd.prog 33 #[v, .string s, .int .u8 a] w fun e w' => e = .returned (.int .i64 ((s[a].toNat : Int) - 48)) ∧ w = w' := by
  have H := Lib.hid h
  obtain ⟨x, c, rfl, -, -⟩ := h.shape
  clear h
  go_enter Tryd.func33, Tryd.ntmps33
  go_wp2_with (go_at_call 29; refine (rrefs_b _ ts d true _ H.out hd hr).mono ?_; rintro e w' ⟨rfl, rfl⟩)
  go_ret
  exact ⟨rfl, rfl⟩
theorem slice_at1 (s : ByteArray) (a : Nat) (h : a < s.size) (w : World) : (Instr.slice 9 (.string s) (some (.int .u8 (a : Int))) (some (.int .u8 ((a : Int) + 1))) none).run Tryd.prog w = .ok (.string (s.extract a (a + 1))) w := by
  have := run_slice_string (P := Tryd.prog) (w := w) 9 s .u8 .u8 (a : Int) ((a : Int) + 1) Tryd.underlying9 (by omega) (by omega) (by omega)
  simpa using this
theorem one_letter' (s : Bs) (a : Nat) (h : a < s.length) : (⟨s.toArray⟩ : ByteArray).extract a (a + 1) = baL [s.getD a 0] := by
  rw [ByteArray.ext_iff]
  apply Array.ext'
  have e : s.getD a 0 = s[a] := by rw [List.getD_eq_getElem?_getD, List.getElem?_eq_getElem h]; rfl
  rw [e]
  simp [baL, ByteArray.data_extract]
  rw [List.drop_eq_getElem_cons h]
  rfl
theorem at_any (v : Value) (ts : List Bs) (s : Bs) (a : Int) (w : World) (h : TsAt w v (tsP ts)) (hs : s.length ≤ 200) (h0 : 0 ≤ a) (ha : a ≤ 255) :
    Calls Tryd.prog 33 #[v, str s, .int .u8 a] w fun e w' => e = .returned (.int .i64 (namesI ts s a)) ∧ w = w' := by
  obtain ⟨a, rfl⟩ : ∃ n : Nat, a = n := ⟨a.toNat, by omega⟩
  have hs' : (⟨s.toArray⟩ : ByteArray).size ≤ 9223372036854775807 := by show s.length ≤ _; omega
  by_cases hlt : a < s.length
  · have e1 := slice_at1 ⟨s.toArray⟩ a hlt
    rw [one_letter' s a hlt] at e1
    have hd : (baL [s.getD a 0]).size ≤ 9223372036854775807 := by show 1 ≤ _; omega
    have e4 : namesI ts s a = if refsB (tsP ts) (baL [s.getD a 0]) = true then ((s.getD a 0).toNat : Int) - 48 else -1 := by
      unfold namesI
      simp only [Int.toNat_natCast]
      by_cases hr : refsB (tsP ts) (baL [s.getD a 0]) = true
      · rw [if_pos ⟨by omega, by omega, hr⟩, if_pos hr]
      · rw [if_neg (fun h => hr h.2.2), if_neg hr]
    have e5 : (⟨s.toArray⟩ : ByteArray)[a]'hlt = s.getD a 0 := by
      rw [List.getD_eq_getElem?_getD, List.getElem?_eq_getElem hlt]; rfl
    rw [e4]
    rcases hr : refsB (tsP ts) (baL [s.getD a 0]) with _ | _
    · rw [if_neg (by simp)]
      exact at_f v (tsP ts) ⟨s.toArray⟩ _ a w h hs' hd (by omega) hlt e1 (Lib.hid hr)
    · rw [if_pos rfl]
      have h48 := ((refs_list.1 hr).2 (s.getD a 0) (by simp)).1
      have := at_t v (tsP ts) ⟨s.toArray⟩ _ a w h hs' hd (by omega) hlt e1 (Lib.hid hr) (by rw [e5]; exact h48) (UInt8.toNat_lt _)
      rw [e5] at this
      exact this
  · rw [names_no (by omega)]
    obtain ⟨x, c, rfl, -, -⟩ := h.shape
    exact at_out _ ⟨s.toArray⟩ a w hs' (by omega) (by show s.length ≤ a; omega) ⟨_, _, _, rfl⟩
theorem rlocal_n (v : Value) (p : PProg) (a z : Int) (w : World) (h : ProgAt w v p) (hs : OkP p) (hl : p.locals.length ≤ 200) (h0 : 0 ≤ a) (ha : a ≤ 255) (hz : localI p a = z) : Calls Tryd.prog 19 #[v, .int .u8 a] w (AggPost w (.int .i64 z)) := by
  obtain ⟨vt, vc, rfl, ht, hc⟩ := h
  have hwb : Below w.heap.size w (w.alloc (.cells (progC vt p vc) 25)) := (Below.refl _ _).alloc (Nat.le_refl _) _
  have HN := Lib.hid (at_any vt p.types p.locals a _ (ts_of (ht.below hwb) hs.ty) hl h0 ha)
  have HW := Lib.hid hwb
  obtain ⟨x, c, rfl, -, -, -⟩ := id ht.elems
  obtain ⟨x', c', rfl, -, -, -⟩ := id hc
  have HZ := Lib.hid hz
  clear ht hc hs hwb hz
  go_enter Tryd.func19, Tryd.ntmps19
  go_wp2_with (go_at_call 33; refine HN.out.mono ?_; rintro e w' ⟨rfl, rfl⟩)
  go_ret
  exact ⟨by rw [← HZ.out]; rfl, HW.out⟩
theorem rglob_n (v : Value) (p : PProg) (a z : Int) (w : World) (h : ProgAt w v p) (hs : OkP p) (hl : p.globs.length ≤ 200) (h0 : 0 ≤ a) (ha : a ≤ 255) (hz : globI p a = z) : Calls Tryd.prog 20 #[v, .int .u8 a] w (AggPost w (.int .i64 z)) := by
  obtain ⟨vt, vc, rfl, ht, hc⟩ := h
  have hwb : Below w.heap.size w (w.alloc (.cells (progC vt p vc) 25)) := (Below.refl _ _).alloc (Nat.le_refl _) _
  have HN := Lib.hid (at_any vt p.types p.globs a _ (ts_of (ht.below hwb) hs.ty) hl h0 ha)
  have HW := Lib.hid hwb
  obtain ⟨x, c, rfl, -, -, -⟩ := id ht.elems
  obtain ⟨x', c', rfl, -, -, -⟩ := id hc
  have HZ := Lib.hid hz
  clear ht hc hs hwb hz
  go_enter Tryd.func20, Tryd.ntmps20
  go_wp2_with (go_at_call 33; refine HN.out.mono ?_; rintro e w' ⟨rfl, rfl⟩)
  go_ret
  exact ⟨by rw [← HZ.out]; rfl, HW.out⟩
theorem one_n (s t : Int) (b : Bool) (w : World) (hb : sameT s t = b) : Calls Tryd.prog 49 #[.int .i64 s, .int .i64 t] w fun e w' => e = .returned (.bool b) ∧ w = w' := by
  unfold sameT at hb
  have HB := Lib.hid hb
  clear hb
  by_cases h : 0 ≤ s
  · by_cases h2 : s = t
    · have e1 : (s == t) = true := by simp [h2]
      have HS := Lib.hid h2
      clear h2
      go_enter Tryd.func49, Tryd.ntmps49
      go_wp2
      go_ret
      exact ⟨ret_bool (by rw [← HB.out]; have := HS.out; simp; omega), rfl⟩
    · have e1 : (s == t) = false := by simp [h2]
      have HS := Lib.hid h2
      clear h2
      go_enter Tryd.func49, Tryd.ntmps49
      go_wp2
      go_ret
      exact ⟨ret_bool (by rw [← HB.out]; have := HS.out; simp; omega), rfl⟩
  · go_enter Tryd.func49, Tryd.ntmps49
    go_wp2
    go_ret
    exact ⟨ret_bool (by rw [← HB.out]; simp; omega), rfl⟩
theorem rnum_n (v : Value) (p : PProg) (t n : Int) (b : Bool) (w : World) (h : ProgAt w v p) (hs : OkP p) (hb : numF p.types t n = b) : Calls Tryd.prog 50 #[v, .int .i64 t, .int .i64 n] w (AggPost w (.bool b)) := by
  obtain ⟨vt, vc, rfl, ht, hc⟩ := h
  have hwb : Below w.heap.size w (w.alloc (.cells (progC vt p vc) 25)) := (Below.refl _ _).alloc (Nat.le_refl _) _
  have HT := Lib.hid (ts_of (ht.below hwb) hs.ty)
  have HW := Lib.hid hwb
  obtain ⟨x, c, rfl, -, -, -⟩ := id ht.elems
  obtain ⟨x', c', rfl, -, -, -⟩ := id hc
  obtain ⟨z0, z1⟩ := sizeI_le (ts := tsP p.types) (t := t)
  obtain ⟨y0, y1⟩ := toI_le (ts := tsP p.types) (t := t) (f := n)
  have hnum : numF p.types t n = (decide (0 ≤ n) && decide (n < sizeI (tsP p.types) t) && decide (toI (tsP p.types) t n < 0)) := rfl
  rw [hnum] at hb
  generalize hzz : sizeI (tsP p.types) t = z at *
  generalize hyy : toI (tsP p.types) t n = y at *
  have HZ := Lib.hid hzz
  have HY := Lib.hid hyy
  have HB := Lib.hid hb
  clear ht hc hs hwb hb hzz hyy hnum
  by_cases h0 : 0 ≤ n
  · by_cases h1 : n < z
    all_goals
      go_enter Tryd.func50, Tryd.ntmps50
      go_wp2_with (first
        | (go_at_call 42; refine (rsize_n _ (tsP p.types) t z _ HT.out HZ).mono ?_; rintro e w' ⟨rfl, rfl⟩)
        | (go_at_call 62; refine (rto_n _ (tsP p.types) t n y _ HT.out HY).mono ?_; rintro e w' ⟨rfl, rfl⟩))
      go_ret
      exact ⟨ret_bool (by rw [← HB.out]; simp; omega), HW.out⟩
  · go_enter Tryd.func50, Tryd.ntmps50
    go_wp2
    go_ret
    exact ⟨ret_bool (by rw [← HB.out]; simp; omega), HW.out⟩
theorem toP_out {ts : List Bs} {t n : Int} (h : n < 0 ∨ 6 < n) : toP ts t n = -1 := by
  have h2 := (sizeI_le (ts := tsP ts) (t := t)).2
  unfold sizeI at h2
  unfold toP toI
  rw [if_neg]
  rintro ⟨h1, h3, h4⟩
  rw [if_pos h1] at h2
  omega
theorem rpts_n (v : Value) (p : PProg) (t n z : Int) (w : World) (h : ProgAt w v p) (hs : OkP p) (hz : toP p.types t n = z) : Calls Tryd.prog 51 #[v, .int .i64 t, .int .i64 n] w (AggPost w (.int .i64 z)) := by
  obtain ⟨vt, vc, rfl, ht, hc⟩ := h
  have hwb : Below w.heap.size w (w.alloc (.cells (progC vt p vc) 25)) := (Below.refl _ _).alloc (Nat.le_refl _) _
  have HT := Lib.hid (ts_of (ht.below hwb) hs.ty)
  have HW := Lib.hid hwb
  obtain ⟨x, c, rfl, -, -, -⟩ := id ht.elems
  obtain ⟨x', c', rfl, -, -, -⟩ := id hc
  by_cases hn : n < 0 ∨ 6 < n
  · obtain rfl : z = -1 := by rw [← hz]; exact toP_out hn
    clear ht hc hs hwb hz
    rcases hn with hn | hn
    all_goals
      go_enter Tryd.func51, Tryd.ntmps51
      go_wp2
      go_ret
      exact ⟨rfl, HW.out⟩
  · have HY : Hid (toI (tsP p.types) t n = z) := Lib.hid hz
    have h0 : 0 ≤ n := by omega
    have h6 : n ≤ 6 := by omega
    clear ht hc hs hwb hz hn
    go_enter Tryd.func51, Tryd.ntmps51
    go_wp2_with (go_at_call 62; refine (rto_n _ (tsP p.types) t n z _ HT.out HY).mono ?_; rintro e w' ⟨rfl, rfl⟩)
    go_ret
    exact ⟨rfl, HW.out⟩
end Go.Proofs.YtmnoohpkjgjphaaDoor

/- The document's ints and kinds: contracts. -/
namespace Go.Proofs.YtmnoohpkjgjphaaDoor
set_option linter.unusedSimpArgs false
set_option linter.unusedVariables false
open Go.RowKit

set_option maxRecDepth 100000 in
set_option maxHeartbeats 2000000 in
theorem rints_n (i : PIns) (r : Bool) (w : World) (hi : OkI i) (hR : rightL i = true) (hr : intsB i = r) : Calls Tryd.prog 31 #[insV i] w (AggPost w (.bool r)) := by
  have hop := right_op hR
  obtain ⟨op, a, b, c, n⟩ := i
  obtain ⟨o0, o1, a0, a1, b0, b1, c0, c1, n0, n1⟩ := hi
  simp only at *
  clear hR
  have HR := Lib.hid hr
  have hw := Lib.hid ((Below.refl w.heap.size w).alloc (Nat.le_refl _) (.cells #[.int .u8 op, .int .u8 a, .int .u8 b, .int .u8 c, .int .i64 n] 55))
  clear hr
  rcases hop with rfl | rfl | rfl | rfl | rfl | rfl | rfl | rfl | rfl | rfl | rfl | rfl | rfl | rfl | rfl
  · by_cases h8 : a < 8
    all_goals
      go_enter Tryd.func31, Tryd.ntmps31
      go_wp2
      go_ret
      exact ⟨ret_bool (by rw [← HR.out]; unfold intsB; simp; omega), hw.out⟩
  · by_cases h8 : a < 8
    · by_cases h9 : b < 8
      · by_cases h10 : c < 8
        all_goals
          go_enter Tryd.func31, Tryd.ntmps31
          go_wp2
          go_ret
          exact ⟨ret_bool (by rw [← HR.out]; unfold intsB; simp; omega), hw.out⟩
      · go_enter Tryd.func31, Tryd.ntmps31
        go_wp2
        go_ret
        exact ⟨ret_bool (by rw [← HR.out]; unfold intsB; simp; omega), hw.out⟩
    · go_enter Tryd.func31, Tryd.ntmps31
      go_wp2
      go_ret
      exact ⟨ret_bool (by rw [← HR.out]; unfold intsB; simp; omega), hw.out⟩
  · go_enter Tryd.func31, Tryd.ntmps31
    go_wp2
    go_ret
    exact ⟨ret_bool (by rw [← HR.out]; rfl), hw.out⟩
  · by_cases h8 : a < 8
    all_goals
      go_enter Tryd.func31, Tryd.ntmps31
      go_wp2
      go_ret
      exact ⟨ret_bool (by rw [← HR.out]; unfold intsB; simp; omega), hw.out⟩
  · go_enter Tryd.func31, Tryd.ntmps31
    go_wp2
    go_ret
    exact ⟨ret_bool (by rw [← HR.out]; rfl), hw.out⟩
  · go_enter Tryd.func31, Tryd.ntmps31
    go_wp2
    go_ret
    exact ⟨ret_bool (by rw [← HR.out]; rfl), hw.out⟩
  · go_enter Tryd.func31, Tryd.ntmps31
    go_wp2
    go_ret
    exact ⟨ret_bool (by rw [← HR.out]; rfl), hw.out⟩
  · by_cases h8 : a < 8
    all_goals
      go_enter Tryd.func31, Tryd.ntmps31
      go_wp2
      go_ret
      exact ⟨ret_bool (by rw [← HR.out]; unfold intsB; simp; omega), hw.out⟩
  · by_cases h8 : b < 8
    all_goals
      go_enter Tryd.func31, Tryd.ntmps31
      go_wp2
      go_ret
      exact ⟨ret_bool (by rw [← HR.out]; unfold intsB; simp; omega), hw.out⟩
  · go_enter Tryd.func31, Tryd.ntmps31
    go_wp2
    go_ret
    exact ⟨ret_bool (by rw [← HR.out]; rfl), hw.out⟩
  · go_enter Tryd.func31, Tryd.ntmps31
    go_wp2
    go_ret
    exact ⟨ret_bool (by rw [← HR.out]; rfl), hw.out⟩
  · go_enter Tryd.func31, Tryd.ntmps31
    go_wp2
    go_ret
    exact ⟨ret_bool (by rw [← HR.out]; rfl), hw.out⟩
  · go_enter Tryd.func31, Tryd.ntmps31
    go_wp2
    go_ret
    exact ⟨ret_bool (by rw [← HR.out]; rfl), hw.out⟩
  · by_cases h8 : a < 8
    all_goals
      go_enter Tryd.func31, Tryd.ntmps31
      go_wp2
      go_ret
      exact ⟨ret_bool (by rw [← HR.out]; unfold intsB; simp; omega), hw.out⟩
  · by_cases h8 : a < 8
    all_goals
      go_enter Tryd.func31, Tryd.ntmps31
      go_wp2
      go_ret
      exact ⟨ret_bool (by rw [← HR.out]; unfold intsB; simp; omega), hw.out⟩

set_option maxRecDepth 100000 in
set_option maxHeartbeats 4000000 in
theorem rkinds_at (w W0 : World) (p : PProg) (op a b c n la lb : Int) (x x' : Option Addr) (k k' : Nat) (r : Bool)
    (hW0 : W0 = ((w.alloc (.cells #[.slice x p.types.length k, str p.locals, str p.globs, .slice x' p.code.length k'] 25)).alloc (.cells #[.int .u8 op, .int .u8 a, .int .u8 b, .int .u8 c, .int .i64 n] 55)))
    (KP : Hid (Keep W0 w.heap.size (.slice x p.types.length k) (.slice x' p.code.length k') p)) (KI : Hid (blk W0 (w.heap.size + 1) #[.int .u8 op, .int .u8 a, .int .u8 b, .int .u8 c, .int .i64 n] 55)) (HS : Hid (Below w.heap.size w W0))
    (a0 : 0 ≤ a) (a1 : a ≤ 255) (b0 : 0 ≤ b) (b1 : b ≤ 255) (c0 : 0 ≤ c) (c1 : c ≤ 255) (n0 : -9223372036854775808 ≤ n) (n1 : n ≤ 9223372036854775807) (la0 : -1 ≤ la) (la1 : la ≤ 207) (lb0 : -1 ≤ lb) (lb1 : lb ≤ 207)
    (hop : op = 1 ∨ op = 2 ∨ op = 3 ∨ op = 4 ∨ op = 5 ∨ op = 6 ∨ op = 7 ∨ op = 8 ∨ op = 9 ∨ op = 10 ∨ op = 11 ∨ op = 12 ∨ op = 13 ∨ op = 14 ∨ op = 15)
    (HLA : Hid (∀ w1, Below W0.heap.size W0 w1 → Calls Tryd.prog 19 #[.agg #[.slice x p.types.length k, str p.locals, str p.globs, .slice x' p.code.length k'], .int .u8 a] w1 (AggPost w1 (.int .i64 la))))
    (HLB : Hid (∀ w1, Below W0.heap.size W0 w1 → Calls Tryd.prog 19 #[.agg #[.slice x p.types.length k, str p.locals, str p.globs, .slice x' p.code.length k'], .int .u8 b] w1 (AggPost w1 (.int .i64 lb))))
    (HLC : Hid (∀ w1, Below W0.heap.size W0 w1 → Calls Tryd.prog 19 #[.agg #[.slice x p.types.length k, str p.locals, str p.globs, .slice x' p.code.length k'], .int .u8 c] w1 (AggPost w1 (.int .i64 (localI p c)))))
    (HGL : Hid (∀ w1 a, Below W0.heap.size W0 w1 → 0 ≤ a → a ≤ 255 → Calls Tryd.prog 20 #[.agg #[.slice x p.types.length k, str p.locals, str p.globs, .slice x' p.code.length k'], .int .u8 a] w1 (AggPost w1 (.int .i64 (globI p a)))))
    (HNU : Hid (∀ w1 t, Below W0.heap.size W0 w1 → Calls Tryd.prog 50 #[.agg #[.slice x p.types.length k, str p.locals, str p.globs, .slice x' p.code.length k'], .int .i64 t, .int .i64 n] w1 (AggPost w1 (.bool (numF p.types t n)))))
    (HPT : Hid (∀ w1 t, Below W0.heap.size W0 w1 → Calls Tryd.prog 51 #[.agg #[.slice x p.types.length k, str p.locals, str p.globs, .slice x' p.code.length k'], .int .i64 t, .int .i64 n] w1 (AggPost w1 (.int .i64 (toP p.types t n)))))
    (hla : Hid (localI p a = la)) (hlb : Hid (localI p b = lb)) (hr : Hid (kindsB p ⟨op, a, b, c, n⟩ = r)) :
    Calls Tryd.prog 32 #[.agg #[.slice x p.types.length k, str p.locals, str p.globs, .slice x' p.code.length k'], .agg #[.int .u8 op, .int .u8 a, .int .u8 b, .int .u8 c, .int .i64 n]] w (AggPost w (.bool r)) := by
  have HB := Lib.hid (Below.refl W0.heap.size W0)
  have hop' := Lib.hid hop
  clear hop
  go_enter Tryd.func32, Tryd.ntmps32
  go_wp2_with (fail)
  rw [← hW0]
  clear hW0
  obtain ⟨p0, p1, p2, p3⟩ := KP.out.cells
  have i0 := blk_cell KI.out 0 _ rfl
  have i1 := blk_cell KI.out 1 _ rfl
  have i2 := blk_cell KI.out 2 _ rfl
  go_region_held3 (fun w' => w'.cell? ⟨w.heap.size, 0, none⟩ = some (.slice x p.types.length k) ∧ w'.cell? ⟨w.heap.size, 1, none⟩ = some (str p.locals) ∧ w'.cell? ⟨w.heap.size, 2, none⟩ = some (str p.globs) ∧ w'.cell? ⟨w.heap.size, 3, none⟩ = some (.slice x' p.code.length k') ∧ w'.cell? ⟨w.heap.size + 1, 1, none⟩ = some (.int .u8 a) ∧ w'.cell? ⟨w.heap.size + 1, 2, none⟩ = some (.int .u8 b)) (go_keep) (first
    | (go_at_call 19; ((with_reducible refine (HLA.out _ ?_).mono ?_); (first | exact HB.out.drew | exact HB.out); rintro e w5 ⟨rfl, hb⟩; have HB5 := Lib.hid (HB.out.drew.trans (hb.mono HB.out.size)); have KP5 := Lib.hid (Keep.below (W := W0.drew) (⟨KP.out.1, KP.out.2.below (Below.refl _ _).drew⟩) hb); have KI5 := Lib.hid (blk_below (show blk W0.drew (w.heap.size + 1) #[.int .u8 op, .int .u8 a, .int .u8 b, .int .u8 c, .int .i64 n] 55 from KI.out) hb); clear hb p0 p1 p2 p3 i0 i1 i2; obtain ⟨p0, p1, p2, p3⟩ := KP5.out.cells; have i1 := blk_cell KI5.out 1 _ rfl; have i2 := blk_cell KI5.out 2 _ rfl))
    | (go_at_call 19; ((with_reducible refine (HLB.out _ HB5.out).mono ?_); rintro e w6 ⟨rfl, hb⟩; have HB6 := Lib.hid (HB5.out.trans (hb.mono HB5.out.size)); have KP6 := Lib.hid (KP5.out.below hb); have KI6 := Lib.hid (blk_below KI5.out hb); clear hb p0 p1 p2 p3 i1 i2; obtain ⟨p0, p1, p2, p3⟩ := KP6.out.cells; have i1 := blk_cell KI6.out 1 _ rfl; have i2 := blk_cell KI6.out 2 _ rfl)))
  all_goals
    have j0 := blk_cell KI6.out 0 _ rfl
    have j3 := blk_cell KI6.out 3 _ rfl
    have j4 := blk_cell KI6.out 4 _ rfl
    clear HLA HLB KP5 KI5 HB5 HB
    have HB := Lib.hid HB6.out
    clear HB6
    have hla := hla.out
    have hlb := hlb.out
    rcases hop'.out with rfl | rfl | rfl | rfl | rfl | rfl | rfl | rfl | rfl | rfl | rfl | rfl | rfl | rfl | rfl
  · clear hla hlb
    go_wp2
    go_ret
    exact ⟨ret_bool (by rw [← hr.out]; rfl), HS.out.trans (HB.out.mono HS.out.size)⟩
  · clear hla hlb
    go_wp2
    go_ret
    exact ⟨ret_bool (by rw [← hr.out]; rfl), HS.out.trans (HB.out.mono HS.out.size)⟩
  · clear hla hlb
    go_wp2
    go_ret
    exact ⟨ret_bool (by rw [← hr.out]; rfl), HS.out.trans (HB.out.mono HS.out.size)⟩
  · clear hla hlb
    go_wp2
    go_ret
    exact ⟨ret_bool (by rw [← hr.out]; rfl), HS.out.trans (HB.out.mono HS.out.size)⟩
  · have HLA := Lib.hid hla
    clear hla hlb
    by_cases hl : 0 ≤ la
    all_goals
      go_wp2
      go_ret
      exact ⟨ret_bool (by rw [← hr.out]; unfold kindsB; simp [HLA.out]; omega), HS.out.trans (HB.out.mono HS.out.size)⟩
  · have HLA := Lib.hid hla
    clear hla hlb
    by_cases hl : 0 ≤ la
    all_goals
      go_wp2
      go_ret
      exact ⟨ret_bool (by rw [← hr.out]; unfold kindsB; simp [HLA.out]; omega), HS.out.trans (HB.out.mono HS.out.size)⟩
  · have HLA := Lib.hid hla
    have HLB := Lib.hid hlb
    clear hla hlb
    go_wp2_with (go_at_call 49; refine (one_n la lb _ _ rfl).mono ?_; rintro e w' ⟨rfl, rfl⟩)
    go_ret
    exact ⟨ret_bool (by rw [← hr.out]; unfold kindsB; simp [HLA.out, HLB.out]), HS.out.trans (HB.out.mono HS.out.size)⟩
  · have HT := Lib.hid hlb
    clear hla hlb
    by_cases hl : 0 ≤ lb
    · go_wp2_with (first
        | (refine wpList_loadB rfl 25 _ rfl w.heap.size (progC (.slice x p.types.length k) p (.slice x' p.code.length k')) rfl 25 KP6.out.blk _ Tryd.underlying25 rfl prog_info ?_)
        | (go_at_call 50; refine (HNU.out _ lb HB.out).mono ?_; rintro e w8 ⟨rfl, hb8⟩))
      go_ret
      have hz := HB.out.size
      exact ⟨ret_bool (by rw [← hr.out]; show _ = (decide (0 ≤ localI p b) && numF p.types (localI p b) n); rw [HT.out, decide_eq_true hl, Bool.true_and]), HS.out.trans ((HB.out.trans (hb8.mono hz)).mono HS.out.size)⟩
    · go_wp2
      go_ret
      exact ⟨ret_bool (by rw [← hr.out]; show _ = (decide (0 ≤ localI p b) && numF p.types (localI p b) n); rw [HT.out, decide_eq_false (show ¬ 0 ≤ lb by omega), Bool.false_and]), HS.out.trans (HB.out.mono HS.out.size)⟩
  · have HT := Lib.hid hla
    clear hla hlb
    by_cases hl : 0 ≤ la
    · go_wp2_with (first
        | (refine wpList_loadB rfl 25 _ rfl w.heap.size (progC (.slice x p.types.length k) p (.slice x' p.code.length k')) rfl 25 KP6.out.blk _ Tryd.underlying25 rfl prog_info ?_)
        | (go_at_call 50; refine (HNU.out _ la HB.out).mono ?_; rintro e w8 ⟨rfl, hb8⟩))
      go_ret
      have hz := HB.out.size
      exact ⟨ret_bool (by rw [← hr.out]; show _ = (decide (0 ≤ localI p a) && numF p.types (localI p a) n); rw [HT.out, decide_eq_true hl, Bool.true_and]), HS.out.trans ((HB.out.trans (hb8.mono hz)).mono HS.out.size)⟩
    · go_wp2
      go_ret
      exact ⟨ret_bool (by rw [← hr.out]; show _ = (decide (0 ≤ localI p a) && numF p.types (localI p a) n); rw [HT.out, decide_eq_false (show ¬ 0 ≤ la by omega), Bool.false_and]), HS.out.trans (HB.out.mono HS.out.size)⟩
  · have HT := Lib.hid hlb
    have HX := Lib.hid hla
    clear hla hlb
    by_cases hl : 0 ≤ lb
    · go_wp2_with (first
        | (refine wpList_loadB rfl 25 _ rfl w.heap.size (progC (.slice x p.types.length k) p (.slice x' p.code.length k')) rfl 25 KP6.out.blk _ Tryd.underlying25 rfl prog_info ?_)
        | (go_at_call 51; refine (HPT.out _ lb HB.out).mono ?_; rintro e w8 ⟨rfl, hb8⟩)
        | (go_at_call 49; refine (one_n la _ _ _ rfl).mono ?_; rintro e w' ⟨rfl, rfl⟩))
      go_ret
      have hz := HB.out.size
      exact ⟨ret_bool (by rw [← hr.out]; show _ = (decide (0 ≤ localI p b) && sameT (localI p a) (toP p.types (localI p b) n)); rw [HT.out, HX.out, decide_eq_true hl, Bool.true_and]), HS.out.trans ((HB.out.trans (hb8.mono hz)).mono HS.out.size)⟩
    · go_wp2
      go_ret
      exact ⟨ret_bool (by rw [← hr.out]; show _ = (decide (0 ≤ localI p b) && sameT (localI p a) (toP p.types (localI p b) n)); rw [HT.out, decide_eq_false (show ¬ 0 ≤ lb by omega), Bool.false_and]), HS.out.trans (HB.out.mono HS.out.size)⟩
  · have HT := Lib.hid hla
    have HX := Lib.hid hlb
    clear hla hlb
    by_cases hl : 0 ≤ la
    · go_wp2_with (first
        | (refine wpList_loadB rfl 25 _ rfl w.heap.size (progC (.slice x p.types.length k) p (.slice x' p.code.length k')) rfl 25 KP6.out.blk _ Tryd.underlying25 rfl prog_info ?_)
        | (go_at_call 51; refine (HPT.out _ la HB.out).mono ?_; rintro e w8 ⟨rfl, hb8⟩)
        | (go_at_call 49; refine (one_n lb _ _ _ rfl).mono ?_; rintro e w' ⟨rfl, rfl⟩))
      go_ret
      have hz := HB.out.size
      exact ⟨ret_bool (by rw [← hr.out]; show _ = (decide (0 ≤ localI p a) && sameT (localI p b) (toP p.types (localI p a) n)); rw [HT.out, HX.out, decide_eq_true hl, Bool.true_and]), HS.out.trans ((HB.out.trans (hb8.mono hz)).mono HS.out.size)⟩
    · go_wp2
      go_ret
      exact ⟨ret_bool (by rw [← hr.out]; show _ = (decide (0 ≤ localI p a) && sameT (localI p b) (toP p.types (localI p a) n)); rw [HT.out, decide_eq_false (show ¬ 0 ≤ la by omega), Bool.false_and]), HS.out.trans (HB.out.mono HS.out.size)⟩
  · have HX := Lib.hid hla
    clear hla hlb
    go_wp2_with (first
      | (refine wpList_loadB rfl 25 _ rfl w.heap.size (progC (.slice x p.types.length k) p (.slice x' p.code.length k')) rfl 25 KP6.out.blk _ Tryd.underlying25 rfl prog_info ?_)
      | (go_at_call 20; refine (HGL.out _ b HB.out b0 b1).mono ?_; rintro e w8 ⟨rfl, hb8⟩)
      | (go_at_call 49; refine (one_n la _ _ _ rfl).mono ?_; rintro e w' ⟨rfl, rfl⟩))
    go_ret
    have hz := HB.out.size
    exact ⟨ret_bool (by rw [← hr.out]; unfold kindsB; simp [HX.out]), HS.out.trans ((HB.out.trans (hb8.mono hz)).mono HS.out.size)⟩
  · have HX := Lib.hid hlb
    clear hla hlb
    go_wp2_with (first
      | (refine wpList_loadB rfl 25 _ rfl w.heap.size (progC (.slice x p.types.length k) p (.slice x' p.code.length k')) rfl 25 KP6.out.blk _ Tryd.underlying25 rfl prog_info ?_)
      | (go_at_call 20; refine (HGL.out _ a HB.out a0 a1).mono ?_; rintro e w8 ⟨rfl, hb8⟩)
      | (go_at_call 49; refine (one_n lb _ _ _ rfl).mono ?_; rintro e w' ⟨rfl, rfl⟩))
    go_ret
    have hz := HB.out.size
    exact ⟨ret_bool (by rw [← hr.out]; unfold kindsB; simp [HX.out]), HS.out.trans ((HB.out.trans (hb8.mono hz)).mono HS.out.size)⟩
  · clear hla hlb
    go_wp2
    go_ret
    exact ⟨ret_bool (by rw [← hr.out]; rfl), HS.out.trans (HB.out.mono HS.out.size)⟩
  · have HX := Lib.hid hlb
    clear hla hlb
    go_wp2_with (first
      | (refine wpList_loadB rfl 25 _ rfl w.heap.size (progC (.slice x p.types.length k) p (.slice x' p.code.length k')) rfl 25 KP6.out.blk _ Tryd.underlying25 rfl prog_info ?_)
      | (go_at_call 19; refine (HLC.out _ HB.out).mono ?_; rintro e w8 ⟨rfl, hb8⟩)
      | (go_at_call 49; refine (one_n lb _ _ _ rfl).mono ?_; rintro e w' ⟨rfl, rfl⟩))
    go_ret
    have hz := HB.out.size
    exact ⟨ret_bool (by rw [← hr.out]; unfold kindsB; simp [HX.out]), HS.out.trans ((HB.out.trans (hb8.mono hz)).mono HS.out.size)⟩

theorem rkinds_n (v : Value) (p : PProg) (i : PIns) (r : Bool) (w : World) (h : ProgAt w v p) (hs : OkP p) (hi : OkI i) (hR : rightL i = true) (hlo : p.locals.length ≤ 200) (hgl : p.globs.length ≤ 200) (hr : kindsB p i = r) : Calls Tryd.prog 32 #[v, insV i] w (AggPost w (.bool r)) := by
  have hop := right_op hR
  obtain ⟨vt, vc, rfl, ht, hc⟩ := id h
  obtain ⟨x, k, rfl, -, -, -⟩ := id ht.elems
  obtain ⟨x', k', rfl, -, -, -⟩ := id hc
  obtain ⟨op, a, b, c, n⟩ := i
  obtain ⟨o0, o1, a0, a1, b0, b1, c0, c1, n0, n1⟩ := hi
  simp only at *
  have hsz : (w.alloc (.cells #[.slice x p.types.length k, str p.locals, str p.globs, .slice x' p.code.length k'] 25)).heap.size = w.heap.size + 1 := World.size_alloc _ _
  have hwb : Below w.heap.size w ((w.alloc (.cells #[.slice x p.types.length k, str p.locals, str p.globs, .slice x' p.code.length k'] 25)).alloc (.cells #[.int .u8 op, .int .u8 a, .int .u8 b, .int .u8 c, .int .i64 n] 55)) := ((Below.refl _ _).alloc (Nat.le_refl _) _).alloc (by omega) _
  have kp : Keep ((w.alloc (.cells #[.slice x p.types.length k, str p.locals, str p.globs, .slice x' p.code.length k'] 25)).alloc (.cells #[.int .u8 op, .int .u8 a, .int .u8 b, .int .u8 c, .int .i64 n] 55)) w.heap.size (.slice x p.types.length k) (.slice x' p.code.length k') p := (keep_new h).below ((Below.refl _ _).alloc (Nat.le_refl _) _)
  have ki : blk ((w.alloc (.cells #[.slice x p.types.length k, str p.locals, str p.globs, .slice x' p.code.length k'] 25)).alloc (.cells #[.int .u8 op, .int .u8 a, .int .u8 b, .int .u8 c, .int .i64 n] 55)) (w.heap.size + 1) #[.int .u8 op, .int .u8 a, .int .u8 b, .int .u8 c, .int .i64 n] 55 := by rw [← hsz]; exact blk_new _ _ _
  generalize hW0 : ((w.alloc (.cells #[.slice x p.types.length k, str p.locals, str p.globs, .slice x' p.code.length k'] 25)).alloc (.cells #[.int .u8 op, .int .u8 a, .int .u8 b, .int .u8 c, .int .i64 n] 55)) = W0 at hwb kp ki
  have hp := kp.at'
  exact rkinds_at w W0 p op a b c n (localI p a) (localI p b) x x' k k' r hW0.symm (Lib.hid kp) (Lib.hid ki) (Lib.hid hwb) a0 a1 b0 b1 c0 c1 n0 n1 names_le.1 names_le.2 names_le.1 names_le.2 hop
    (Lib.hid fun w1 hb => rlocal_n _ p a _ w1 (hp.below hb) hs hlo a0 a1 rfl) (Lib.hid fun w1 hb => rlocal_n _ p b _ w1 (hp.below hb) hs hlo b0 b1 rfl) (Lib.hid fun w1 hb => rlocal_n _ p c _ w1 (hp.below hb) hs hlo c0 c1 rfl)
    (Lib.hid fun w1 a hb h0 h1 => rglob_n _ p a _ w1 (hp.below hb) hs hgl h0 h1 rfl) (Lib.hid fun w1 t hb => rnum_n _ p t n _ w1 (hp.below hb) hs rfl) (Lib.hid fun w1 t hb => rpts_n _ p t n _ w1 (hp.below hb) hs rfl)
    (Lib.hid rfl) (Lib.hid rfl) (Lib.hid hr)
end Go.Proofs.YtmnoohpkjgjphaaDoor

/- The contract of the document's read. -/
namespace Go.Proofs.YtmnoohpkjgjphaaDoor
set_option linter.unusedSimpArgs false
set_option linter.unusedVariables false
open Go.RowKit

theorem byOp_some {k : Nat} (h0 : 1 ≤ k) (h1 : k ≤ 15) : ∃ q, byOpL k = some q := by
  have h : ∀ j : Fin 16, 1 ≤ j.1 → (byOpL (j.1 : Int)).isSome = true := by decide
  exact Option.isSome_iff_exists.1 (h ⟨k, by omega⟩ h0)
theorem instr_match {k : Int} {q : Int × Bs × Bs} {x : Bs} {ws : List Bs} (h : byOpL k = some q) (hx : q.2.1 = x) (hl : ws.length = q.2.2.length) : instrL (x :: ws) = readL q.2.2 ws ⟨k, 0, 0, 0, 0⟩ := by
  obtain ⟨h1, rfl⟩ := byOp_mem h
  obtain ⟨_, h2, _⟩ := ops_cases h1
  subst hx
  obtain ⟨a, b, c⟩ := q
  exact instrL_cons h2 hl
theorem instr_nomatch {x : Bs} {ws : List Bs} (h : ∀ k : Nat, 1 ≤ k → k ≤ 15 → ∀ q, byOpL k = some q → ¬ (q.2.1 = x ∧ ws.length = q.2.2.length)) : instrL (x :: ws) = none := by
  unfold instrL
  rw [List.headD_cons]
  rcases hb : byNameL x with _ | o
  · rfl
  · obtain ⟨h1, h2⟩ := byName_mem hb
    obtain ⟨h3, _, _, ⟨h4, h5⟩, _⟩ := ops_cases h1
    have := h o.1.toNat (by omega) (by omega) o (by rw [show ((o.1.toNat : Nat) : Int) = o.1 by omega]; exact h3)
    simp only [List.length_cons]
    rw [if_neg (fun e => this ⟨h2, by omega⟩)]
theorem fit_ok {c : UInt8} {y : Bs} {nn : Int} (h : numL y = (nn, 0)) (hr : roomL c nn = true) : fitL c y = true := by
  rw [fit_room, h]; simp [hr]
theorem fit_no {c : UInt8} {y : Bs} {nn : Int} {en : Nat} {rm : Bool} (h : numL y = (nn, en)) (hr : roomL c nn = rm) (hn : ¬ (en = 0 ∧ rm = true)) : fitL c y = false := by
  rw [fit_room, h]
  cases rm with
  | false => simp [hr]
  | true => simp at hn; simp [hn]
/-- What a round of the reading finds. -/
structure RAt (w : World) (j : PIns) (wr : World) : Prop where
  r : blk wr w.heap.size zeroC 55
  i : blk wr (w.heap.size + 1) (insC j) 55
  b : Below w.heap.size w wr
theorem RAt.below {w wr w' : World} {j : PIns} (h : RAt w j wr) (hb : Below wr.heap.size wr w') : RAt w j w' := ⟨blk_below h.r hb, blk_below h.i hb, h.b.trans (hb.mono h.b.size)⟩
theorem RAt.put {w wr : World} {j : PIns} (h : RAt w j wr) (j' : PIns) : RAt w j' (putB wr (w.heap.size + 1) (insC j') 55) := by
  refine ⟨?_, putB_at h.i _ _, h.b.trans (putB_below _ (by omega) _ _)⟩
  have : (putB wr (w.heap.size + 1) (insC j') 55).heap[w.heap.size]? = wr.heap[w.heap.size]? := putB_ne _ (by omega) _ _
  unfold blk; rw [this]; exact h.r

theorem RAt.putG {w W : World} {j : PIns} {g : Nat} (h : RAt w j W) (hg : w.heap.size + 2 ≤ g) (cs : Array Value) (t : TypeId) : RAt w j (putB W g cs t) := by
  refine ⟨?_, ?_, h.b.trans (putB_below _ (by omega) _ _)⟩
  · have : (putB W g cs t).heap[w.heap.size]? = W.heap[w.heap.size]? := putB_ne _ (by omega) _ _
    unfold blk; rw [this]; exact h.r
  · have : (putB W g cs t).heap[w.heap.size + 1]? = W.heap[w.heap.size + 1]? := putB_ne _ (by omega) _ _
    unfold blk; rw [this]; exact h.i
theorem set5 {w W : World} {j : PIns} {g : Nat} (J : PIns) (hk : blk W g zeroC 55) (h : RAt w j W) (hg : w.heap.size + 2 ≤ g) :
    blk (((((W.setCell ⟨g, 0, none⟩ (.int .u8 J.op)).setCell ⟨g, 1, none⟩ (.int .u8 J.a)).setCell ⟨g, 2, none⟩ (.int .u8 J.b)).setCell ⟨g, 3, none⟩ (.int .u8 J.c)).setCell ⟨g, 4, none⟩ (.int .i64 J.n)) g (insC J) 55 ∧
    RAt w j (((((W.setCell ⟨g, 0, none⟩ (.int .u8 J.op)).setCell ⟨g, 1, none⟩ (.int .u8 J.a)).setCell ⟨g, 2, none⟩ (.int .u8 J.b)).setCell ⟨g, 3, none⟩ (.int .u8 J.c)).setCell ⟨g, 4, none⟩ (.int .i64 J.n)) := by
  rw [setCell_putB hk 0 (.int .u8 J.op)]
  have k1 := putB_at hk (zeroC.setIfInBounds 0 (.int .u8 J.op)) 55
  have h1 := h.putG hg (zeroC.setIfInBounds 0 (.int .u8 J.op)) 55
  generalize putB W g _ 55 = W1 at *
  rw [setCell_putB k1 1 (.int .u8 J.a)]
  have k2 := putB_at k1 ((zeroC.setIfInBounds 0 (.int .u8 J.op)).setIfInBounds 1 (.int .u8 J.a)) 55
  have h2 := h1.putG hg ((zeroC.setIfInBounds 0 (.int .u8 J.op)).setIfInBounds 1 (.int .u8 J.a)) 55
  generalize putB W1 g _ 55 = W2 at *
  rw [setCell_putB k2 2 (.int .u8 J.b)]
  have k3 := putB_at k2 (((zeroC.setIfInBounds 0 (.int .u8 J.op)).setIfInBounds 1 (.int .u8 J.a)).setIfInBounds 2 (.int .u8 J.b)) 55
  have h3 := h2.putG hg (((zeroC.setIfInBounds 0 (.int .u8 J.op)).setIfInBounds 1 (.int .u8 J.a)).setIfInBounds 2 (.int .u8 J.b)) 55
  generalize putB W2 g _ 55 = W3 at *
  rw [setCell_putB k3 3 (.int .u8 J.c)]
  have k4 := putB_at k3 ((((zeroC.setIfInBounds 0 (.int .u8 J.op)).setIfInBounds 1 (.int .u8 J.a)).setIfInBounds 2 (.int .u8 J.b)).setIfInBounds 3 (.int .u8 J.c)) 55
  have h4 := h3.putG hg ((((zeroC.setIfInBounds 0 (.int .u8 J.op)).setIfInBounds 1 (.int .u8 J.a)).setIfInBounds 2 (.int .u8 J.b)).setIfInBounds 3 (.int .u8 J.c)) 55
  generalize putB W3 g _ 55 = W4 at *
  rw [setCell_putB k4 4 (.int .i64 J.n)]
  exact ⟨putB_at k4 _ _, h4.putG hg _ _⟩

set_option maxRecDepth 100000 in
set_option maxHeartbeats 1500000 in
theorem read_walk (b o c n : Nat) (x : Bs) (ws : List Bs) (R : Option PIns) (w : World) (hn : n = ws.length) (hc1 : n + 1 ≤ c) (_hc2 : c ≤ 9223372036854775807)
    (HC0 : Hid (∀ W, Below w.heap.size w W → W.cell? ⟨b, o, none⟩ = some (str x)))
    (HC : Hid (∀ k y, ws[k]? = some y → ∀ W, Below w.heap.size w W → W.cell? ⟨b, o + (k + 1), none⟩ = some (str y)))
    (HNUM : Hid (∀ y ∈ ws, ∀ W, Calls Tryd.prog 58 #[str y] W fun e w' => e = .returned (.tuple #[.int .i64 (numL y).1, .int .i64 (numL y).2]) ∧ W = w'))
    (HMT : Hid (∀ (k : Int) q, byOpL k = some q → q.2.1 = x → n = q.2.2.length → R = readL q.2.2 ws ⟨k, 0, 0, 0, 0⟩))
    (HNM : Hid ((∀ k : Nat, 1 ≤ k → k ≤ 15 → ∀ q, byOpL k = some q → ¬ (q.2.1 = x ∧ n = q.2.2.length)) → R = none)) :
    Calls Tryd.prog 47 #[.slice (some ⟨b, o, none⟩) (n + 1) c] w (InstrPost w R) := by
  have hwb : Below w.heap.size w (w.alloc (.cells zeroC 55)) := (Below.refl _ _).alloc (Nat.le_refl _) _
  have HWB := Lib.hid hwb
  have hcx := HC0.out _ hwb
  have HN := Lib.hid hn
  have hn0 : (0 : Int) < (n : Int) + 1 := by omega
  clear hwb hn
  go_enter Tryd.func47, Tryd.ntmps47
  go_wp2
  go_loopw [4] (fun v4 wr => ∃ k : Nat, 1 ≤ k ∧ k ≤ 16 ∧ v4 = .int .u8 k ∧ Hid (∀ j : Nat, 1 ≤ j → j < k → ∀ q, byOpL j = some q → ¬ (q.2.1 = x ∧ n = q.2.2.length)) ∧ wr = w.alloc (.cells zeroC 55)) (fun v4 _ => 16 - (intOf v4).toNat)
  case atStart => exact ⟨1, Nat.le_refl _, by omega, rfl, Lib.hid (fun j h1 h2 => by omega), rfl⟩
  case round =>
    obtain ⟨k, hk0, hk1, rfl, hno, rfl⟩ := hrel
    by_cases hle : k ≤ 15
    · obtain ⟨⟨op, nm, hs⟩, hq⟩ := byOp_some hk0 hle
      have hq2 := hq
      obtain ⟨hmem, hop⟩ := byOp_mem hq
      have H4 := Lib.hid (four_ops hmem)
      have hl3 : hs.length ≤ 3 := by
        obtain ⟨_, _, _, _, _, _, _, _, hh⟩ := ops_cases hmem
        simp only [List.mem_cons, List.not_mem_nil, or_false] at hh
        rcases hh with hh | hh | hh | hh | hh | hh | hh <;> (rw [show hs = _ from hh]; decide)
      have hsh := shape_any k (w.alloc (.cells zeroC 55))
      rw [shapeL_some hq] at hsh
      obtain ⟨ls, hls⟩ : ∃ ls : ByteArray, ls = ⟨(hs.map low).toArray⟩ := ⟨_, rfl⟩
      have HSH : Hid (Calls Tryd.prog 46 #[.int .u8 k] (w.alloc (.cells zeroC 55)) fun e w'' => e = .returned (.tuple #[str nm, .string ls]) ∧ (w.alloc (.cells zeroC 55)) = w'') := Lib.hid (by subst hls; exact hsh)
      have HLG : Hid (∀ (m : Nat) (c : UInt8) (hk : m < ls.size), hs[m]? = some c → ls[m] = low c) := Lib.hid fun m c hk hc => by subst hls; exact low_get hc hk
      have hsz : ls.size = hs.length := by subst hls; show (hs.map low).length = _; simp
      have HQ := Lib.hid hq
      clear hls hsh hmem hop hq hq2
      by_cases hx : nm = x
      · subst hx
        by_cases hl : n = hs.length
        · subst hl
          have hR := HMT.out k _ HQ.out rfl rfl
          have HR := Lib.hid hR
          clear hR HMT HNM hno
          go_wp2_with (go_at_call 46; refine HSH.out.mono ?_; rintro e w1 ⟨rfl, rfl⟩)
          have HS := Lib.hid (show RAt w ⟨k, 0, 0, 0, 0⟩ ((w.alloc (.cells zeroC 55)).alloc (.cells (insC ⟨k, 0, 0, 0, 0⟩) 55)) from
            ⟨blk_alloc (blk_new _ _ _) _, by
              have h1 := blk_new (w.alloc (.cells zeroC 55)) (insC ⟨k, 0, 0, 0, 0⟩) 55
              rw [World.size_alloc] at h1
              exact h1, HWB.out.alloc (by simp) _⟩)
          go_loopw [8] (fun v8 wr => ∃ (m : Nat) (j : PIns), m ≤ hs.length ∧ v8 = .int .i64 m ∧ RAt w j wr ∧ Hid (readTo hs ws ⟨k, 0, 0, 0, 0⟩ m = some j)) (fun v8 _ => hs.length - (intOf v8).toNat)
          case atStart => exact ⟨0, _, Nat.zero_le _, rfl, HS.out, Lib.hid rfl⟩
          case round =>
            obtain ⟨m, j, hm, rfl, hat, hrd⟩ := hrel
            clear HS
            by_cases hlt : m < hs.length
            · obtain ⟨c', hc'⟩ : ∃ c', hs[m]? = some c' := ⟨_, List.getElem?_eq_getElem hlt⟩
              obtain ⟨y, hy⟩ : ∃ y, ws[m]? = some y := ⟨_, List.getElem?_eq_getElem (by rw [← HN.out]; exact hlt)⟩
              have HNEXT := Lib.hid (fun h => readTo_next HN.out hrd.out hc' hy h)
              have HBAD := Lib.hid (fun h => readTo_bad HN.out hrd.out hc' hy h)
              have h4 := H4.out c' (List.mem_of_getElem? hc')
              have hgl := HLG.out m c' (by omega) hc'
              have hcy := HC.out m y hy _ hat.b
              have HNB := Lib.hid (HNUM.out y (List.mem_of_getElem? hy) wr)
              have HA := Lib.hid hat
              have kd : blk wr.drew (w.heap.size + 1) (insC j) 55 := hat.i
              have kd0 := blk_cell kd 0 _ rfl
              have kd1 := blk_cell kd 1 _ rfl
              have kd2 := blk_cell kd 2 _ rfl
              have kd3 := blk_cell kd 3 _ rfl
              have kd4 := blk_cell kd 4 _ rfl
              have HDR := Lib.hid ((Below.refl wr.heap.size wr).drew)
              clear kd hat hrd hc' hy
              rcases hnl : numL y with ⟨nn, en⟩
              rw [hnl] at HNB
              have HNL := Lib.hid hnl
              clear hnl
              have hwi := fun W => with_any j c' nn W h4
              obtain ⟨rm, hrm⟩ : ∃ rm, roomL c' nn = rm := ⟨_, rfl⟩
              obtain ⟨J, hJ⟩ : ∃ J, (if rm = true then setL j c' nn else j) = J := ⟨_, rfl⟩
              rw [hrm, hJ] at hwi
              have HWI := Lib.hid hwi
              have HRM := Lib.hid hrm
              have HJ := Lib.hid hJ
              have kz : blk (wr.alloc (.cells zeroC 55)).drew (w.heap.size + 1) (insC j) 55 := blk_alloc HA.out.i _
              have kz0 := blk_cell kz 0 _ rfl
              have kz1 := blk_cell kz 1 _ rfl
              have kz2 := blk_cell kz 2 _ rfl
              have kz3 := blk_cell kz 3 _ rfl
              have kz4 := blk_cell kz 4 _ rfl
              have HDZ := Lib.hid (((Below.refl wr.heap.size wr).alloc (Nat.le_refl _) (.cells zeroC 55)).drew)
              have KZ := Lib.hid (show blk (wr.alloc (.cells zeroC 55)).drew wr.heap.size zeroC 55 from blk_new wr zeroC 55)
              have hws := blk_lt HA.out.i
              clear kz hwi hrm hJ h4
              go_wp2_with (go_at_call 58; refine HNB.out.mono ?_; rintro e w2 ⟨rfl, rfl⟩)
              go_cut [11, 12] from 37 to 68 (fun v11 v12 wx => ∃ g, v11 = .pointer (some ⟨g, 0, none⟩) ∧ v12 = .bool rm ∧ blk wx g (insC J) 55 ∧ RAt w j wx ∧ w.heap.size + 2 ≤ g)
              case first =>
                go_region_law (first
                  | (go_simp; go_at_call 59; ((with_reducible refine (HWI.out wr.drew).mono ?_); rintro e w3 ⟨rfl, hb⟩; have HA3 := Lib.hid (HA.out.below (HDR.out.trans (hb.mono HDR.out.size))); clear hb))
                  | (go_simp; go_at_call 59; ((with_reducible refine (HWI.out (wr.alloc (.cells zeroC 55)).drew).mono ?_); rintro e w3 ⟨rfl, hb⟩; have HA3 := Lib.hid (HA.out.below (HDZ.out.trans (hb.mono HDZ.out.size))); have KZ3 := Lib.hid (blk_below KZ.out hb); have q0 := blk_cell KZ3.out 0 _ rfl; have q1 := blk_cell KZ3.out 1 _ rfl; have q2 := blk_cell KZ3.out 2 _ rfl; have q3 := blk_cell KZ3.out 3 _ rfl; have q4 := blk_cell KZ3.out 4 _ rfl; have f0 := blk_frozen KZ3.out 0; have f1 := blk_frozen KZ3.out 1; have f2 := blk_frozen KZ3.out 2; have f3 := blk_frozen KZ3.out 3; have f4 := blk_frozen KZ3.out 4; clear hb)))
                all_goals
                  go_wp2_with fail
                  go_meet
                  first
                    | exact ⟨wr.heap.size, rfl, rfl, (set5 J KZ3.out HA3.out hws).1, (set5 J KZ3.out HA3.out hws).2, hws⟩
                    | exact ⟨w3.heap.size, rfl, rfl, blk_new w3 (insC J) 55, HA3.out.below ((Below.refl _ _).alloc (Nat.le_refl _) (.cells (insC J) 55)), blk_lt HA3.out.i⟩
              case rest =>
                obtain ⟨g, rfl, rfl, kj, ha3, hg⟩ := hcut
                have HA3 := Lib.hid ha3
                clear ha3 hg
                by_cases hok : en = 0 ∧ rm = true
                · obtain ⟨rfl, rfl⟩ := hok
                  have hJ := HJ.out
                  rw [if_pos rfl] at hJ
                  subst hJ
                  have HNX := Lib.hid (HNEXT.out (fit_ok HNL.out HRM.out))
                  rw [HNL.out] at HNX
                  have k1 := blk_cell kj 0 _ rfl
                  have k2 := blk_cell kj 1 _ rfl
                  have k3 := blk_cell kj 2 _ rfl
                  have k4 := blk_cell kj 3 _ rfl
                  have k5 := blk_cell kj 4 _ rfl
                  clear HNEXT HBAD kj
                  go_wp2_with (refine wpList_putB rfl 55 _ _ rfl (w.heap.size + 1) (insC (setL j c' nn)) rfl rfl 55 _ HA3.out.i ins_info rfl (ins_one _) ?_)
                  go_roundw
                  case rel => exact ⟨m + 1, setL j c' nn, by omega, by go_num, HA3.out.put _, HNX⟩
                  case measure => simp [intOf]; omega
                · have hfit : Hid (fitL c' y = false) := Lib.hid (fit_no HNL.out HRM.out hok)
                  have HB0 := Lib.hid (HBAD.out hfit.out)
                  by_cases he : en = 0
                  · obtain rfl : rm = false := by rcases Bool.eq_false_or_eq_true rm with h | h; exact absurd ⟨he, h⟩ hok; exact h
                    subst he
                    clear hok HNEXT HBAD
                    go_wp2_with (refine wpList_putB rfl 55 _ _ rfl w.heap.size zeroC rfl rfl 55 _ HA3.out.r ins_info rfl zero_one ?_)
                    refine bodyPost_ret (v := .tuple #[.agg zeroC, .bool false]) ?_ rfl ⟨?_, ?_⟩
                    · rw [res_cell1 (p := 2) (u := 3) rfl _ _ w.heap.size zeroC 55 _ rfl (putB_at HA3.out.r _ _) Tryd.underlying55 rfl ins_info]; rfl
                    · rw [HR.out, HB0.out]
                    · exact HA3.out.b.trans (putB_below _ (Nat.le_refl _) _ _)
                  · have hen : (((en : Nat) : Int) == 0) = false := by simp [he]
                    have hen2 : (((en : Nat) : Int) != 0) = true := by simp [he]
                    clear he hok HNEXT HBAD
                    go_wp2_with (refine wpList_putB rfl 55 _ _ rfl w.heap.size zeroC rfl rfl 55 _ HA3.out.r ins_info rfl zero_one ?_)
                    refine bodyPost_ret (v := .tuple #[.agg zeroC, .bool false]) ?_ rfl ⟨?_, ?_⟩
                    · rw [res_cell1 (p := 2) (u := 3) rfl _ _ w.heap.size zeroC 55 _ rfl (putB_at HA3.out.r _ _) Tryd.underlying55 rfl ins_info]; rfl
                    · rw [HR.out, HB0.out]
                    · exact HA3.out.b.trans (putB_below _ (Nat.le_refl _) _ _)
            · obtain rfl : m = hs.length := by omega
              have HRD : Hid (R = some j) := Lib.hid (by rw [HR.out, ← readTo_all HN.out]; exact hrd.out)
              have k1 := blk_cell hat.i 0 _ rfl
              have k2 := blk_cell hat.i 1 _ rfl
              have k3 := blk_cell hat.i 2 _ rfl
              have k4 := blk_cell hat.i 3 _ rfl
              have k5 := blk_cell hat.i 4 _ rfl
              have HA := Lib.hid hat
              clear hat hrd
              go_wp2_with (refine wpList_putB rfl 55 _ _ rfl w.heap.size (insC j) rfl rfl 55 _ HA.out.r ins_info rfl (ins_one _) ?_)
              refine bodyPost_ret (v := .tuple #[.agg (insC j), .bool true]) ?_ rfl ⟨?_, ?_⟩
              · rw [res_cell1 (p := 2) (u := 3) rfl _ _ w.heap.size (insC j) 55 _ rfl (putB_at HA.out.r _ _) Tryd.underlying55 rfl ins_info]; rfl
              · rw [HRD.out]
              · exact HA.out.b.trans (putB_below _ (Nat.le_refl _) _ _)
        · have e1 : ((n : Int) == (hs.length : Int)) = false := by simp only [beq_eq_false_iff_ne]; omega
          have e2 : ((n : Int) + 1 == (hs.length : Int) + 1) = false := by simp only [beq_eq_false_iff_ne]; omega
          have e3 : ((n : Int) + 1 != (hs.length : Int) + 1) = true := by simp only [bne_iff_ne, ne_eq]; omega
          have e4 : ¬ (n : Int) = (hs.length : Int) := by omega
          have HNX : Hid (∀ j : Nat, 1 ≤ j → j < k + 1 → ∀ q, byOpL j = some q → ¬ (q.2.1 = nm ∧ n = q.2.2.length)) := Lib.hid fun j h1 h2 q hj => by
            rcases Nat.lt_or_ge j k with h | h
            · exact hno.out j h1 h q hj
            · obtain rfl : j = k := by omega
              rw [HQ.out] at hj
              obtain rfl := Option.some.inj hj
              exact fun e => hl e.2
          clear hno hl
          go_wp2_with (go_at_call 46; refine HSH.out.mono ?_; rintro e w1 ⟨rfl, rfl⟩)
          go_roundw
          case rel => exact ⟨k + 1, by omega, by omega, by go_num, HNX, trivial⟩
          case measure => simp [intOf]; omega
      · have e1 : (x == nm) = false := by simp only [beq_eq_false_iff_ne]; exact fun e => hx e.symm
        have HNX : Hid (∀ j : Nat, 1 ≤ j → j < k + 1 → ∀ q, byOpL j = some q → ¬ (q.2.1 = x ∧ n = q.2.2.length)) := Lib.hid fun j h1 h2 q hj => by
          rcases Nat.lt_or_ge j k with h | h
          · exact hno.out j h1 h q hj
          · obtain rfl : j = k := by omega
            rw [HQ.out] at hj
            obtain rfl := Option.some.inj hj
            exact fun e => hx e.1
        clear hno hx
        go_wp2_with (go_at_call 46; refine HSH.out.mono ?_; rintro e w1 ⟨rfl, rfl⟩)
        go_roundw
        case rel => exact ⟨k + 1, by omega, by omega, by go_num, HNX, trivial⟩
        case measure => simp [intOf]; omega
    · obtain rfl : k = 16 := by omega
      have HF := Lib.hid (HNM.out (fun j h1 h2 => hno.out j h1 (by omega)))
      clear hno
      go_wp2_with (refine wpList_putB rfl 55 _ _ rfl w.heap.size zeroC rfl rfl 55 _ (blk_new _ _ _) ins_info rfl zero_one ?_)
      refine bodyPost_ret (v := .tuple #[.agg zeroC, .bool false]) ?_ rfl ⟨?_, ?_⟩
      · rw [res_cell1 (p := 2) (u := 3) rfl _ _ w.heap.size zeroC 55 _ rfl (putB_at (blk_new _ _ _) _ _) Tryd.underlying55 rfl ins_info]; rfl
      · rw [HF.out]
      · exact HWB.out.trans (putB_below _ (Nat.le_refl _) _ _)
theorem read_any (v : Value) (ws : List Bs) (w : World) (h : RowAt w v (ws.map str)) (hne : ws ≠ []) (hsh : ∀ y ∈ ws, y.length ≤ 3000) : Calls Tryd.prog 47 #[v] w (InstrPost w (instrL ws)) := by
  rcases ws with _ | ⟨x, ws⟩
  · exact absurd rfl hne
  obtain ⟨a, c, rfl, h1, h2, h3⟩ := h.elems
  obtain ⟨b, o, rfl, hlt, hc⟩ := h3 0 x rfl
  rw [Nat.add_zero] at hc
  unfold maxLen at h2
  exact read_walk b o c ws.length x ws _ w rfl h1 h2
    (Lib.hid fun W hW => by rw [(bcell hW).1 b _ hlt]; exact hc)
    (Lib.hid fun k y hk W hW => by
      obtain ⟨b', o', e, _, hc'⟩ := h3 (k + 1) y (by simpa using hk)
      simp at e
      obtain ⟨rfl, rfl⟩ := e
      rw [(bcell hW).1 b _ hlt]; exact hc')
    (Lib.hid fun y hy W => numberR_any ⟨y.toArray⟩ W (hsh y (by simp [hy])))
    (Lib.hid fun k q hq hx hl => instr_match hq hx hl)
    (Lib.hid fun hno => instr_nomatch hno)
end Go.Proofs.YtmnoohpkjgjphaaDoor

/- The contract of the document's Right. -/
namespace Go.Proofs.YtmnoohpkjgjphaaDoor
set_option linter.unusedSimpArgs false
set_option linter.unusedVariables false
open Go.RowKit

theorem right_read (i : PIns) (hi : OkI i) : rightL i = true ↔ instrL (wordsI i) = some i :=
  ⟨fun h => instr_words hi h, fun h => (words_instr h).2.1⟩

set_option maxRecDepth 100000 in
set_option maxHeartbeats 1000000 in
theorem rightR_none (i : PIns) (w : World) (h : byOpL i.op = none) : Calls Tryd.prog 30 #[insV i] w (AggPost w (.bool false)) := by
  have HSH : Hid (∀ w', Calls Tryd.prog 46 #[.int .u8 i.op] w' fun e w'' => e = .returned (.tuple #[str [], str []]) ∧ w' = w'') := Lib.hid fun w' => by have := shape_any i.op w'; unfold shapeL at this; rw [h] at this; exact this
  clear h
  go_enter Tryd.func30, Tryd.ntmps30
  go_wp2_with (go_at_call 46; refine (HSH.out _).mono ?_; rintro e w1 ⟨rfl, rfl⟩; clear HSH)
  go_ret
  exact ⟨rfl, (Below.refl _ _).alloc (Nat.le_refl _) _⟩

set_option maxRecDepth 100000 in
set_option maxHeartbeats 2000000 in
theorem rightR_walk (i : PIns) (o : Int × Bs × Bs) (w : World) (ho : byOpL i.op = some o) (hi : OkI i) (ht : HasT w) : Calls Tryd.prog 30 #[insV i] w (AggPost w (.bool (rightL i))) := by
  have HSH : Hid (∀ w', Calls Tryd.prog 46 #[.int .u8 i.op] w' fun e w'' => e = .returned (.tuple #[str o.2.1, str (o.2.2.map low)]) ∧ w' = w'') := Lib.hid fun w' => by have := shape_any i.op w'; rw [shapeL_some ho] at this; exact this
  have hne : o.2.1 ≠ [] := (ops_cases (byOp_mem ho).1).2.2.1
  have hnm : (o.2.1 == []) = false := by simpa using hne
  have hwb : Below w.heap.size w (w.alloc (.cells (insC i) 55)) := (Below.refl _ _).alloc (Nat.le_refl _) _
  have HLN := Lib.hid (line_any i (w.alloc (.cells (insC i) 55)) (ht.below hwb) hi)
  have hsh : ∀ y ∈ wordsI i, y.length ≤ 3000 := by
    intro y hy
    unfold wordsI at hy
    rw [ho] at hy
    rcases List.mem_cons.1 hy with rfl | hy
    · have := mayL_len (ops_cases (byOp_mem ho).1).2.2.2.2.1; omega
    · obtain ⟨c, _, rfl⟩ := List.mem_map.1 hy
      obtain ⟨o0, o1, a0, a1, b0, b1, c0, c1, n0, n1⟩ := hi
      have : -9223372036854775808 ≤ partL i c ∧ partL i c ≤ 9223372036854775807 := by unfold partL; (repeat' split) <;> omega
      have := itoa_len this.1 this.2
      omega
  have hwne : wordsI i ≠ [] := by unfold wordsI; rw [ho]; simp
  have HRD : Hid (∀ v w', RowAt w' v ((wordsI i).map str) → Calls Tryd.prog 47 #[v] w' (InstrPost w' (instrL (wordsI i)))) := Lib.hid fun v w' hv => read_any v (wordsI i) w' hv hwne hsh
  have HRR := Lib.hid (right_read i hi)
  generalize wordsI i = ws at *
  obtain ⟨r, hr⟩ : ∃ r, instrL ws = r := ⟨_, rfl⟩
  rw [hr] at HRD HRR
  obtain ⟨b, hb⟩ : ∃ b, rightL i = b := ⟨_, rfl⟩
  rw [hb] at HRR ⊢
  generalize o.2.1 = nm at *
  generalize o.2.2.map low = ls at *
  obtain ⟨xo, xa, xb, xc, xn⟩ := i
  have HW := Lib.hid hwb
  clear ho hi ht hne hsh hwne hr hb hwb
  have hgu := Tryd.eqGuardType55
  rcases r with _ | ⟨yo, ya, yb, yc, yn⟩
  · obtain rfl : b = false := by
      rcases Bool.eq_false_or_eq_true b with h | h
      · have := HRR.out.1 h; cases this
      · exact h
    go_enter Tryd.func30, Tryd.ntmps30
    go_wp2_with (first
      | (go_at_call 46; refine (HSH.out _).mono ?_; rintro e w1 ⟨rfl, rfl⟩; clear HSH)
      | (go_at_call 48; refine HLN.out.mono ?_; rintro e w2 ⟨a, c, rfl, hown, hb2⟩; have HB2 := Lib.hid (HW.out.trans (hb2.mono HW.out.size)); have HO := Lib.hid (RowAt.of_own hown); clear hown hb2)
      | (go_at_call 47; refine (HRD.out _ _ HO.out).mono ?_; rintro e w3 ⟨rfl, hb3⟩; have HB3 := Lib.hid (HB2.out.trans (hb3.mono HB2.out.size)); clear hb3))
    go_ret
    exact ⟨rfl, HB3.out.alloc (HB3.out.size) _⟩
  · have HNE : Hid (¬ (PIns.mk yo ya yb yc yn = PIns.mk xo xa xb xc xn) → b = false) := Lib.hid fun h => by
      rcases Bool.eq_false_or_eq_true b with hb | hb
      · exact absurd (Option.some.inj (HRR.out.1 hb)) h
      · exact hb
    by_cases h1 : yo = xo
    · subst h1
      by_cases h1 : ya = xa
      · subst h1
        by_cases h1 : yb = xb
        · subst h1
          by_cases h1 : yc = xc
          · subst h1
            by_cases h1 : yn = xn
            · subst h1
              obtain rfl : b = true := HRR.out.2 rfl
              clear HNE HRR
              go_enter Tryd.func30, Tryd.ntmps30
              go_wp2_with (first
                | (go_at_call 46; refine (HSH.out _).mono ?_; rintro e w1 ⟨rfl, rfl⟩; clear HSH)
                | (go_at_call 48; refine HLN.out.mono ?_; rintro e w2 ⟨a, c, rfl, hown, hb2⟩; have k2 := Lib.hid (blk_below (blk_new w (insC ⟨yo, ya, yb, yc, yn⟩) 55) hb2); have HB2 := Lib.hid (HW.out.trans (hb2.mono HW.out.size)); have HO := Lib.hid (RowAt.of_own hown); clear hown hb2)
                | (go_at_call 47; refine (HRD.out _ _ HO.out).mono ?_; rintro e w3 ⟨rfl, hb3⟩; have HB3 := Lib.hid (HB2.out.trans (hb3.mono HB2.out.size)); have k3 := Lib.hid (blk_below k2.out hb3); have q0 := blk_cell (blk_alloc k3.out (.cells (insC ⟨yo, ya, yb, yc, yn⟩) 55)) 0 _ rfl; have q1 := blk_cell (blk_alloc k3.out (.cells (insC ⟨yo, ya, yb, yc, yn⟩) 55)) 1 _ rfl; have q2 := blk_cell (blk_alloc k3.out (.cells (insC ⟨yo, ya, yb, yc, yn⟩) 55)) 2 _ rfl; have q3 := blk_cell (blk_alloc k3.out (.cells (insC ⟨yo, ya, yb, yc, yn⟩) 55)) 3 _ rfl; have q4 := blk_cell (blk_alloc k3.out (.cells (insC ⟨yo, ya, yb, yc, yn⟩) 55)) 4 _ rfl; clear hb3))
              go_ret
              exact ⟨rfl, HB3.out.alloc (HB3.out.size) _⟩
            · obtain rfl := HNE.out (by simp [h1])
              have e1 : (yn == xn) = false := by simpa using h1
              clear HNE HRR
              go_enter Tryd.func30, Tryd.ntmps30
              go_wp2_with (first
                | (go_at_call 46; refine (HSH.out _).mono ?_; rintro e w1 ⟨rfl, rfl⟩; clear HSH)
                | (go_at_call 48; refine HLN.out.mono ?_; rintro e w2 ⟨a, c, rfl, hown, hb2⟩; have k2 := Lib.hid (blk_below (blk_new w (insC ⟨yo, ya, yb, yc, xn⟩) 55) hb2); have HB2 := Lib.hid (HW.out.trans (hb2.mono HW.out.size)); have HO := Lib.hid (RowAt.of_own hown); clear hown hb2)
                | (go_at_call 47; refine (HRD.out _ _ HO.out).mono ?_; rintro e w3 ⟨rfl, hb3⟩; have HB3 := Lib.hid (HB2.out.trans (hb3.mono HB2.out.size)); have k3 := Lib.hid (blk_below k2.out hb3); have q0 := blk_cell (blk_alloc k3.out (.cells (insC ⟨yo, ya, yb, yc, yn⟩) 55)) 0 _ rfl; have q1 := blk_cell (blk_alloc k3.out (.cells (insC ⟨yo, ya, yb, yc, yn⟩) 55)) 1 _ rfl; have q2 := blk_cell (blk_alloc k3.out (.cells (insC ⟨yo, ya, yb, yc, yn⟩) 55)) 2 _ rfl; have q3 := blk_cell (blk_alloc k3.out (.cells (insC ⟨yo, ya, yb, yc, yn⟩) 55)) 3 _ rfl; have q4 := blk_cell (blk_alloc k3.out (.cells (insC ⟨yo, ya, yb, yc, yn⟩) 55)) 4 _ rfl; clear hb3))
              go_ret
              exact ⟨rfl, HB3.out.alloc (HB3.out.size) _⟩
          · obtain rfl := HNE.out (by simp [h1])
            have e1 : (yc == xc) = false := by simpa using h1
            clear HNE HRR
            go_enter Tryd.func30, Tryd.ntmps30
            go_wp2_with (first
              | (go_at_call 46; refine (HSH.out _).mono ?_; rintro e w1 ⟨rfl, rfl⟩; clear HSH)
              | (go_at_call 48; refine HLN.out.mono ?_; rintro e w2 ⟨a, c, rfl, hown, hb2⟩; have k2 := Lib.hid (blk_below (blk_new w (insC ⟨yo, ya, yb, xc, xn⟩) 55) hb2); have HB2 := Lib.hid (HW.out.trans (hb2.mono HW.out.size)); have HO := Lib.hid (RowAt.of_own hown); clear hown hb2)
              | (go_at_call 47; refine (HRD.out _ _ HO.out).mono ?_; rintro e w3 ⟨rfl, hb3⟩; have HB3 := Lib.hid (HB2.out.trans (hb3.mono HB2.out.size)); have k3 := Lib.hid (blk_below k2.out hb3); have q0 := blk_cell (blk_alloc k3.out (.cells (insC ⟨yo, ya, yb, yc, yn⟩) 55)) 0 _ rfl; have q1 := blk_cell (blk_alloc k3.out (.cells (insC ⟨yo, ya, yb, yc, yn⟩) 55)) 1 _ rfl; have q2 := blk_cell (blk_alloc k3.out (.cells (insC ⟨yo, ya, yb, yc, yn⟩) 55)) 2 _ rfl; have q3 := blk_cell (blk_alloc k3.out (.cells (insC ⟨yo, ya, yb, yc, yn⟩) 55)) 3 _ rfl; have q4 := blk_cell (blk_alloc k3.out (.cells (insC ⟨yo, ya, yb, yc, yn⟩) 55)) 4 _ rfl; clear hb3))
            go_ret
            exact ⟨rfl, HB3.out.alloc (HB3.out.size) _⟩
        · obtain rfl := HNE.out (by simp [h1])
          have e1 : (yb == xb) = false := by simpa using h1
          clear HNE HRR
          go_enter Tryd.func30, Tryd.ntmps30
          go_wp2_with (first
            | (go_at_call 46; refine (HSH.out _).mono ?_; rintro e w1 ⟨rfl, rfl⟩; clear HSH)
            | (go_at_call 48; refine HLN.out.mono ?_; rintro e w2 ⟨a, c, rfl, hown, hb2⟩; have k2 := Lib.hid (blk_below (blk_new w (insC ⟨yo, ya, xb, xc, xn⟩) 55) hb2); have HB2 := Lib.hid (HW.out.trans (hb2.mono HW.out.size)); have HO := Lib.hid (RowAt.of_own hown); clear hown hb2)
            | (go_at_call 47; refine (HRD.out _ _ HO.out).mono ?_; rintro e w3 ⟨rfl, hb3⟩; have HB3 := Lib.hid (HB2.out.trans (hb3.mono HB2.out.size)); have k3 := Lib.hid (blk_below k2.out hb3); have q0 := blk_cell (blk_alloc k3.out (.cells (insC ⟨yo, ya, yb, yc, yn⟩) 55)) 0 _ rfl; have q1 := blk_cell (blk_alloc k3.out (.cells (insC ⟨yo, ya, yb, yc, yn⟩) 55)) 1 _ rfl; have q2 := blk_cell (blk_alloc k3.out (.cells (insC ⟨yo, ya, yb, yc, yn⟩) 55)) 2 _ rfl; have q3 := blk_cell (blk_alloc k3.out (.cells (insC ⟨yo, ya, yb, yc, yn⟩) 55)) 3 _ rfl; have q4 := blk_cell (blk_alloc k3.out (.cells (insC ⟨yo, ya, yb, yc, yn⟩) 55)) 4 _ rfl; clear hb3))
          go_ret
          exact ⟨rfl, HB3.out.alloc (HB3.out.size) _⟩
      · obtain rfl := HNE.out (by simp [h1])
        have e1 : (ya == xa) = false := by simpa using h1
        clear HNE HRR
        go_enter Tryd.func30, Tryd.ntmps30
        go_wp2_with (first
          | (go_at_call 46; refine (HSH.out _).mono ?_; rintro e w1 ⟨rfl, rfl⟩; clear HSH)
          | (go_at_call 48; refine HLN.out.mono ?_; rintro e w2 ⟨a, c, rfl, hown, hb2⟩; have k2 := Lib.hid (blk_below (blk_new w (insC ⟨yo, xa, xb, xc, xn⟩) 55) hb2); have HB2 := Lib.hid (HW.out.trans (hb2.mono HW.out.size)); have HO := Lib.hid (RowAt.of_own hown); clear hown hb2)
          | (go_at_call 47; refine (HRD.out _ _ HO.out).mono ?_; rintro e w3 ⟨rfl, hb3⟩; have HB3 := Lib.hid (HB2.out.trans (hb3.mono HB2.out.size)); have k3 := Lib.hid (blk_below k2.out hb3); have q0 := blk_cell (blk_alloc k3.out (.cells (insC ⟨yo, ya, yb, yc, yn⟩) 55)) 0 _ rfl; have q1 := blk_cell (blk_alloc k3.out (.cells (insC ⟨yo, ya, yb, yc, yn⟩) 55)) 1 _ rfl; have q2 := blk_cell (blk_alloc k3.out (.cells (insC ⟨yo, ya, yb, yc, yn⟩) 55)) 2 _ rfl; have q3 := blk_cell (blk_alloc k3.out (.cells (insC ⟨yo, ya, yb, yc, yn⟩) 55)) 3 _ rfl; have q4 := blk_cell (blk_alloc k3.out (.cells (insC ⟨yo, ya, yb, yc, yn⟩) 55)) 4 _ rfl; clear hb3))
        go_ret
        exact ⟨rfl, HB3.out.alloc (HB3.out.size) _⟩
    · obtain rfl := HNE.out (by simp [h1])
      have e1 : (yo == xo) = false := by simpa using h1
      clear HNE HRR
      go_enter Tryd.func30, Tryd.ntmps30
      go_wp2_with (first
        | (go_at_call 46; refine (HSH.out _).mono ?_; rintro e w1 ⟨rfl, rfl⟩; clear HSH)
        | (go_at_call 48; refine HLN.out.mono ?_; rintro e w2 ⟨a, c, rfl, hown, hb2⟩; have k2 := Lib.hid (blk_below (blk_new w (insC ⟨xo, xa, xb, xc, xn⟩) 55) hb2); have HB2 := Lib.hid (HW.out.trans (hb2.mono HW.out.size)); have HO := Lib.hid (RowAt.of_own hown); clear hown hb2)
        | (go_at_call 47; refine (HRD.out _ _ HO.out).mono ?_; rintro e w3 ⟨rfl, hb3⟩; have HB3 := Lib.hid (HB2.out.trans (hb3.mono HB2.out.size)); have k3 := Lib.hid (blk_below k2.out hb3); have q0 := blk_cell (blk_alloc k3.out (.cells (insC ⟨yo, ya, yb, yc, yn⟩) 55)) 0 _ rfl; have q1 := blk_cell (blk_alloc k3.out (.cells (insC ⟨yo, ya, yb, yc, yn⟩) 55)) 1 _ rfl; have q2 := blk_cell (blk_alloc k3.out (.cells (insC ⟨yo, ya, yb, yc, yn⟩) 55)) 2 _ rfl; have q3 := blk_cell (blk_alloc k3.out (.cells (insC ⟨yo, ya, yb, yc, yn⟩) 55)) 3 _ rfl; have q4 := blk_cell (blk_alloc k3.out (.cells (insC ⟨yo, ya, yb, yc, yn⟩) 55)) 4 _ rfl; clear hb3))
      go_ret
      exact ⟨rfl, HB3.out.alloc (HB3.out.size) _⟩
theorem rightR_any (i : PIns) (w : World) (hi : OkI i) (ht : HasT w) : Calls Tryd.prog 30 #[insV i] w (AggPost w (.bool (rightL i))) := by
  rcases h : byOpL i.op with _ | o
  · have e : rightL i = false := by unfold rightL; rw [h]
    rw [e]; exact rightR_none i w h
  · exact rightR_walk i o w h hi ht
theorem rightR_b (i : PIns) (b : Bool) (w : World) (hi : OkI i) (ht : HasT w) (h : rightL i = b) : Calls Tryd.prog 30 #[insV i] w (AggPost w (.bool b)) := by subst h; exact rightR_any i w hi ht
end Go.Proofs.YtmnoohpkjgjphaaDoor
