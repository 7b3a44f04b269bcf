/-
  The document's at, Local, Glob, number, to, one: contracts.
-/
import Derived.Test.YtjkpbajojgdooaaDoorHNF
namespace Go.Proofs.YtjkpbajojgdooaaDoor
set_option linter.unusedSimpArgs false
set_option linter.unusedVariables false
open Go.RowKit

theorem rrefs_b (v : Value) (ts : List ByteArray) (s : ByteArray) (b : Bool) (w : World) (h : TsAt w v ts) (hs : s.size ≤ 9223372036854775807) (hr : Hid (refsB ts s = b)) : Calls Tryd.prog 26 #[v, .string s] w fun e w' => e = .returned (.bool b) ∧ w = w' :=
  (rrefs_any v ts s w h hs).mono fun e w' ⟨h1, h2⟩ => ⟨by rw [h1, hr.out], h2⟩
theorem rsize_n (v : Value) (ts : List ByteArray) (t z : Int) (w : World) (h : TsAt w v ts) (hz : Hid (sizeI ts t = z)) : Calls Tryd.prog 34 #[v, .int .i64 t] w fun e w' => e = .returned (.int .i64 z) ∧ w = w' :=
  (rsize_any v ts t w h).mono fun e w' ⟨h1, h2⟩ => ⟨by rw [h1, hz.out], h2⟩
theorem rto_n (v : Value) (ts : List ByteArray) (t f z : Int) (w : World) (h : TsAt w v ts) (hz : Hid (toI ts t f = z)) : Calls Tryd.prog 11 #[v, .int .i64 t, .int .i64 f] w fun e w' => e = .returned (.int .i64 z) ∧ w = w' :=
  (rto_any v ts t f w h).mono fun e w' ⟨h1, h2⟩ => ⟨by rw [h1, hz.out], h2⟩
theorem at_out (v : Value) (s : ByteArray) (a : Nat) (w : World) (hs : s.size ≤ 9223372036854775807) (ha : a ≤ 255) (h : s.size ≤ a) (hv : ∃ x n c, v = .slice x n c) :
    Calls Tryd.prog 44 #[v, .string s, .int .u8 a] w fun e w' => e = .returned (.int .i64 (-1)) ∧ w = w' := by
  obtain ⟨x, n, c, rfl⟩ := hv
  go_enter Tryd.func44, Tryd.ntmps44
  go_wp2
  go_ret
  exact ⟨rfl, rfl⟩
theorem at_f (v : Value) (ts : List ByteArray) (s d : ByteArray) (a : Nat) (w : World) (h : TsAt w v ts) (hs : s.size ≤ 9223372036854775807) (hd : d.size ≤ 9223372036854775807) (ha : a ≤ 254) (hlt : a < s.size)
    (h1 : ∀ w, (Instr.slice 9 (.string s) (some (.int .u8 (a : Int))) (some (.int .u8 ((a : Int) + 1))) none).run Tryd.prog w = .ok (.string d) w)
    (hr : Hid (refsB ts d = false)) :
    Calls Tryd.prog 44 #[v, .string s, .int .u8 a] w fun e w' => e = .returned (.int .i64 (-1)) ∧ w = w' := by
  have H := Lib.hid h
  obtain ⟨x, c, rfl, -, -⟩ := h.shape
  clear h
  go_enter Tryd.func44, Tryd.ntmps44
  go_wp2_with (go_at_call 26; refine (rrefs_b _ ts d false _ H.out hd hr).mono ?_; rintro e w' ⟨rfl, rfl⟩)
  go_ret
  exact ⟨rfl, rfl⟩
theorem at_t (v : Value) (ts : List ByteArray) (s d : ByteArray) (a : Nat) (w : World) (h : TsAt w v ts) (hs : s.size ≤ 9223372036854775807) (hd : d.size ≤ 9223372036854775807) (ha : a ≤ 254) (hlt : a < s.size)
    (h1 : ∀ w, (Instr.slice 9 (.string s) (some (.int .u8 (a : Int))) (some (.int .u8 ((a : Int) + 1))) none).run Tryd.prog w = .ok (.string d) w)
    (hr : Hid (refsB ts d = true)) (h48 : 48 ≤ s[a].toNat) (h256 : s[a].toNat < 256) :
    Calls Tryd.prog 44 #[v, .string s, .int .u8 a] w fun e w' => e = .returned (.int .i64 ((s[a].toNat : Int) - 48)) ∧ w = w' := by
  have H := Lib.hid h
  obtain ⟨x, c, rfl, -, -⟩ := h.shape
  clear h
  go_enter Tryd.func44, Tryd.ntmps44
  go_wp2_with (go_at_call 26; refine (rrefs_b _ ts d true _ H.out hd hr).mono ?_; rintro e w' ⟨rfl, rfl⟩)
  go_ret
  exact ⟨rfl, rfl⟩
theorem slice_at1 (s : ByteArray) (a : Nat) (h : a < s.size) (w : World) : (Instr.slice 9 (.string s) (some (.int .u8 (a : Int))) (some (.int .u8 ((a : Int) + 1))) none).run Tryd.prog w = .ok (.string (s.extract a (a + 1))) w := by
  have := run_slice_string (P := Tryd.prog) (w := w) 9 s .u8 .u8 (a : Int) ((a : Int) + 1) Tryd.underlying9 (by omega) (by omega) (by omega)
  simpa using this
theorem one_letter' (s : Bs) (a : Nat) (h : a < s.length) : (⟨s.toArray⟩ : ByteArray).extract a (a + 1) = baL [s.getD a 0] := by
  rw [ByteArray.ext_iff]
  apply Array.ext'
  have e : s.getD a 0 = s[a] := by rw [List.getD_eq_getElem?_getD, List.getElem?_eq_getElem h]; rfl
  rw [e]
  simp [baL, ByteArray.data_extract]
  rw [List.drop_eq_getElem_cons h]
  rfl
theorem at_any (v : Value) (ts : List Bs) (s : Bs) (a : Int) (w : World) (h : TsAt w v (tsP ts)) (hs : s.length ≤ 200) (h0 : 0 ≤ a) (ha : a ≤ 255) :
    Calls Tryd.prog 44 #[v, str s, .int .u8 a] w fun e w' => e = .returned (.int .i64 (namesI ts s a)) ∧ w = w' := by
  obtain ⟨a, rfl⟩ : ∃ n : Nat, a = n := ⟨a.toNat, by omega⟩
  have hs' : (⟨s.toArray⟩ : ByteArray).size ≤ 9223372036854775807 := by show s.length ≤ _; omega
  by_cases hlt : a < s.length
  · have e1 := slice_at1 ⟨s.toArray⟩ a hlt
    rw [one_letter' s a hlt] at e1
    have hd : (baL [s.getD a 0]).size ≤ 9223372036854775807 := by show 1 ≤ _; omega
    have e4 : namesI ts s a = if refsB (tsP ts) (baL [s.getD a 0]) = true then ((s.getD a 0).toNat : Int) - 48 else -1 := by
      unfold namesI
      simp only [Int.toNat_natCast]
      by_cases hr : refsB (tsP ts) (baL [s.getD a 0]) = true
      · rw [if_pos ⟨by omega, by omega, hr⟩, if_pos hr]
      · rw [if_neg (fun h => hr h.2.2), if_neg hr]
    have e5 : (⟨s.toArray⟩ : ByteArray)[a]'hlt = s.getD a 0 := by
      rw [List.getD_eq_getElem?_getD, List.getElem?_eq_getElem hlt]; rfl
    rw [e4]
    rcases hr : refsB (tsP ts) (baL [s.getD a 0]) with _ | _
    · rw [if_neg (by simp)]
      exact at_f v (tsP ts) ⟨s.toArray⟩ _ a w h hs' hd (by omega) hlt e1 (Lib.hid hr)
    · rw [if_pos rfl]
      have h48 := ((refs_list.1 hr).2 (s.getD a 0) (by simp)).1
      have := at_t v (tsP ts) ⟨s.toArray⟩ _ a w h hs' hd (by omega) hlt e1 (Lib.hid hr) (by rw [e5]; exact h48) (UInt8.toNat_lt _)
      rw [e5] at this
      exact this
  · rw [names_no (by omega)]
    obtain ⟨x, c, rfl, -, -⟩ := h.shape
    exact at_out _ ⟨s.toArray⟩ a w hs' (by omega) (by show s.length ≤ a; omega) ⟨_, _, _, rfl⟩
theorem rlocal_n (v : Value) (p : PProg) (a z : Int) (w : World) (h : ProgAt w v p) (hs : OkP p) (hl : p.locals.length ≤ 200) (h0 : 0 ≤ a) (ha : a ≤ 255) (hz : localI p a = z) : Calls Tryd.prog 35 #[v, .int .u8 a] w (AggPost w (.int .i64 z)) := by
  obtain ⟨vt, vc, rfl, ht, hc⟩ := h
  have hwb : Below w.heap.size w (w.alloc (.cells (progC vt p vc) 25)) := (Below.refl _ _).alloc (Nat.le_refl _) _
  have HN := Lib.hid (at_any vt p.types p.locals a _ (ts_of (ht.below hwb) hs.ty) hl h0 ha)
  have HW := Lib.hid hwb
  obtain ⟨x, c, rfl, -, -, -⟩ := id ht.elems
  obtain ⟨x', c', rfl, -, -, -⟩ := id hc
  have HZ := Lib.hid hz
  clear ht hc hs hwb hz
  go_enter Tryd.func35, Tryd.ntmps35
  go_wp2_with (go_at_call 44; refine HN.out.mono ?_; rintro e w' ⟨rfl, rfl⟩)
  go_ret
  exact ⟨by rw [← HZ.out]; rfl, HW.out⟩
theorem rglob_n (v : Value) (p : PProg) (a z : Int) (w : World) (h : ProgAt w v p) (hs : OkP p) (hl : p.globs.length ≤ 200) (h0 : 0 ≤ a) (ha : a ≤ 255) (hz : globI p a = z) : Calls Tryd.prog 43 #[v, .int .u8 a] w (AggPost w (.int .i64 z)) := by
  obtain ⟨vt, vc, rfl, ht, hc⟩ := h
  have hwb : Below w.heap.size w (w.alloc (.cells (progC vt p vc) 25)) := (Below.refl _ _).alloc (Nat.le_refl _) _
  have HN := Lib.hid (at_any vt p.types p.globs a _ (ts_of (ht.below hwb) hs.ty) hl h0 ha)
  have HW := Lib.hid hwb
  obtain ⟨x, c, rfl, -, -, -⟩ := id ht.elems
  obtain ⟨x', c', rfl, -, -, -⟩ := id hc
  have HZ := Lib.hid hz
  clear ht hc hs hwb hz
  go_enter Tryd.func43, Tryd.ntmps43
  go_wp2_with (go_at_call 44; refine HN.out.mono ?_; rintro e w' ⟨rfl, rfl⟩)
  go_ret
  exact ⟨by rw [← HZ.out]; rfl, HW.out⟩
theorem one_n (s t : Int) (b : Bool) (w : World) (hb : sameT s t = b) : Calls Tryd.prog 40 #[.int .i64 s, .int .i64 t] w fun e w' => e = .returned (.bool b) ∧ w = w' := by
  unfold sameT at hb
  have HB := Lib.hid hb
  clear hb
  by_cases h : 0 ≤ s
  · by_cases h2 : s = t
    · have e1 : (s == t) = true := by simp [h2]
      have HS := Lib.hid h2
      clear h2
      go_enter Tryd.func40, Tryd.ntmps40
      go_wp2
      go_ret
      exact ⟨ret_bool (by rw [← HB.out]; have := HS.out; simp; omega), rfl⟩
    · have e1 : (s == t) = false := by simp [h2]
      have HS := Lib.hid h2
      clear h2
      go_enter Tryd.func40, Tryd.ntmps40
      go_wp2
      go_ret
      exact ⟨ret_bool (by rw [← HB.out]; have := HS.out; simp; omega), rfl⟩
  · go_enter Tryd.func40, Tryd.ntmps40
    go_wp2
    go_ret
    exact ⟨ret_bool (by rw [← HB.out]; simp; omega), rfl⟩
theorem rnum_n (v : Value) (p : PProg) (t n : Int) (b : Bool) (w : World) (h : ProgAt w v p) (hs : OkP p) (hb : numF p.types t n = b) : Calls Tryd.prog 41 #[v, .int .i64 t, .int .i64 n] w (AggPost w (.bool b)) := by
  obtain ⟨vt, vc, rfl, ht, hc⟩ := h
  have hwb : Below w.heap.size w (w.alloc (.cells (progC vt p vc) 25)) := (Below.refl _ _).alloc (Nat.le_refl _) _
  have HT := Lib.hid (ts_of (ht.below hwb) hs.ty)
  have HW := Lib.hid hwb
  obtain ⟨x, c, rfl, -, -, -⟩ := id ht.elems
  obtain ⟨x', c', rfl, -, -, -⟩ := id hc
  obtain ⟨z0, z1⟩ := sizeI_le (ts := tsP p.types) (t := t)
  obtain ⟨y0, y1⟩ := toI_le (ts := tsP p.types) (t := t) (f := n)
  have hnum : numF p.types t n = (decide (0 ≤ n) && decide (n < sizeI (tsP p.types) t) && decide (toI (tsP p.types) t n < 0)) := rfl
  rw [hnum] at hb
  generalize hzz : sizeI (tsP p.types) t = z at *
  generalize hyy : toI (tsP p.types) t n = y at *
  have HZ := Lib.hid hzz
  have HY := Lib.hid hyy
  have HB := Lib.hid hb
  clear ht hc hs hwb hb hzz hyy hnum
  by_cases h0 : 0 ≤ n
  · by_cases h1 : n < z
    all_goals
      go_enter Tryd.func41, Tryd.ntmps41
      go_wp2_with (first
        | (go_at_call 34; refine (rsize_n _ (tsP p.types) t z _ HT.out HZ).mono ?_; rintro e w' ⟨rfl, rfl⟩)
        | (go_at_call 11; refine (rto_n _ (tsP p.types) t n y _ HT.out HY).mono ?_; rintro e w' ⟨rfl, rfl⟩))
      go_ret
      exact ⟨ret_bool (by rw [← HB.out]; simp; omega), HW.out⟩
  · go_enter Tryd.func41, Tryd.ntmps41
    go_wp2
    go_ret
    exact ⟨ret_bool (by rw [← HB.out]; simp; omega), HW.out⟩
theorem toP_out {ts : List Bs} {t n : Int} (h : n < 0 ∨ 6 < n) : toP ts t n = -1 := by
  have h2 := (sizeI_le (ts := tsP ts) (t := t)).2
  unfold sizeI at h2
  unfold toP toI
  rw [if_neg]
  rintro ⟨h1, h3, h4⟩
  rw [if_pos h1] at h2
  omega
theorem rpts_n (v : Value) (p : PProg) (t n z : Int) (w : World) (h : ProgAt w v p) (hs : OkP p) (hz : toP p.types t n = z) : Calls Tryd.prog 42 #[v, .int .i64 t, .int .i64 n] w (AggPost w (.int .i64 z)) := by
  obtain ⟨vt, vc, rfl, ht, hc⟩ := h
  have hwb : Below w.heap.size w (w.alloc (.cells (progC vt p vc) 25)) := (Below.refl _ _).alloc (Nat.le_refl _) _
  have HT := Lib.hid (ts_of (ht.below hwb) hs.ty)
  have HW := Lib.hid hwb
  obtain ⟨x, c, rfl, -, -, -⟩ := id ht.elems
  obtain ⟨x', c', rfl, -, -, -⟩ := id hc
  by_cases hn : n < 0 ∨ 6 < n
  · obtain rfl : z = -1 := by rw [← hz]; exact toP_out hn
    clear ht hc hs hwb hz
    rcases hn with hn | hn
    all_goals
      go_enter Tryd.func42, Tryd.ntmps42
      go_wp2
      go_ret
      exact ⟨rfl, HW.out⟩
  · have HY : Hid (toI (tsP p.types) t n = z) := Lib.hid hz
    have h0 : 0 ≤ n := by omega
    have h6 : n ≤ 6 := by omega
    clear ht hc hs hwb hz hn
    go_enter Tryd.func42, Tryd.ntmps42
    go_wp2_with (go_at_call 11; refine (rto_n _ (tsP p.types) t n z _ HT.out HY).mono ?_; rintro e w' ⟨rfl, rfl⟩)
    go_ret
    exact ⟨rfl, HW.out⟩
end Go.Proofs.YtjkpbajojgdooaaDoor
