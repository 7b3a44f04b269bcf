/-
  Contracts of check: named, Local, Glob.
-/
import Derived.Test.YtapjgobkpehgfaaDoorUAN
import Derived.Test.YtapjgobkpehgfaaDoorUAD
import Derived.Test.YtapjgobkpehgfaaDoorUAH
namespace Go.Proofs.YtapjgobkpehgfaaDoor
set_option linter.unusedSimpArgs false
set_option linter.unusedVariables false
open Go.RowKit

theorem ts_of {w : World} {v : Value} {ts : List Bs} (h : RowAt w v (ts.map str)) (hs : ∀ t ∈ ts, t.length ≤ maxLen) : TsAt w v (tsP ts) := by
  refine ⟨?_, fun s hs' => ?_⟩
  · have e : (tsP ts).map Value.string = ts.map str := by unfold tsP; rw [List.map_map]; rfl
    rw [e]; exact h
  · unfold tsP at hs'
    obtain ⟨t, ht, rfl⟩ := List.mem_map.1 hs'
    have := hs t ht
    unfold maxLen at this; exact this
theorem krefs_b (v : Value) (ts : List ByteArray) (s : ByteArray) (b : Bool) (w : World) (h : TsAt w v ts) (hs : s.size ≤ 9223372036854775807) (hr : Hid (refsB ts s = b)) : Calls Tryd.prog 43 #[v, .string s] w fun e w' => e = .returned (.bool b) ∧ w = w' :=
  (krefs_any v ts s w h hs).mono fun e w' ⟨h1, h2⟩ => ⟨by rw [h1, hr.out], h2⟩

theorem named_out (v : Value) (s : ByteArray) (a : Nat) (w : World) (hs : s.size ≤ 9223372036854775807) (ha : a ≤ 255) (h : s.size ≤ a) (hv : ∃ x n c, v = .slice x n c) :
    Calls Tryd.prog 71 #[v, .string s, .int .u8 a] w fun e w' => e = .returned (.int .i64 (-1)) ∧ w = w' := by
  obtain ⟨x, n, c, rfl⟩ := hv
  go_enter Tryd.func71, Tryd.ntmps71
  go_wp2
  go_ret
  exact ⟨rfl, rfl⟩
theorem named_f (v : Value) (ts : List ByteArray) (s d1 d : ByteArray) (a : Nat) (w : World) (h : TsAt w v ts) (hs : s.size ≤ 9223372036854775807) (hd : d.size ≤ 9223372036854775807) (ha : a ≤ 255) (hlt : a < s.size)
    (h1 : ∀ w, (Instr.slice 9 (.string s) (some (.int .u8 (a : Int))) none none).run Tryd.prog w = .ok (.string d1) w)
    (h2 : ∀ w, (Instr.slice 9 (.string d1) none (some (.int .i64 1)) none).run Tryd.prog w = .ok (.string d) w)
    (hr : Hid (refsB ts d = false)) :
    Calls Tryd.prog 71 #[v, .string s, .int .u8 a] w fun e w' => e = .returned (.int .i64 (-1)) ∧ w = w' := by
  have H := Lib.hid h
  obtain ⟨x, c, rfl, -, -⟩ := h.shape
  clear h
  go_enter Tryd.func71, Tryd.ntmps71
  go_wp2_with (go_at_call 43; refine (krefs_b _ ts d false _ H.out hd hr).mono ?_; rintro e w' ⟨rfl, rfl⟩)
  go_ret
  exact ⟨rfl, rfl⟩
theorem named_t (v : Value) (ts : List ByteArray) (s d1 d : ByteArray) (a : Nat) (w : World) (h : TsAt w v ts) (hs : s.size ≤ 9223372036854775807) (hd : d.size ≤ 9223372036854775807) (ha : a ≤ 255) (hlt : a < s.size)
    (h1 : ∀ w, (Instr.slice 9 (.string s) (some (.int .u8 (a : Int))) none none).run Tryd.prog w = .ok (.string d1) w)
    (h2 : ∀ w, (Instr.slice 9 (.string d1) none (some (.int .i64 1)) none).run Tryd.prog w = .ok (.string d) w)
    (hr : Hid (refsB ts d = true)) (h48 : 48 ≤ s[a].toNat) (h256 : s[a].toNat < 256) :
    Calls Tryd.prog 71 #[v, .string s, .int .u8 a] w fun e w' => e = .returned (.int .i64 ((s[a].toNat : Int) - 48)) ∧ w = w' := by
  have H := Lib.hid h
  obtain ⟨x, c, rfl, -, -⟩ := h.shape
  clear h
  go_enter Tryd.func71, Tryd.ntmps71
  go_wp2_with (go_at_call 43; refine (krefs_b _ ts d true _ H.out hd hr).mono ?_; rintro e w' ⟨rfl, rfl⟩)
  go_ret
  exact ⟨rfl, rfl⟩
theorem slice_lo (s : ByteArray) (a : Nat) (h : a ≤ s.size) (w : World) : (Instr.slice 9 (.string s) (some (.int .u8 (a : Int))) none none).run Tryd.prog w = .ok (.string (s.extract a s.size)) w := by
  simpa using run_slice_string_l (P := Tryd.prog) w 9 s Tryd.underlying9 .u8 (a : Int) (by omega) (by omega)
theorem slice_hi (s : ByteArray) (h : 1 ≤ s.size) (w : World) : (Instr.slice 9 (.string s) none (some (.int .i64 1)) none).run Tryd.prog w = .ok (.string (s.extract 0 1)) w := by
  simpa using run_slice_string_h (P := Tryd.prog) w 9 s Tryd.underlying9 .i64 1 (by omega) (by omega)
theorem one_letter (s : Bs) (a : Nat) (h : a < s.length) : ((⟨s.toArray⟩ : ByteArray).extract a s.length).extract 0 1 = baL [s.getD a 0] := by
  have hx : (⟨s.toArray⟩ : ByteArray).size = s.length := rfl
  rw [ByteArray.ext_iff]
  apply Array.ext'
  have e : s.getD a 0 = s[a] := by rw [List.getD_eq_getElem?_getD, List.getElem?_eq_getElem h]; rfl
  rw [e]
  simp [baL, ByteArray.data_extract]
  rw [List.drop_eq_getElem_cons h, List.take_take, Nat.min_eq_left (by omega)]; rfl
theorem named_any (v : Value) (ts : List Bs) (s : Bs) (a : Int) (w : World) (h : TsAt w v (tsP ts)) (hs : s.length ≤ maxLen) (h0 : 0 ≤ a) (ha : a ≤ 255) :
    Calls Tryd.prog 71 #[v, str s, .int .u8 a] w fun e w' => e = .returned (.int .i64 (namesI ts s a)) ∧ w = w' := by
  obtain ⟨a, rfl⟩ : ∃ n : Nat, a = n := ⟨a.toNat, by omega⟩
  unfold maxLen at hs
  by_cases hlt : a < s.length
  · have e1 := slice_lo ⟨s.toArray⟩ a (Nat.le_of_lt hlt)
    have e2 := slice_hi ((⟨s.toArray⟩ : ByteArray).extract a (⟨s.toArray⟩ : ByteArray).size) (by rw [ByteArray.size_extract]; show 1 ≤ min s.length s.length - a; omega)
    have e3 : ((⟨s.toArray⟩ : ByteArray).extract a (⟨s.toArray⟩ : ByteArray).size).extract 0 1 = baL [s.getD a 0] := one_letter s a hlt
    rw [e3] at e2
    have hd : (baL [s.getD a 0]).size ≤ 9223372036854775807 := by show 1 ≤ _; omega
    have e4 : namesI ts s a = if refsB (tsP ts) (baL [s.getD a 0]) = true then ((s.getD a 0).toNat : Int) - 48 else -1 := by
      unfold namesI
      simp only [Int.toNat_natCast]
      by_cases hr : refsB (tsP ts) (baL [s.getD a 0]) = true
      · rw [if_pos ⟨by omega, by omega, hr⟩, if_pos hr]
      · rw [if_neg (fun h => hr h.2.2), if_neg hr]
    have e5 : (⟨s.toArray⟩ : ByteArray)[a]'hlt = s.getD a 0 := by
      rw [List.getD_eq_getElem?_getD, List.getElem?_eq_getElem hlt]; rfl
    rw [e4]
    rcases hr : refsB (tsP ts) (baL [s.getD a 0]) with _ | _
    · rw [if_neg (by simp)]
      exact named_f v (tsP ts) ⟨s.toArray⟩ _ _ a w h hs hd (by omega) hlt e1 e2 (Lib.hid hr)
    · rw [if_pos rfl]
      have h48 := ((refs_list.1 hr).2 (s.getD a 0) (by simp)).1
      have := named_t v (tsP ts) ⟨s.toArray⟩ _ _ a w h hs hd (by omega) hlt e1 e2 (Lib.hid hr) (by rw [e5]; exact h48) (UInt8.toNat_lt _)
      rw [e5] at this
      exact this
  · rw [names_no (by omega)]
    obtain ⟨x, c, rfl, -, -⟩ := h.shape
    exact named_out _ ⟨s.toArray⟩ a w hs (by omega) (by show s.length ≤ a; omega) ⟨_, _, _, rfl⟩
theorem names_le {ts : List Bs} {s : Bs} {a : Int} : -1 ≤ namesI ts s a ∧ namesI ts s a ≤ 207 := by
  unfold namesI
  split
  · next h =>
    have h1 := ((refs_list.1 h.2.2).2 (s.getD a.toNat 0) (by simp)).1
    have h2 := UInt8.toNat_lt (s.getD a.toNat 0)
    have e : (2 : Nat) ^ 8 = 256 := rfl
    omega
  · omega

theorem local_any (v : Value) (p : PProg) (a : Int) (w : World) (h : ProgAt w v p) (hs : OkP p) (h0 : 0 ≤ a) (ha : a ≤ 255) : Calls Tryd.prog 57 #[v, .int .u8 a] w (AggPost w (.int .i64 (localI p a))) := by
  obtain ⟨vt, vc, rfl, ht, hc⟩ := h
  have hwb : Below w.heap.size w (w.alloc (.cells (progC vt p vc) 32)) := (Below.refl _ _).alloc (Nat.le_refl _) _
  have HN := Lib.hid (named_any vt p.types p.locals a _ (ts_of (ht.below hwb) hs.ty) hs.lo h0 ha)
  have HW := Lib.hid hwb
  obtain ⟨x, c, rfl, -, -, -⟩ := id ht.elems
  obtain ⟨x', c', rfl, -, -, -⟩ := id hc
  clear ht hc hs hwb
  go_enter Tryd.func57, Tryd.ntmps57
  go_wp2_with (go_at_call 71; refine HN.out.mono ?_; rintro e w' ⟨rfl, rfl⟩)
  go_ret
  exact ⟨rfl, HW.out⟩
theorem glob_any (v : Value) (p : PProg) (a : Int) (w : World) (h : ProgAt w v p) (hs : OkP p) (h0 : 0 ≤ a) (ha : a ≤ 255) : Calls Tryd.prog 67 #[v, .int .u8 a] w (AggPost w (.int .i64 (globI p a))) := by
  obtain ⟨vt, vc, rfl, ht, hc⟩ := h
  have hwb : Below w.heap.size w (w.alloc (.cells (progC vt p vc) 32)) := (Below.refl _ _).alloc (Nat.le_refl _) _
  have HN := Lib.hid (named_any vt p.types p.globs a _ (ts_of (ht.below hwb) hs.ty) hs.gl h0 ha)
  have HW := Lib.hid hwb
  obtain ⟨x, c, rfl, -, -, -⟩ := id ht.elems
  obtain ⟨x', c', rfl, -, -, -⟩ := id hc
  clear ht hc hs hwb
  go_enter Tryd.func67, Tryd.ntmps67
  go_wp2_with (go_at_call 71; refine HN.out.mono ?_; rintro e w' ⟨rfl, rfl⟩)
  go_ret
  exact ⟨rfl, HW.out⟩
end Go.Proofs.YtapjgobkpehgfaaDoor
