/-
  Number; the document's digits and Number.
-/
import Derived.Test.YtgmpggjikebcdaaGreatDoorWPureN
import Derived.Test.YtgmpggjikebcdaaGreatDoorWMet
import Derived.Test.YtgmpggjikebcdaaGreatDoorWDec
import Derived.Test.YtgmpggjikebcdaaGreatDoorWJoin
import Derived.Stop.LaidErr
import Derived.Lib.LaidTab
import Derived.Lib.AppendIntMem
import Derived.WalkSpells
namespace Go.Proofs.YtgmpggjikebcdaaGreatDoor
open Go.RowKit

/-- The library's variables that numbers want. -/
def HasE (w : World) : Prop := ∃ ev, w.cell? ⟨8, 0, none⟩ = some ev ∧ (ev = .nilIface ∨ ∃ te pe, ev = .iface te pe)
theorem HasE.below {w w' : World} (h : HasE w) (hb : Below w.heap.size w w') : HasE w' := by
  obtain ⟨ev, h1, h2⟩ := h
  exact ⟨ev, by rw [(bcell hb).1 8 0 (World.block_lt_of_cell? _ _ h1)]; exact h1, h2⟩
theorem gE : Tryz.prog.globalNamed "strconv.ErrRange" = some 8 := by kernel_rfl
theorem gEt : (Tryz.prog.globals[8]?).map (·.type) = some 74 := by kernel_rfl
theorem gP : Tryz.prog.globalNamed "internal/strconv.uint64pow10" = some 1 := by kernel_rfl
theorem hasE_of {W : World} (h : laidMetH Tryz.prog laidR W) : HasE W := by
  rw [MakeChecks.laidMetH_plain _ _ _ (by kernel_rfl)] at h
  obtain ⟨ps, ⟨g0, t0, cs0, f0, p0, q0, hg0, ht0, hv0, hd0, _, e0⟩, _, hrows⟩ := h.tail.tail.tail.tail
  obtain rfl := Option.some.inj (gE.symm.trans hg0)
  obtain rfl := Option.some.inj (gEt.symm.trans ht0)
  obtain ⟨l0⟩ := cs0
  obtain ⟨f1, u, v, e, _⟩ := iface_of_trod Tryz.underlying74 hd0
  have e' : l0 = [.iface u v] := e
  subst e'
  have hc := World.var?_cell hg0 hv0 0
  exact ⟨.iface u v, by simpa using hc, .inr ⟨u, v, rfl⟩⟩
def HasT (w : World) : Prop := Lib.TabIs Tryz.prog w "internal/strconv.uint64pow10" .u64 Lib.pow10Tab
theorem HasT.below {w w' : World} (h : HasT w) (hb : Below w.heap.size w w') : HasT w' := by
  unfold HasT Lib.TabIs World.var? at h ⊢
  rw [gP] at h ⊢
  simp only [Option.bind_some] at h ⊢
  have hlt : 1 < w.heap.size := by
    rcases Nat.lt_or_ge 1 w.heap.size with h' | h'
    · exact h'
    · simp [Array.getElem?_eq_none h'] at h
  rw [hb.block 1 hlt]; exact h
theorem hasT_of {W : World} (h : laidMetH Tryz.prog laidR W) : HasT W := by
  rw [MakeChecks.laidMetH_plain _ _ _ (by kernel_rfl)] at h
  have e : (Rows.laid_internal_strconv_uint64pow10 : DataW Unit) = Lib.tabData .u64 Lib.pow10Tab := by kernel_rfl
  have h3 : laidMet Tryz.prog (("internal/strconv.uint64pow10", Rows.laid_internal_strconv_uint64pow10) :: Rows.codePrintsRow.laid.tail.tail.tail) W := h.tail.tail
  rw [e] at h3
  exact Lib.tabIs_of_head gP (by kernel_rfl : (Tryz.prog.globals[1]?).map (·.type) = some 116) Tryz.underlying116 Tryz.underlying93 (by kernel_rfl) (by kernel_rfl) h3

theorem format_any (n : Int) (h0 : -9223372036854775808 ≤ n) (h1 : n ≤ 9223372036854775807) (w : World) (ht : HasT w) : Calls Tryz.prog 33 #[.int .i64 n, .int .i64 10] w (StrPost w (Lib.itoa n)) := by
  refine (Tryz.strconv_FormatInt_10 n h0 h1 w ht).mono ?_
  rintro e w' ⟨rfl, k, os, rfl⟩
  exact ⟨rfl, Lib.below_grow _ w (Nat.le_refl _) k os⟩

def RangePost (w : World) (v : Int) (e : Ending) (w' : World) : Prop := ∃ N, e = .returned (.tuple #[.int .i64 v, .iface 133 (.pointer (some ⟨N, 0, none⟩))]) ∧ Below w.heap.size w w'
theorem number_range (s : ByteArray) (w : World) (hs : s.size ≤ 3000) (he : HasE w) (h : Hid (decL s.data.toList = true)) (hp : Lib.parseIntB 64 s.data.toList = .range) : Calls Tryz.prog 61 #[.string s] w (NumPost w (0, 3)) := by
  obtain ⟨ev, hv, hev⟩ := he
  have HP : Calls Tryz.prog 76 #[.string s, .int .i64 10, .int .i64 64] w (RangePost w (Lib.intSat 64 s.data.toList)) :=
    (Tryz.strconv_ParseInt_10_at64_range s (by omega) hp ev w hv hev).mono fun e w' ⟨N, h1, _, _, h4⟩ => ⟨N, h1, h4⟩
  have hs' : s.size ≤ maxLen := by unfold maxLen; omega
  generalize Lib.intSat 64 s.data.toList = v at HP
  clear hp hv hev
  go_enter Tryz.func61, Tryz.ntmps61
  go_wp2_with (first | (go_at_call 75; refine (isDecimal_t s _ hs' h).mono ?_; rintro e w' ⟨rfl, rfl⟩) | (go_at_call 76; refine HP.mono ?_; rintro e w1 ⟨N, rfl, hb⟩))
  go_ret2
  exact ⟨rfl, hb⟩
theorem number_any (s : ByteArray) (w : World) (hs : s.size ≤ 3000) (he : HasE w) : Calls Tryz.prog 61 #[.string s] w (NumPost w (numL s.data.toList)) := by
  rcases hd : decL s.data.toList with _ | _
  · have e : numL s.data.toList = (0, 4) := by unfold numL; rw [hd]; rfl
    rw [e]
    exact number_form s w (by unfold maxLen; omega) (Lib.hid hd)
  · rcases num_parse hd with ⟨v, h1, h2⟩ | ⟨h1, h2⟩
    · rw [h1]; exact number_ok s v w (by unfold maxLen; omega) (Lib.hid hd) h2
    · rw [h1]; exact number_range s w hs he (Lib.hid hd) h2
end Go.Proofs.YtgmpggjikebcdaaGreatDoor
