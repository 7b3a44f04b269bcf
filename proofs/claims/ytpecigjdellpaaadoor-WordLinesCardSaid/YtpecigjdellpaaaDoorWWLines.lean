/-
  WordLines: the walk.
-/
import Derived.Test.YtpecigjdellpaaaDoorWLinesR
namespace Go.Proofs.YtpecigjdellpaaaDoor
open Go.RowKit

def LPost (w : World) (G : List (List Bs)) (n f : Nat) (e : Ending) (w' : World) : Prop :=
  ∃ a c, e = .returned (.tuple #[.slice a G.length c, .int .i64 n, .int .i64 f]) ∧ GridAt w' (.slice a G.length c) G ∧ Below w.heap.size w w'
theorem lines_p (s : ByteArray) (w : World) (hs : s.size ≤ maxLen) (hm : HasM w) : Calls Tryd.prog 11 #[.string s] w (LPost w (linesL s.data.toList).1 (linesL s.data.toList).2.1 (linesL s.data.toList).2.2) :=
  (lines_any s w hs hm).mono fun _ _ ⟨a, c, h1, h2, h3⟩ => ⟨a, c, h1, h2.at, h3⟩
theorem linesR_p (s : ByteArray) (w : World) (hs : s.size ≤ maxLen) : Calls Tryd.prog 12 #[.string s] w (LPost w (linesL s.data.toList).1 (linesL s.data.toList).2.1 (linesL s.data.toList).2.2) :=
  (linesR_any s w hs).mono fun _ _ ⟨a, c, h1, h2, h3⟩ => ⟨a, c, h1, h2.at, h3⟩

set_option maxRecDepth 100000 in
theorem wl_big (s : ByteArray) (w : World) (hs : 20000 < s.size) (hmax : s.size ≤ maxLen) (hm : HasM w) :
    Calls Tryd.prog 3 #[.string s] w fun e w' => e = .returned (.bool true) ∧ Below w.heap.size w w' := by
  have HA := alive_any w hm
  have HL : Hid (∀ w, HasM w → Calls Tryd.prog 11 #[.string s] w (LPost w [] 0 3)) := Lib.hid (fun w hm => by
    have := lines_p s w hmax hm
    rw [show linesL s.data.toList = ([], 0, 3) by unfold linesL; rw [if_pos (by rw [len_size]; exact hs)]] at this
    exact this)
  unfold maxLen at hmax
  have h3 : 3000 < s.size := by omega
  have h20 : ¬ s.size ≤ 20000 := by omega
  go_enter Tryd.func3, Tryd.ntmps3
  go_wp2_with (first
    | (go_at_call 10; refine HA.mono ?_; rintro e w1 ⟨rfl, hb1⟩; have hm1 := hm.below hb1)
    | (go_at_call 11; refine (HL.out w1 hm1).mono ?_; rintro e w2 ⟨a2, c2, rfl, _, hb2⟩))
  go_ret
  exact ⟨rfl, hb1.trans (hb2.mono hb1.size)⟩
set_option maxRecDepth 100000 in
theorem wl_mid (s : ByteArray) (w : World) (G : List (List Bs)) (n f : Nat) (hs : s.size ≤ 20000) (h3 : 3000 < s.size) (hm : HasM w) (HL : Hid (∀ w, HasM w → Calls Tryd.prog 11 #[.string s] w (LPost w G n f))) :
    Calls Tryd.prog 3 #[.string s] w fun e w' => e = .returned (.bool true) ∧ Below w.heap.size w w' := by
  have HA := alive_any w hm
  go_enter Tryd.func3, Tryd.ntmps3
  go_wp2_with (first
    | (go_at_call 10; refine HA.mono ?_; rintro e w1 ⟨rfl, hb1⟩; have hm1 := hm.below hb1)
    | (go_at_call 11; refine (HL.out w1 hm1).mono ?_; rintro e w2 ⟨a2, c2, rfl, _, hb2⟩))
  go_ret
  exact ⟨rfl, hb1.trans (hb2.mono hb1.size)⟩
set_option maxRecDepth 100000 in
theorem wl_small (s : ByteArray) (w : World) (G : List (List Bs)) (n f : Nat) (hs : s.size ≤ 3000) (hm : HasM w) (HL : Hid (∀ w, HasM w → Calls Tryd.prog 11 #[.string s] w (LPost w G n f))) (HR : Hid (∀ w, Calls Tryd.prog 12 #[.string s] w (LPost w G n f))) :
    Calls Tryd.prog 3 #[.string s] w fun e w' => e = .returned (.bool true) ∧ Below w.heap.size w w' := by
  have HA := alive_any w hm
  go_enter Tryd.func3, Tryd.ntmps3
  go_wp2_with (first
    | (go_at_call 10; refine HA.mono ?_; rintro e w1 ⟨rfl, hb1⟩; have hm1 := hm.below hb1)
    | (go_at_call 11; refine (HL.out w1 hm1).mono ?_; rintro e w2 ⟨a2, c2, rfl, hg2, hb2⟩)
    | (go_at_call 12; refine (HR.out w2).mono ?_; rintro e w3 ⟨a3, c3, rfl, hg3, hb3⟩; have hga := hg2.below hb3)
    | (go_at_call 13; refine (same_any _ _ G w3 hga hg3).mono ?_; rintro e w4 ⟨rfl, hd4⟩; have hb4 := hd4.below))
  go_ret
  refine ⟨rfl, ?_⟩
  have s1 := hb1.size
  have s2 := hb2.size
  have s3 := hb3.size
  exact ((hb1.trans (hb2.mono (by omega))).trans (hb3.mono (by omega))).trans (hb4.mono (by omega))
theorem wl_walk (s : ByteArray) (hmax : s.size ≤ maxLen) (w : World) (hm : HasM w) :
    Calls Tryd.prog 3 #[.string s] w fun e w' => e = .returned (.bool true) ∧ Below w.heap.size w w' := by
  by_cases h1 : 20000 < s.size
  · exact wl_big s w h1 hmax hm
  · by_cases h2 : 3000 < s.size
    · exact wl_mid s w _ _ _ (by omega) h2 hm (Lib.hid fun w hm => lines_p s w hmax hm)
    · exact wl_small s w _ _ _ (by omega) hm (Lib.hid fun w hm => lines_p s w hmax hm) (Lib.hid fun w => linesR_p s w hmax)
end Go.Proofs.YtpecigjdellpaaaDoor
