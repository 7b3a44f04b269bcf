/-
  WordAgain: the walk.
-/
import Derived.Test.YtpecigjdellpaaaDoorWAlive
import Derived.Test.YtpecigjdellpaaaDoorWPure2
namespace Go.Proofs.YtpecigjdellpaaaDoor
open Go.RowKit

def OkPost (w : World) (G : List (List Bs)) (e : Ending) (w' : World) : Prop :=
  ∃ a c, e = .returned (.tuple #[.slice a G.length c, .int .i64 0, .int .i64 0]) ∧ GridAt w' (.slice a G.length c) G ∧ Below w.heap.size w w'
theorem lines_ok (s : ByteArray) (G : List (List Bs)) (w : World) (hs : s.size ≤ maxLen) (hm : HasM w) (hR : linesL s.data.toList = (G, 0, 0)) : Calls Tryd.prog 11 #[.string s] w (OkPost w G) := by
  have := lines_any s w hs hm
  rw [hR] at this
  exact this.mono fun e w' ⟨a, c, h1, h2, h3⟩ => ⟨a, c, h1, h2.at, h3⟩
def ErrPost (w : World) (n : Nat) (e : Ending) (w' : World) : Prop :=
  ∃ a c, e = .returned (.tuple #[.slice a 0 c, .int .i64 n, .int .i64 4]) ∧ Below w.heap.size w w'
theorem lines_err (s : ByteArray) (n : Nat) (w : World) (hs : s.size ≤ maxLen) (hm : HasM w) (hR : linesL s.data.toList = ([], n, 4)) : Calls Tryd.prog 11 #[.string s] w (ErrPost w n) := by
  have := lines_any s w hs hm
  rw [hR] at this
  exact this.mono fun e w' ⟨a, c, h1, h2, h3⟩ => ⟨a, c, h1, h3⟩
theorem join_len_all (G : List (List Bs)) : ∀ x ∈ G, x.length ≤ (joinL G).length + 1 := by
  induction G with
  | nil => intro x hx; simp at hx
  | cons a r ih =>
    intro x hx
    rw [joinL_cons]
    rcases List.mem_cons.1 hx with rfl | hx
    · have : x.length ≤ (Lib.join x [32]).length + 1 := by
        clear ih hx
        induction x with
        | nil => simp
        | cons b s ih =>
          cases s with
          | nil => simp
          | cons c s => rw [join_two]; simp at ih ⊢; omega
      simp; omega
    · have := ih x hx; simp; omega

set_option maxRecDepth 100000 in
set_option maxHeartbeats 4000000 in
theorem again_ok (s : ByteArray) (G : List (List Bs)) (t : Bs) (w : World) (hs : s.size ≤ 3000) (hm : HasM w) (hR : linesL s.data.toList = (G, 0, 0)) (hT : joinL G = t) (hT2 : linesL t = (G, 0, 0)) (hl : t.length ≤ s.size + 1) :
    Calls Tryd.prog 8 #[.string s] w fun e w' => e = .returned (.bool true) ∧ Below w.heap.size w w' := by
  have HA := alive_any w hm
  have HL : Hid (∀ w, HasM w → Calls Tryd.prog 11 #[.string s] w (OkPost w G)) := Lib.hid (fun w hm => lines_ok s G w (by unfold maxLen; omega) hm hR)
  have HL2 : Hid (∀ w, HasM w → Calls Tryd.prog 11 #[str t] w (OkPost w G)) := Lib.hid (fun w hm => lines_ok ⟨t.toArray⟩ G w (by rw [bs_size]; unfold maxLen; omega) hm hT2)
  have HJ : Hid (∀ v w, GridAt w v G → Calls Tryd.prog 18 #[v] w (StrPost w t)) := Lib.hid (fun v w h => by
    have := join_any v G w h (by rw [hT]; omega) (fun x hx => by have := join_len_all G x hx; rw [hT] at this; omega)
    rw [hT] at this; exact this)
  have hl' : (⟨t.toArray⟩ : ByteArray).size ≤ s.size + 1 := hl
  clear hR hT hT2 hl
  go_enter Tryd.func8, Tryd.ntmps8
  go_wp2_with (first
    | (go_at_call 10; refine HA.mono ?_; rintro e w1 ⟨rfl, hb1⟩; have hm1 := hm.below hb1)
    | (go_at_call 11; ((with_reducible refine (HL.out w1 hm1).mono ?_); rintro e w2 ⟨a1, c1, rfl, hg2, hb2⟩; have hm2 := hm1.below hb2))
    | (go_at_call 18; ((with_reducible refine (HJ.out _ w2 hg2).mono ?_); rintro e w3 ⟨rfl, hb3⟩; have hm3 := hm2.below hb3; have hg3 := hg2.below hb3))
    | (go_at_call 11; ((with_reducible refine (HL2.out w3 hm3).mono ?_); rintro e w4 ⟨a2, c2, rfl, hg4, hb4⟩; have hga := hg3.below hb4))
    | (go_at_call 13; ((with_reducible refine (same_any _ _ G w4 hga hg4).mono ?_); rintro e w5 ⟨rfl, hd5⟩; have hb5 := hd5.below; have hg5 := hg4.below hb5; clear hd5))
    | (go_at_call 18; ((with_reducible refine (HJ.out _ w5 hg5).mono ?_); rintro e w6 ⟨rfl, hb6⟩)))
  go_ret
  refine ⟨ret_bool (decide_eq_true (by rw [bs_size] at hl'; omega)), ?_⟩
  have s1 := hb1.size
  have s2 := hb2.size
  have s3 := hb3.size
  have s4 := hb4.size
  have s5 := hb5.size
  exact ((((hb1.trans (hb2.mono (by omega))).trans (hb3.mono (by omega))).trans (hb4.mono (by omega))).trans (hb5.mono (by omega))).trans (hb6.mono (by omega))

set_option maxRecDepth 100000 in
theorem again_err (s : ByteArray) (n : Nat) (w : World) (hs : s.size ≤ 3000) (hm : HasM w) (hR : linesL s.data.toList = ([], n, 4)) :
    Calls Tryd.prog 8 #[.string s] w fun e w' => e = .returned (.bool true) ∧ Below w.heap.size w w' := by
  have HA := alive_any w hm
  have HL : Hid (∀ w, HasM w → Calls Tryd.prog 11 #[.string s] w (ErrPost w n)) := Lib.hid (fun w hm => lines_err s n w (by unfold maxLen; omega) hm hR)
  clear hR
  go_enter Tryd.func8, Tryd.ntmps8
  go_wp2_with (first
    | (go_at_call 10; refine HA.mono ?_; rintro e w1 ⟨rfl, hb1⟩; have hm1 := hm.below hb1)
    | (go_at_call 11; ((with_reducible refine (HL.out w1 hm1).mono ?_); rintro e w2 ⟨a1, c1, rfl, hb2⟩)))
  go_ret
  exact ⟨rfl, hb1.trans (hb2.mono hb1.size)⟩

set_option maxRecDepth 100000 in
theorem again_big (s : ByteArray) (w : World) (hs : 3000 < s.size) (hmax : s.size ≤ maxLen) (hm : HasM w) :
    Calls Tryd.prog 8 #[.string s] w fun e w' => e = .returned (.bool true) ∧ Below w.heap.size w w' := by
  have HA := alive_any w hm
  unfold maxLen at hmax
  go_enter Tryd.func8, Tryd.ntmps8
  go_wp2_with (go_at_call 10; refine HA.mono ?_; rintro e w1 ⟨rfl, hb1⟩; have hm1 := hm.below hb1)
  go_ret
  exact ⟨rfl, hb1⟩

theorem again_walk (s : ByteArray) (hmax : s.size ≤ maxLen) (w : World) (hm : HasM w) :
    Calls Tryd.prog 8 #[.string s] w fun e w' => e = .returned (.bool true) ∧ Below w.heap.size w w' := by
  by_cases hs : 3000 < s.size
  · exact again_big s w hs hmax hm
  · have hs' : s.size ≤ 3000 := by omega
    rcases linesL_cases s.data.toList (by rw [len_size]; omega) with ⟨h1, h2⟩ | ⟨k, l, h1, _⟩
    · have hl := again_len s.data.toList
      rw [len_size] at hl
      exact again_ok s _ _ w hs' hm h1 rfl (lines_join _ (goodL_good _ h2) (by omega)) hl
    · exact again_err s _ w hs' hm h1
end Go.Proofs.YtpecigjdellpaaaDoor
