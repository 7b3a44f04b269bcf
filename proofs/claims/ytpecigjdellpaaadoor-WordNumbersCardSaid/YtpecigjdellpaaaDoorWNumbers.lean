/-
  WordNumbers: the walk.
-/
import Derived.Test.YtpecigjdellpaaaDoorWNumR2
namespace Go.Proofs.YtpecigjdellpaaaDoor
open Go.RowKit

def HasA (w : World) : Prop := HasM w ∧ HasE w ∧ HasT w
theorem HasA.below {w w' : World} (h : HasA w) (hb : Below w.heap.size w w') : HasA w' := ⟨h.1.below hb, h.2.1.below hb, h.2.2.below hb⟩

set_option maxRecDepth 100000 in
theorem wn_big (s : ByteArray) (n : Int) (w : World) (hs : 3000 < s.size) (hmax : s.size ≤ maxLen) (hm : HasM w) :
    Calls Tryd.prog 4 #[.string s, .int .i64 n] w fun e w' => e = .returned (.bool true) ∧ Below w.heap.size w w' := by
  have HA := alive_any w hm
  unfold maxLen at hmax
  go_enter Tryd.func4, Tryd.ntmps4
  go_wp2_with (go_at_call 10; refine HA.mono ?_; rintro e w1 ⟨rfl, hb1⟩)
  go_ret
  exact ⟨rfl, hb1⟩
set_option maxRecDepth 100000 in
set_option maxHeartbeats 4000000 in
theorem wn_err (s : ByteArray) (n : Int) (f : Nat) (w : World) (hs : s.size ≤ 3000) (hm : HasA w) (hf : f = 3 ∨ f = 4)
    (HN : Hid (∀ w, HasA w → Calls Tryd.prog 14 #[.string s] w (NumPost w (0, f)))) (HR : Hid (∀ w, Calls Tryd.prog 15 #[.string s] w fun e w' => e = .returned (.tuple #[.int .i64 0, .int .i64 f]) ∧ w = w'))
    (HF : Hid (∀ w, HasA w → Calls Tryd.prog 16 #[.int .i64 n, .int .i64 10] w (StrPost w (Lib.itoa n)))) (HB : Hid (∀ w, HasA w → Calls Tryd.prog 14 #[str (Lib.itoa n)] w (NumPost w (n, 0)))) :
    Calls Tryd.prog 4 #[.string s, .int .i64 n] w fun e w' => e = .returned (.bool true) ∧ Below w.heap.size w w' := by
  have HA := alive_any w hm.1
  generalize Lib.itoa n = t at *
  rcases hf with rfl | rfl <;>
  · go_enter Tryd.func4, Tryd.ntmps4
    go_wp2_with (first
      | (go_at_call 10; refine HA.mono ?_; rintro e w1 ⟨rfl, hb1⟩; have hm1 := hm.below hb1)
      | (go_at_call 14; ((with_reducible refine (HN.out w1 hm1).mono ?_); rintro e w2 ⟨rfl, hb2⟩; have hm2 := hm1.below hb2))
      | (go_at_call 15; ((with_reducible refine (HR.out w2).mono ?_); rintro e w2' ⟨rfl, rfl⟩))
      | (go_at_call 16; ((with_reducible refine (HF.out w2 hm2).mono ?_); rintro e w3 ⟨rfl, hb3⟩; have hm3 := hm2.below hb3))
      | (go_at_call 14; ((with_reducible refine (HB.out w3 hm3).mono ?_); rintro e w4 ⟨rfl, hb4⟩)))
    go_ret
    refine ⟨rfl, ?_⟩
    have s1 := hb1.size
    have s2 := hb2.size
    have s3 := hb3.size
    exact ((hb1.trans (hb2.mono (by omega))).trans (hb3.mono (by omega))).trans (hb4.mono (by omega))
set_option maxRecDepth 100000 in
set_option maxHeartbeats 4000000 in
theorem wn_ok (s : ByteArray) (n v : Int) (w : World) (hs : s.size ≤ 3000) (hm : HasA w)
    (HN : Hid (∀ w, HasA w → Calls Tryd.prog 14 #[.string s] w (NumPost w (v, 0)))) (HR : Hid (∀ w, Calls Tryd.prog 15 #[.string s] w fun e w' => e = .returned (.tuple #[.int .i64 v, .int .i64 0]) ∧ w = w'))
    (HF : Hid (∀ w, HasA w → Calls Tryd.prog 16 #[.int .i64 n, .int .i64 10] w (StrPost w (Lib.itoa n)))) (HB : Hid (∀ w, HasA w → Calls Tryd.prog 14 #[str (Lib.itoa n)] w (NumPost w (n, 0))))
    (HG : Hid (∀ w, HasA w → Calls Tryd.prog 16 #[.int .i64 v, .int .i64 10] w fun e w' => e = .returned (.string s) ∧ Below w.heap.size w w')) :
    Calls Tryd.prog 4 #[.string s, .int .i64 n] w fun e w' => e = .returned (.bool true) ∧ Below w.heap.size w w' := by
  have HA := alive_any w hm.1
  generalize Lib.itoa n = t at *
  go_enter Tryd.func4, Tryd.ntmps4
  go_wp2_with (first
    | (go_at_call 10; refine HA.mono ?_; rintro e w1 ⟨rfl, hb1⟩; have hm1 := hm.below hb1)
    | (go_at_call 14; ((with_reducible refine (HN.out w1 hm1).mono ?_); rintro e w2 ⟨rfl, hb2⟩; have hm2 := hm1.below hb2))
    | (go_at_call 15; ((with_reducible refine (HR.out w2).mono ?_); rintro e w2' ⟨rfl, rfl⟩))
    | (go_at_call 16; ((with_reducible refine (HF.out w2 hm2).mono ?_); rintro e w3 ⟨rfl, hb3⟩; have hm3 := hm2.below hb3))
    | (go_at_call 14; ((with_reducible refine (HB.out w3 hm3).mono ?_); rintro e w4 ⟨rfl, hb4⟩; have hm4 := hm3.below hb4))
    | (go_at_call 16; ((with_reducible refine (HG.out w4 hm4).mono ?_); rintro e w5 ⟨rfl, hb5⟩)))
  go_ret
  refine ⟨rfl, ?_⟩
  have s1 := hb1.size
  have s2 := hb2.size
  have s3 := hb3.size
  have s4 := hb4.size
  exact (((hb1.trans (hb2.mono (by omega))).trans (hb3.mono (by omega))).trans (hb4.mono (by omega))).trans (hb5.mono (by omega))
theorem wn_walk (s : ByteArray) (n : Int) (hmax : s.size ≤ maxLen) (hn : (Lit.int .i64 n).wf = true) (w : World) (hm : HasA w) :
    Calls Tryd.prog 4 #[.string s, .int .i64 n] w fun e w' => e = .returned (.bool true) ∧ Below w.heap.size w w' := by
  have hb : -9223372036854775808 ≤ n ∧ n ≤ 9223372036854775807 := by
    simp only [Lit.wf] at hn
    have e1 : IntKind.i64.min = -9223372036854775808 := by decide
    have e2 : IntKind.i64.max = 9223372036854775807 := by decide
    simp at hn
    omega
  by_cases hbig : 3000 < s.size
  · exact wn_big s n w hbig hmax hm.1
  · have hs : s.size ≤ 3000 := by omega
    obtain ⟨i1, i2⟩ := num_itoa n hb.1 hb.2
    have HF : Hid (∀ w, HasA w → Calls Tryd.prog 16 #[.int .i64 n, .int .i64 10] w (StrPost w (Lib.itoa n))) := Lib.hid fun w hm => format_any n hb.1 hb.2 w hm.2.2
    have HB : Hid (∀ w, HasA w → Calls Tryd.prog 14 #[str (Lib.itoa n)] w (NumPost w (n, 0))) := Lib.hid fun w hm => by
      have := number_any ⟨(Lib.itoa n).toArray⟩ w (by rw [bs_size]; have := Lib.itoa_length_le n hb.1 hb.2; omega) hm.2.1
      rw [bs_list, i1] at this
      exact this
    have HN : Hid (∀ w, HasA w → Calls Tryd.prog 14 #[.string s] w (NumPost w (numL s.data.toList))) := Lib.hid fun w hm => number_any s w hs hm.2.1
    have HR := Lib.hid fun w => numberR_any s w hs
    rcases hd : decL s.data.toList with _ | _
    · have e : numL s.data.toList = (0, 4) := by unfold numL; rw [hd]; rfl
      rw [e] at HN HR
      exact wn_err s n 4 w hs hm (.inr rfl) HN HR HF HB
    · rcases num_parse hd with ⟨v, h1, _⟩ | ⟨h1, _⟩
      · obtain ⟨b1, b2, b3⟩ := num_back h1
        rw [h1] at HN HR
        refine wn_ok s n v w hs hm HN HR HF HB (Lib.hid fun w hm => ?_)
        refine (format_any v b2 b3 w hm.2.2).mono fun e w' ⟨h1, h2⟩ => ⟨?_, h2⟩
        rw [h1, b1]
      · rw [h1] at HN HR
        exact wn_err s n 3 w hs hm (.inl rfl) HN HR HF HB
end Go.Proofs.YtpecigjdellpaaaDoor
