/-
  Contracts: Refs (the program's and the document's).
-/
import Derived.Test.YtcenjphpdgadmaaDoorKOne
namespace Go.Proofs.YtcenjphpdgadmaaDoor
set_option linter.unusedSimpArgs false
set_option linter.unusedVariables false
open Go.RowKit

set_option maxHeartbeats 1000000 in
theorem rrefs_any (v : Value) (ts : List ByteArray) (s : ByteArray) (w : World) (h : TsAt w v ts) (hs : s.size ≤ 9223372036854775807) : Calls Tryd.prog 31 #[v, .string s] w fun e w' => e = .returned (.bool (refsB ts s)) ∧ w = w' := by
  have H := Lib.hid h
  obtain ⟨a, c, rfl, h1, h2⟩ := h.shape
  clear h
  have hn : ts.length ≤ 9223372036854775807 := by omega
  go_enter Tryd.func31, Tryd.ntmps31
  go_wp2
  go_loop [5] (fun i => ∃ k : Nat, k ≤ s.size ∧ i = .int .i64 k ∧ Hid (∀ j, j < k → digB ts.length (byt s j) = true)) (fun i => s.size - (intOf i).toNat)
  case atStart => exact ⟨0, Nat.zero_le _, rfl, Lib.hid none_yet⟩
  case round =>
    obtain ⟨k, hk, rfl, hol⟩ := hrel
    by_cases hlt : k < s.size
    · have hb := byt_at hlt
      have hl := byt_lt s k
      have hl' : s[k].toNat < 256 := by omega
      rcases hd : digB ts.length (byt s k) with _ | _
      · have HD : Hid (digB ts.length s[k].toNat = false) := Lib.hid (by rw [hb]; exact hd)
        have HE := Lib.hid hd
        clear hb hl hd
        go_wp2_with (go_at_call 40; refine (rdig_f _ _ _ hl' hn HD).mono ?_; rintro e w' ⟨rfl, rfl⟩)
        go_ret
        exact ⟨ret_bool (refs_no hlt HE.out).symm, rfl⟩
      · have HD : Hid (digB ts.length s[k].toNat = true) := Lib.hid (by rw [hb]; exact hd)
        have HE := Lib.hid hd
        have hge : ¬ ((s[k].toNat : Nat) : Int) - 48 < 0 := by have := (dig_iff.1 hd).1; omega
        clear hb hl hd
        go_wp2_with (go_at_call 40; refine (rdig_t _ _ _ hl' hn HD).mono ?_; rintro e w' ⟨rfl, rfl⟩)
        go_round
        case rel => exact ⟨k + 1, by omega, by go_num, Lib.hid (all_next hol.out HE.out)⟩
        case measure => simp [intOf]; omega
    · rcases hr : rightB ts with _ | _
      · have HR := Lib.hid hr
        clear hr
        go_wp2_with (go_at_call 41; refine (rright_f _ ts _ H.out HR).mono ?_; rintro e w' ⟨rfl, rfl⟩)
        go_ret
        exact ⟨ret_bool (refs_right HR.out).symm, rfl⟩
      · have HR := Lib.hid hr
        clear hr
        go_wp2_with (go_at_call 41; refine (rright_t _ ts _ H.out HR).mono ?_; rintro e w' ⟨rfl, rfl⟩)
        go_ret
        exact ⟨ret_bool (refs_iff.2 ⟨HR.out, fun j hj => hol.out j (by omega)⟩).symm, rfl⟩
end Go.Proofs.YtcenjphpdgadmaaDoor
