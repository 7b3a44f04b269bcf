/-
  KindReaches, KindTells: the walks.
-/
import Derived.Test.YtpeoecaamdiphaaKAlive
namespace Go.Proofs.Ytpeoecaamdiphaa
open Go.RowKit

set_option maxHeartbeats 1000000 in
theorem reaches_walk (v : Value) (ts : List ByteArray) (t : Int) (w : World) (h : TsAt w v ts) : Calls Try.prog 4 #[v, .int .i64 t] w (TrueB w) := by
  have H := Lib.hid h
  clear h
  rcases hf : fewB ts with _ | _
  · have HF := Lib.hid hf
    clear hf
    go_enter Try.func4, Try.ntmps4
    go_wp2_with (first
      | (go_at_call 10; refine (alive_any _).mono ?_; rintro e w1 ⟨rfl, hb1⟩)
      | (go_at_call 11; refine (few_f _ ts _ (H.out.below hb1) HF).mono ?_; rintro e w' ⟨rfl, rfl⟩))
    go_ret
    exact ⟨rfl, hb1⟩
  · have HF := Lib.hid hf
    clear hf
    generalize hL : reachD ts t = L
    have HL := Lib.hid hL
    clear hL
    generalize hm : L.length = m
    have HM := Lib.hid hm
    clear hm
    go_enter Try.func4, Try.ntmps4
    go_wp2_with (first
      | (go_at_call 10; refine (alive_any _).mono ?_; rintro e w1 ⟨rfl, hb1⟩)
      | (go_at_call 11; refine (few_t _ ts _ (H.out.below hb1) HF).mono ?_; rintro e w' ⟨rfl, rfl⟩)
      | (go_at_call 23; refine (reach_at _ ts t L m _ (H.out.below hb1) HL HM.out).mono ?_; rintro e w2 ⟨a2, c2, rfl, hr2, hb2⟩)
      | (go_at_call 24; refine (rreach_at _ ts t L m _ ((H.out.below hb1).below hb2) HL HM.out).mono ?_; rintro e w3 ⟨a3, c3, rfl, hr3, hb3⟩)
      | (go_at_call 22; refine (same_t _ _ L _ (hr2.below hb3) hr3).mono ?_; rintro e w4 ⟨rfl, hd4⟩))
    go_ret
    have s1 := hb1.size
    have s2 := hb2.size
    exact ⟨rfl, ((hb1.trans (hb2.mono (by omega))).trans (hb3.mono (by omega))).trans (hd4.below _)⟩

theorem ts_drawn {w : World} {v : Value} {ts : List ByteArray} (h : TsAt w v ts) (n : Nat) : TsAt (w.drewN n) v ts := h.below (below_drewN w _ n)
theorem kright_n (v : Value) (ts : List ByteArray) (x : Bool) (w : World) (h : TsAt w v ts) (hr : Hid (rightB ts = x)) : Calls Try.prog 12 #[v] w fun e w' => e = .returned (.bool x) ∧ w = w' :=
  (kright_any v ts w h).mono fun e w' ⟨h1, h2⟩ => ⟨by rw [h1, hr.out], h2⟩
theorem rright_n (v : Value) (ts : List ByteArray) (x : Bool) (w : World) (h : TsAt w v ts) (hr : Hid (rightB ts = x)) : Calls Try.prog 13 #[v] w fun e w' => e = .returned (.bool x) ∧ w = w' :=
  (rright_any v ts w h).mono fun e w' ⟨h1, h2⟩ => ⟨by rw [h1, hr.out], h2⟩
/-- The two numbers that came in, in a block of their own. -/
theorem two_cell (w : World) (x y : Int) (e : TypeId) : (w.alloc (.cells #[.int .i64 x, .int .i64 y] e)).cell? ⟨w.heap.size, 0, none⟩ = some (.int .i64 x) ∧ (w.alloc (.cells #[.int .i64 x, .int .i64 y] e)).cell? ⟨w.heap.size, 1, none⟩ = some (.int .i64 y) := by
  simp only [World.cell?, heap_alloc_new]
  simp
theorem two_below {w w1 : World} {o : Obj} {j : Nat} {u : Value} (h : (w.alloc o).cell? ⟨w.heap.size, j, none⟩ = some u) (hb : Below (w.alloc o).heap.size (w.alloc o) w1) : w1.cell? ⟨w.heap.size, j, none⟩ = some u := by
  rw [(bcell hb).1 w.heap.size j (by simp)]; exact h

set_option maxHeartbeats 2000000 in
theorem tells_walk (v : Value) (ts : List ByteArray) (t f : Int) (s : ByteArray) (w : World) (h : TsAt w v ts) (hs : s.size ≤ 9223372036854775807) : Calls Try.prog 3 #[v, .agg #[.int .i64 t, .int .i64 f], .string s] w (TrueB w) := by
  have H := Lib.hid h
  clear h
  rcases hf : fewB ts with _ | _
  · have HF := Lib.hid hf
    clear hf
    go_enter Try.func3, Try.ntmps3
    go_wp2_with (first
      | (go_at_call 10; refine (alive_any _).mono ?_; rintro e w1 ⟨rfl, hb1⟩)
      | (go_at_call 11; refine (few_f _ ts _ ((H.out.below (below_alloc w _)).below hb1) HF).mono ?_; rintro e w' ⟨rfl, rfl⟩))
    go_ret
    exact ⟨rfl, (below_alloc w _).trans (hb1.mono (by simp))⟩
  · have HF := Lib.hid hf
    clear hf
    by_cases hg : 100 < s.size
    · go_enter Try.func3, Try.ntmps3
      go_wp2_with (first
        | (go_at_call 10; refine (alive_any _).mono ?_; rintro e w1 ⟨rfl, hb1⟩)
        | (go_at_call 11; refine (few_t _ ts _ ((H.out.below (below_alloc w _)).below hb1) HF).mono ?_; rintro e w' ⟨rfl, rfl⟩))
      go_ret
      exact ⟨rfl, (below_alloc w _).trans (hb1.mono (by simp))⟩
    generalize hR : rightB ts = R
    have HR := Lib.hid hR
    generalize hS : refsB ts s = S
    have HS := Lib.hid hS
    generalize hM : maskN ts t = M
    have HM := Lib.hid hM
    generalize hT : toI ts t f = T
    have HT := Lib.hid hT
    obtain ⟨Z, hZ⟩ : ∃ Z : Nat, sizeI ts t = Z := by
      unfold sizeI; split
      · exact ⟨_, rfl⟩
      · exact ⟨0, rfl⟩
    have HZ := Lib.hid hZ
    clear hR hS hM hT hZ
    have c0 := two_cell w t f 23
    go_enter Try.func3, Try.ntmps3
    go_wp2_with (first
      | (go_at_call 10; refine (alive_any _).mono ?_; rintro e w1 ⟨rfl, hb1⟩; have hT1 := (H.out.below (below_alloc w _)).below hb1; have g0 := two_below c0.1 hb1; have g1 := two_below c0.2 hb1; have HT1 := Lib.hid hT1; clear hT1)
      | (go_at_call 11; refine (few_t _ ts _ HT1.out HF).mono ?_; rintro e w' ⟨rfl, rfl⟩))
    go_quiet (fail)
    cases R <;> cases S
    all_goals
      go_wp2_with (first
        | (go_at_call 12; refine (kright_n _ ts _ _ (ts_drawn HT1.out _) HR).mono ?_; rintro e w' ⟨rfl, rfl⟩)
        | (go_at_call 13; refine (rright_n _ ts _ _ (ts_drawn HT1.out _) HR).mono ?_; rintro e w' ⟨rfl, rfl⟩)
        | (go_at_call 14; refine (krefs_n _ ts s _ _ (ts_drawn HT1.out _) hs HS).mono ?_; rintro e w' ⟨rfl, rfl⟩)
        | (go_at_call 15; refine (rrefs_n _ ts s _ _ (ts_drawn HT1.out _) hs HS).mono ?_; rintro e w' ⟨rfl, rfl⟩)
        | (go_at_call 16; refine (ksize_n _ ts t Z _ (ts_drawn HT1.out _) HZ).mono ?_; rintro e w' ⟨rfl, rfl⟩)
        | (go_at_call 17; refine (rsize_n _ ts t Z _ (ts_drawn HT1.out _) HZ).mono ?_; rintro e w' ⟨rfl, rfl⟩)
        | (go_at_call 18; refine (kmask_n _ ts t M _ (ts_drawn HT1.out _) HM).mono ?_; rintro e w' ⟨rfl, rfl⟩)
        | (go_at_call 19; refine (rmask_n _ ts t M _ (ts_drawn HT1.out _) HM).mono ?_; rintro e w' ⟨rfl, rfl⟩)
        | (go_at_call 20; refine (kto_n _ ts t f T _ (ts_drawn HT1.out _) HT).mono ?_; rintro e w' ⟨rfl, rfl⟩)
        | (go_at_call 21; refine (rto_n _ ts t f T _ (ts_drawn HT1.out _) HT).mono ?_; rintro e w' ⟨rfl, rfl⟩))
      go_ret
      exact ⟨rfl, ((below_alloc w _).trans (hb1.mono (by simp))).trans (below_drewN _ _ _)⟩
end Go.Proofs.Ytpeoecaamdiphaa
