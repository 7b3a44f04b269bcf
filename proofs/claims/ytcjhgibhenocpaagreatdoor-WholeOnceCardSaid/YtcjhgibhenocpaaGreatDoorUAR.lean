/-
  Facts, as the program keeps them: three truths each.
  Slices that lie in memory: rows of one-cell values, texts, types.
  Contracts: letters and digits; whether types may be (the program's and the document's).
  The document's Right.
-/
import Derived.Test.YtcjhgibhenocpaaGreatDoorUAQ
import Derived.Test.YtcjhgibhenocpaaGreatDoorUAN
import Derived.Test.YtcjhgibhenocpaaGreatDoorUAH
import Derived.Test.YtcjhgibhenocpaaGreatDoorCProg
import Derived.Test.YtcjhgibhenocpaaGreatDoorUAA
import Derived.Test.YtcjhgibhenocpaaGreatDoorChecked
import Derived.WalkKit
import Derived.RowKit
import Derived.IntWalk
import Derived.Below
import Derived.OwnWalk
import Derived.Laws.OwnMore
import Derived.Lib.SmallJoins
import Derived.Deep.QuietTactic
import Derived.BigQuiet

/- Facts, as the program keeps them: three truths each. -/
namespace Go.Proofs.YtcjhgibhenocpaaGreatDoor
set_option linter.unusedSimpArgs false
set_option linter.unusedVariables false
open Go.RowKit

/-- What may be left out at a place. -/
structure PFact where
  st : Bool
  ra : Bool
  pl : Bool
deriving DecidableEq
def noFact : PFact := ⟨false, false, false⟩
/-! ### As they lie -/
def factC (f : PFact) : List Value := [.bool f.st, .bool f.ra, .bool f.pl]
theorem factC_len (f : PFact) : (factC f).length = 3 := rfl
/-- A slice of facts. -/
abbrev FactsAt (w : World) (v : Value) (l : List PFact) : Prop := RowS factC 3 w v l
/-- One of them, cell by cell. -/
theorem facts_cell {w : World} {a : Option Addr} {m cap : Nat} {l : List PFact} (h : FactsAt w (.slice a m cap) l) {k : Nat} {x : PFact} (hk : l[k]? = some x) :
    ∃ b o, a = some ⟨b, o, none⟩ ∧ w.cell? ⟨b, o + k * 3, none⟩ = some (.bool x.st) ∧ w.cell? ⟨b, o + k * 3 + 1, none⟩ = some (.bool x.ra) ∧ w.cell? ⟨b, o + k * 3 + 2, none⟩ = some (.bool x.pl) := by
  obtain ⟨b, o, rfl, _, hr⟩ := h.at' hk
  exact ⟨b, o, rfl, hr 0 _ rfl, hr 1 _ rfl, hr 2 _ rfl⟩
/-! ### A row of the call's own, into which is written -/
abbrev zeroF : Array Value := #[.bool false, .bool false, .bool false]
theorem infoF : (Tryz.prog.info? 39).map (fun i => (i.zero, i.size, i.bytes)) = some (some (.agg zeroF), 3, 3) := by kernel_rfl
theorem infoF' : ∃ i, Tryz.prog.info? 39 = some i ∧ i.zero = some (.agg zeroF) ∧ i.size = 3 ∧ i.bytes = 3 := info_parts infoF
def putF (f : PFact) (t : Nat) (b : Bool) : PFact := match t with
  | 0 => { f with st := b }
  | 1 => { f with ra := b }
  | _ => { f with pl := b }
theorem cells_put {l : List PFact} {k t : Nat} {f : PFact} {b : Bool} (hk : l[k]? = some f) (ht : t < 3) : (cellsS factC l).set (k * 3 + t) (.bool b) = cellsS factC (l.set k (putF f t b)) := by
  induction l generalizing k with
  | nil => simp at hk
  | cons x r ih =>
    cases k with
    | zero =>
      obtain rfl := Option.some.inj hk
      unfold cellsS
      rw [List.flatMap_cons, List.set_cons_zero, List.flatMap_cons]
      rcases (by omega : t = 0 ∨ t = 1 ∨ t = 2) with rfl | rfl | rfl <;> rfl
    | succ k =>
      have := ih (k := k) (by simpa using hk)
      unfold cellsS at this ⊢
      rw [List.flatMap_cons, List.set_cons_succ, List.flatMap_cons, ← this]
      rw [show (k + 1) * 3 + t = (k * 3 + t) + 1 + 1 + 1 by omega]
      rfl
structure MixW (w wr : World) (g cap : Nat) (l : List PFact) : Prop where
  below : Below w.heap.size w wr
  row : ∃ cur, blk wr g cur 39 ∧ cur.size = cap * 3 ∧ cur.toList.take (l.length * 3) = cellsS factC l
  hB : w.heap.size ≤ g
  hc : l.length ≤ cap
  hm : cap ≤ maxLen
section
variable {w wr w' : World} {g cap : Nat} {l : List PFact}
theorem MixW.own (h : MixW w wr g cap l) : wr.ownsRow w.heap.size 39 3 (.slice (some ⟨g, 0, none⟩) l.length cap) l.length (cellsS factC l) := by
  obtain ⟨cur, h1, h2, h3⟩ := h.row
  exact ⟨cellsS_len factC_len l, .inr ⟨g, cap, cur, rfl, h.hB, h1, h.hc, h.hm, h2, h3⟩⟩
theorem MixW.facts (h : MixW w wr g cap l) : FactsAt wr (.slice (some ⟨g, 0, none⟩) l.length cap) l := rowS_own factC_len h.own
theorem MixW.next (h : MixW w wr g cap l) (hb : Below wr.heap.size wr w') : MixW w w' g cap l := by
  obtain ⟨cur, h1, h2, h3⟩ := h.row
  exact ⟨h.below.trans (hb.mono h.below.size), ⟨cur, blk_below h1 hb, h2, h3⟩, h.hB, h.hc, h.hm⟩
theorem MixW.of_own {v : Value} (hb : Below w.heap.size w wr) (ho : wr.ownsRow w.heap.size 39 3 v l.length (cellsS factC l)) (hl : 0 < l.length) : ∃ g cap, v = .slice (some ⟨g, 0, none⟩) l.length cap ∧ l.length ≤ cap ∧ cap ≤ 9223372036854775807 ∧ MixW w wr g cap l := by
  rcases ho.2 with ⟨-, h0⟩ | ⟨g, cap, cur, rfl, h1, h2, h3, h4, h5, h6⟩
  · omega
  · exact ⟨g, cap, rfl, h3, by unfold maxLen at h4; omega, hb, ⟨cur, h2, h5, h6⟩, h1, h3, h4⟩
theorem MixW.set (h : MixW w wr g cap l) {k t : Nat} {f : PFact} (b : Bool) (hk : l[k]? = some f) (ht : t < 3) : MixW w (wr.setCell ⟨g, k * 3 + t, none⟩ (.bool b)) g cap (l.set k (putF f t b)) := by
  obtain ⟨cur, h1, h2, h3⟩ := h.row
  have hkl := (List.getElem?_eq_some_iff.1 hk).1
  rw [setCell_putB h1]
  refine ⟨h.below.trans (putB_below _ h.hB _ _), ⟨_, putB_at h1 _ _, by rw [Array.size_setIfInBounds]; exact h2, ?_⟩, h.hB, by rw [List.length_set]; exact h.hc, h.hm⟩
  rw [List.length_set, Array.toList_setIfInBounds, List.take_set, h3, cells_put hk ht]
theorem MixW.cell (h : MixW w wr g cap l) {k : Nat} {f : PFact} (hk : l[k]? = some f) : wr.cell? ⟨g, k * 3, none⟩ = some (.bool f.st) ∧ wr.cell? ⟨g, k * 3 + 1, none⟩ = some (.bool f.ra) ∧ wr.cell? ⟨g, k * 3 + 2, none⟩ = some (.bool f.pl) ∧ ∀ j, wr.frozen? ⟨g, j, none⟩ = false := by
  obtain ⟨b, o, e, q0, q1, q2⟩ := facts_cell h.facts hk
  simp only [Option.some.injEq, Addr.mk.injEq] at e
  obtain ⟨rfl, rfl, -⟩ := e
  rw [Nat.zero_add] at q0 q1 q2
  obtain ⟨cur, h1, -, -⟩ := h.row
  exact ⟨q0, q1, q2, fun j => blk_frozen h1 j⟩
end
end Go.Proofs.YtcjhgibhenocpaaGreatDoor

/- Slices that lie in memory: rows of one-cell values, texts, types. -/
namespace Go.Proofs.YtcjhgibhenocpaaGreatDoor
set_option linter.unusedSimpArgs false
set_option linter.unusedVariables false
open Go.RowKit

theorem ret_int {k : IntKind} {a b : Int} (h : a = b) : Ending.returned (.int k a) = .returned (.int k b) := by rw [h]
/-- Types, as a slice of texts. -/
def TsAt (w : World) (v : Value) (ts : List ByteArray) : Prop := RowAt w v (ts.map Value.string) ∧ ∀ s ∈ ts, s.size ≤ 9223372036854775807
theorem TsAt.below {w w' : World} {v : Value} {ts : List ByteArray} (h : TsAt w v ts) (hb : Below w.heap.size w w') : TsAt w' v ts := ⟨h.1.below hb, h.2⟩
theorem TsAt.cases {w : World} {v : Value} {ts : List ByteArray} (h : TsAt w v ts) :
    ∃ a c, v = .slice a ts.length c ∧ ts.length ≤ c ∧ c ≤ 9223372036854775807 ∧ (ts = [] ∨ ∃ b o, a = some ⟨b, o, none⟩ ∧ b < w.heap.size ∧ ∀ j, j < ts.length → w.cell? ⟨b, o + j, none⟩ = some (.string (ty ts j)) ∧ (ty ts j).size ≤ 9223372036854775807) := by
  obtain ⟨⟨a, c, rfl, h1, h2, h3⟩, hs⟩ := h
  rw [List.length_map] at h1
  refine ⟨a, c, by rw [List.length_map], h1, by unfold maxLen at h2; omega, ?_⟩
  rcases h3 with h3 | ⟨b, o, rfl, hb, hc⟩
  · left; simpa using h3
  · exact .inr ⟨b, o, rfl, hb, fun j hj => ⟨hc j _ (by rw [List.getElem?_map, ty_get hj]; rfl), hs _ (ty_mem hj)⟩⟩
end Go.Proofs.YtcjhgibhenocpaaGreatDoor

/- Contracts: letters and digits; whether types may be (the program's and the document's). -/
namespace Go.Proofs.YtcjhgibhenocpaaGreatDoor
set_option linter.unusedSimpArgs false
set_option linter.unusedVariables false
open Go.RowKit

theorem kdig_t (c n : Nat) (w : World) (hc : c < 256) (hn : n ≤ 9223372036854775807) (h : Hid (digB n c = true)) : Calls Tryz.prog 100 #[.int .u8 c, .int .i64 n] w fun e w' => e = .returned (.bool true) ∧ w = w' := by
  have h1 := (dig_iff.1 h.out).1
  have h2 := (dig_iff.1 h.out).2
  clear h
  go_enter Tryz.func100, Tryz.ntmps100
  go_wp2
  go_ret
  exact ⟨ret_bool (decide_eq_true (by omega)), rfl⟩
theorem kdig_f (c n : Nat) (w : World) (hc : c < 256) (hn : n ≤ 9223372036854775807) (h : Hid (digB n c = false)) : Calls Tryz.prog 100 #[.int .u8 c, .int .i64 n] w fun e w' => e = .returned (.bool false) ∧ w = w' := by
  have h1 := dig_no.1 h.out
  clear h
  by_cases h0 : 48 ≤ c
  · have h3 : 48 + n ≤ c := by omega
    clear h1
    go_enter Tryz.func100, Tryz.ntmps100
    go_wp2
    go_ret
    exact ⟨ret_bool (decide_eq_false (by omega)), rfl⟩
  · clear h1
    go_enter Tryz.func100, Tryz.ntmps100
    go_wp2
    go_ret
    exact ⟨rfl, rfl⟩
/-- The document's digit: the type that a letter names; -1: it names none. -/
theorem rdig_t (c n : Nat) (w : World) (hc : c < 256) (hn : n ≤ 9223372036854775807) (h : Hid (digB n c = true)) : Calls Tryz.prog 78 #[.int .u8 c, .int .i64 n] w fun e w' => e = .returned (.int .i64 ((c : Int) - 48)) ∧ w = w' := by
  have h1 := (dig_iff.1 h.out).1
  have h2 := (dig_iff.1 h.out).2
  clear h
  have h3 : ¬ c < 48 := by omega
  have h4 : ¬ (n : Int) ≤ (c : Int) - 48 := by omega
  go_enter Tryz.func78, Tryz.ntmps78
  go_wp2
  go_ret
  exact ⟨rfl, rfl⟩
theorem rdig_f (c n : Nat) (w : World) (hc : c < 256) (hn : n ≤ 9223372036854775807) (h : Hid (digB n c = false)) : Calls Tryz.prog 78 #[.int .u8 c, .int .i64 n] w fun e w' => e = .returned (.int .i64 (-1)) ∧ w = w' := by
  have h1 := dig_no.1 h.out
  clear h
  by_cases h0 : 48 ≤ c
  · have h3 : ¬ c < 48 := by omega
    have h4 : (n : Int) ≤ (c : Int) - 48 := by omega
    clear h1
    go_enter Tryz.func78, Tryz.ntmps78
    go_wp2
    go_ret
    exact ⟨rfl, rfl⟩
  · have h3 : c < 48 := by omega
    clear h1
    go_enter Tryz.func78, Tryz.ntmps78
    go_wp2
    go_ret
    exact ⟨rfl, rfl⟩

theorem all_next {P : Nat → Prop} {k : Nat} (h : ∀ j, j < k → P j) (hk : P k) : ∀ j, j < k + 1 → P j := by
  intro j hj
  rcases Nat.lt_or_ge j k with h1 | h1
  · exact h j h1
  · obtain rfl : j = k := by omega
    exact hk
theorem none_yet {P : Nat → Prop} : ∀ j, j < 0 → P j := fun j hj => absurd hj (by omega)

set_option maxHeartbeats 1000000 in
theorem kmay_any (s : ByteArray) (n : Nat) (w : World) (hs : s.size ≤ 9223372036854775807) (hn : n ≤ 9223372036854775807) : Calls Tryz.prog 99 #[.string s, .int .i64 n] w fun e w' => e = .returned (.bool (okB n s)) ∧ w = w' := by
  by_cases h1 : s.size < 1
  · go_enter Tryz.func99, Tryz.ntmps99
    go_wp2
    all_goals
      go_ret
      exact ⟨ret_bool (ok_size (.inl h1)).symm, rfl⟩
  by_cases h2 : 6 < s.size
  · go_enter Tryz.func99, Tryz.ntmps99
    go_wp2
    go_ret
    exact ⟨ret_bool (ok_size (.inr h2)).symm, rfl⟩
  go_enter Tryz.func99, Tryz.ntmps99
  go_wp2
  go_loop [16] (fun i => ∃ k : Nat, k ≤ s.size ∧ i = .int .i64 k ∧ Hid (∀ j, j < k → letB n (byt s j) = true)) (fun i => s.size - (intOf i).toNat)
  case atStart => exact ⟨0, Nat.zero_le _, rfl, Lib.hid none_yet⟩
  case round =>
    obtain ⟨k, hk, rfl, hok⟩ := hrel
    by_cases hlt : k < s.size
    · have hb := byt_at hlt
      have hl := byt_lt s k
      generalize hc : byt s k = c at hb hl
      by_cases hi : c = 105
      · have e1 : (((s[k].toNat : Nat) : Int) != 105) = false := by rw [hb, hi]; rfl
        have HL : Hid (letB n (byt s k) = true) := Lib.hid (let_iff.2 (.inl (by rw [hc]; exact hi)))
        clear hb hl hc hi
        go_wp2
        go_round
        case rel => exact ⟨k + 1, by omega, by go_num, Lib.hid (all_next hok.out HL.out)⟩
        case measure => simp [intOf]; omega
      · have e1 : (((s[k].toNat : Nat) : Int) != 105) = true := by rw [hb]; simp; omega
        have hl' : s[k].toNat < 256 := by omega
        rcases hd : digB n c with _ | _
        · have HD : Hid (digB n s[k].toNat = false) := Lib.hid (by rw [hb]; exact hd)
          have HL : Hid (letB n (byt s k) = false) := Lib.hid (let_no.2 (by rw [hc]; exact ⟨hi, hd⟩))
          clear hb hl hc hi hd
          go_wp2_with (go_at_call 100; refine (kdig_f _ _ _ hl' hn HD).mono ?_; rintro e w' ⟨rfl, rfl⟩)
          go_ret
          exact ⟨ret_bool (ok_let hlt HL.out).symm, rfl⟩
        · have HD : Hid (digB n s[k].toNat = true) := Lib.hid (by rw [hb]; exact hd)
          have HL : Hid (letB n (byt s k) = true) := Lib.hid (let_iff.2 (.inr (by rw [hc]; exact hd)))
          clear hb hl hc hi hd
          go_wp2_with (go_at_call 100; refine (kdig_t _ _ _ hl' hn HD).mono ?_; rintro e w' ⟨rfl, rfl⟩)
          go_round
          case rel => exact ⟨k + 1, by omega, by go_num, Lib.hid (all_next hok.out HL.out)⟩
          case measure => simp [intOf]; omega
    · go_wp2
      go_ret
      obtain rfl : k = s.size := by omega
      exact ⟨ret_bool (ok_iff.2 ⟨by omega, by omega, hok.out⟩).symm, rfl⟩
theorem kmay_t (s : ByteArray) (n : Nat) (w : World) (hs : s.size ≤ 9223372036854775807) (hn : n ≤ 9223372036854775807) (h : Hid (okB n s = true)) : Calls Tryz.prog 99 #[.string s, .int .i64 n] w fun e w' => e = .returned (.bool true) ∧ w = w' :=
  (kmay_any s n w hs hn).mono fun e w' ⟨h1, h2⟩ => ⟨by rw [h1, h.out], h2⟩
theorem kmay_f (s : ByteArray) (n : Nat) (w : World) (hs : s.size ≤ 9223372036854775807) (hn : n ≤ 9223372036854775807) (h : Hid (okB n s = false)) : Calls Tryz.prog 99 #[.string s, .int .i64 n] w fun e w' => e = .returned (.bool false) ∧ w = w' :=
  (kmay_any s n w hs hn).mono fun e w' ⟨h1, h2⟩ => ⟨by rw [h1, h.out], h2⟩

set_option maxHeartbeats 1000000 in
theorem kright_any (v : Value) (ts : List ByteArray) (w : World) (h : TsAt w v ts) : Calls Tryz.prog 58 #[v] w fun e w' => e = .returned (.bool (rightB ts)) ∧ w = w' := by
  obtain ⟨a, c, rfl, h1, h2, h3⟩ := h.cases
  clear h
  by_cases hl : ts.length < 1
  · clear h3
    go_enter Tryz.func58, Tryz.ntmps58
    go_wp2
    all_goals
      go_ret
      exact ⟨ret_bool (right_size (.inl hl)).symm, rfl⟩
  by_cases hg : 8 < ts.length
  · clear h3
    go_enter Tryz.func58, Tryz.ntmps58
    go_wp2
    go_ret
    exact ⟨ret_bool (right_size (.inr hg)).symm, rfl⟩
  rcases h3 with rfl | ⟨b, o, rfl, hb, hc⟩
  · exact absurd (by simp) hl
  have HC := Lib.hid hc
  clear hc
  go_enter Tryz.func58, Tryz.ntmps58
  go_wp2
  go_loop [14] (fun i => ∃ k : Nat, k ≤ ts.length ∧ i = .int .i64 k ∧ Hid (∀ j, j < k → okB ts.length (ty ts j) = true)) (fun i => ts.length - (intOf i).toNat)
  case atStart => exact ⟨0, Nat.zero_le _, rfl, Lib.hid none_yet⟩
  case round =>
    obtain ⟨k, hk, rfl, hok⟩ := hrel
    by_cases hlt : k < ts.length
    · obtain ⟨hx, hsx⟩ := HC.out k hlt
      generalize hs : ty ts k = s at hx hsx
      rcases hm : okB ts.length s with _ | _
      · have HM : Hid (okB ts.length s = false) := Lib.hid hm
        have HS := Lib.hid hs
        clear hm hs
        go_wp2_with (go_at_call 99; refine (kmay_f s _ _ hsx (by omega) HM).mono ?_; rintro e w' ⟨rfl, rfl⟩)
        go_ret
        exact ⟨ret_bool (right_ok hlt (by rw [HS.out]; exact HM.out)).symm, rfl⟩
      · have HM : Hid (okB ts.length s = true) := Lib.hid hm
        have HS := Lib.hid hs
        clear hm hs
        go_wp2_with (go_at_call 99; refine (kmay_t s _ _ hsx (by omega) HM).mono ?_; rintro e w' ⟨rfl, rfl⟩)
        go_round
        case rel => exact ⟨k + 1, by omega, by go_num, Lib.hid (all_next hok.out (by rw [HS.out]; exact HM.out))⟩
        case measure => simp [intOf]; omega
    · go_wp2
      go_ret
      obtain rfl : k = ts.length := by omega
      exact ⟨ret_bool (right_iff.2 ⟨by omega, by omega, hok.out⟩).symm, rfl⟩
theorem kright_t (v : Value) (ts : List ByteArray) (w : World) (h : TsAt w v ts) (hr : Hid (rightB ts = true)) : Calls Tryz.prog 58 #[v] w fun e w' => e = .returned (.bool true) ∧ w = w' :=
  (kright_any v ts w h).mono fun e w' ⟨h1, h2⟩ => ⟨by rw [h1, hr.out], h2⟩
theorem kright_f (v : Value) (ts : List ByteArray) (w : World) (h : TsAt w v ts) (hr : Hid (rightB ts = false)) : Calls Tryz.prog 58 #[v] w fun e w' => e = .returned (.bool false) ∧ w = w' :=
  (kright_any v ts w h).mono fun e w' ⟨h1, h2⟩ => ⟨by rw [h1, hr.out], h2⟩
end Go.Proofs.YtcjhgibhenocpaaGreatDoor

/- The document's Right. -/
namespace Go.Proofs.YtcjhgibhenocpaaGreatDoor
set_option linter.unusedSimpArgs false
set_option linter.unusedVariables false
open Go.RowKit

set_option maxHeartbeats 2000000 in
theorem rright_any (v : Value) (ts : List ByteArray) (w : World) (h : TsAt w v ts) : Calls Tryz.prog 79 #[v] w fun e w' => e = .returned (.bool (rightB ts)) ∧ w = w' := by
  obtain ⟨a, c, rfl, h1, h2, h3⟩ := h.cases
  clear h
  rcases h3 with rfl | ⟨b, o, rfl, hb, hc⟩
  · go_enter Tryz.func79, Tryz.ntmps79
    go_wp2
    go_loop [3] (fun i => i = .int .i64 0) (fun _ => 0)
    case atStart => rfl
    case round =>
      subst hrel
      go_wp2
      go_ret
      exact ⟨rfl, rfl⟩
  have HC := Lib.hid hc
  clear hc
  go_enter Tryz.func79, Tryz.ntmps79
  go_wp2
  go_loop [3] (fun i => ∃ k : Nat, k ≤ ts.length ∧ i = .int .i64 k ∧ Hid (∀ j, j < k → okB ts.length (ty ts j) = true)) (fun i => ts.length - (intOf i).toNat)
  case atStart => exact ⟨0, Nat.zero_le _, rfl, Lib.hid none_yet⟩
  case round =>
    obtain ⟨t, ht, rfl, hok⟩ := hrel
    by_cases hlt : t < ts.length
    · obtain ⟨hx, hsx⟩ := HC.out t hlt
      generalize hs : ty ts t = s at hx hsx
      have HS := Lib.hid hs
      clear hs
      go_wp2
      go_loop [5] (fun i => ∃ k : Nat, k ≤ s.size ∧ i = .int .i64 k ∧ Hid (∀ j, j < k → letB ts.length (byt s j) = true)) (fun i => s.size - (intOf i).toNat)
      case atStart => exact ⟨0, Nat.zero_le _, rfl, Lib.hid none_yet⟩
      case round =>
        obtain ⟨k, hk, rfl, hol⟩ := hrel
        by_cases hkt : k < s.size
        · have hb := byt_at hkt
          have hl := byt_lt s k
          generalize hc : byt s k = c at hb hl
          by_cases hi : c = 105
          · have e1 : (((s[k].toNat : Nat) : Int) != 105) = false := by rw [hb, hi]; rfl
            have HL : Hid (letB ts.length (byt s k) = true) := Lib.hid (let_iff.2 (.inl (by rw [hc]; exact hi)))
            clear hb hl hc hi
            go_wp2
            go_round
            case rel => exact ⟨k + 1, by omega, by go_num, Lib.hid (all_next hol.out HL.out)⟩
            case measure => simp [intOf]; omega
          · have e1 : (((s[k].toNat : Nat) : Int) != 105) = true := by rw [hb]; simp; omega
            have hl' : s[k].toNat < 256 := by omega
            have hn' : ts.length ≤ 9223372036854775807 := by omega
            rcases hd : digB ts.length c with _ | _
            · have HD : Hid (digB ts.length s[k].toNat = false) := Lib.hid (by rw [hb]; exact hd)
              have HL : Hid (letB ts.length (byt s k) = false) := Lib.hid (let_no.2 (by rw [hc]; exact ⟨hi, hd⟩))
              clear hb hl hc hi hd
              go_wp2_with (go_at_call 78; refine (rdig_f _ _ _ hl' hn' HD).mono ?_; rintro e w' ⟨rfl, rfl⟩)
              go_ret
              exact ⟨ret_bool (right_ok hlt (by rw [HS.out]; exact ok_let hkt HL.out)).symm, rfl⟩
            · have HD : Hid (digB ts.length s[k].toNat = true) := Lib.hid (by rw [hb]; exact hd)
              have HL : Hid (letB ts.length (byt s k) = true) := Lib.hid (let_iff.2 (.inr (by rw [hc]; exact hd)))
              have hge : ¬ ((s[k].toNat : Nat) : Int) - 48 < 0 := by have := (dig_iff.1 hd).1; omega
              clear hb hl hc hi hd
              go_wp2_with (go_at_call 78; refine (rdig_t _ _ _ hl' hn' HD).mono ?_; rintro e w' ⟨rfl, rfl⟩)
              go_round
              case rel => exact ⟨k + 1, by omega, by go_num, Lib.hid (all_next hol.out HL.out)⟩
              case measure => simp [intOf]; omega
        · by_cases g1 : s.size < 1
          · go_wp2
            go_ret
            exact ⟨ret_bool (right_ok hlt (by rw [HS.out]; exact ok_size (.inl g1))).symm, rfl⟩
          by_cases g2 : 6 < s.size
          · go_wp2
            go_ret
            exact ⟨ret_bool (right_ok hlt (by rw [HS.out]; exact ok_size (.inr g2))).symm, rfl⟩
          have HO : Hid (okB ts.length s = true) := Lib.hid (ok_iff.2 ⟨by omega, by omega, fun j hj => hol.out j (by omega)⟩)
          go_wp2
          go_round
          case rel => exact ⟨t + 1, by omega, by go_num, Lib.hid (all_next hok.out (by rw [HS.out]; exact HO.out))⟩
          case measure => simp [intOf]; omega
    · have HF : Hid (∀ j, j < ts.length → okB ts.length (ty ts j) = true) := Lib.hid (fun j hj => hok.out j (by omega))
      by_cases g1 : ts.length < 1
      · go_wp2
        go_ret
        exact ⟨ret_bool (right_size (.inl g1)).symm, rfl⟩
      by_cases g2 : 8 < ts.length
      · go_wp2
        go_ret
        exact ⟨ret_bool (by rw [right_size (.inr g2)]; simp; omega), rfl⟩
      go_wp2
      go_ret
      exact ⟨ret_bool (by rw [right_iff.2 ⟨by omega, by omega, HF.out⟩]; simp; omega), rfl⟩
theorem rright_t (v : Value) (ts : List ByteArray) (w : World) (h : TsAt w v ts) (hr : Hid (rightB ts = true)) : Calls Tryz.prog 79 #[v] w fun e w' => e = .returned (.bool true) ∧ w = w' :=
  (rright_any v ts w h).mono fun e w' ⟨h1, h2⟩ => ⟨by rw [h1, hr.out], h2⟩
theorem rright_f (v : Value) (ts : List ByteArray) (w : World) (h : TsAt w v ts) (hr : Hid (rightB ts = false)) : Calls Tryz.prog 79 #[v] w fun e w' => e = .returned (.bool false) ∧ w = w' :=
  (rright_any v ts w h).mono fun e w' ⟨h1, h2⟩ => ⟨by rw [h1, hr.out], h2⟩
end Go.Proofs.YtcjhgibhenocpaaGreatDoor
