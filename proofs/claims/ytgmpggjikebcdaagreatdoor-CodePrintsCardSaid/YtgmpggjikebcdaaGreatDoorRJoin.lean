/-
  The document's Join.
-/
import Derived.Test.YtgmpggjikebcdaaGreatDoorCBackP
namespace Go.Proofs.YtgmpggjikebcdaaGreatDoor
open Go.RowKit

def fewS (xss : List (List Bs)) : Nat := (xss.map fun x => lens1 x + 1).sum
theorem fewS_next {xss : List (List Bs)} {k : Nat} {x : List Bs} (h : xss[k]? = some x) : fewS (xss.take (k + 1)) = fewS (xss.take k) + lens1 x + 1 := by
  obtain ⟨hlt, rfl⟩ := List.getElem?_eq_some_iff.1 h
  unfold fewS
  rw [List.take_succ_eq_append_getElem hlt, List.map_append, List.sum_append]
  simp; omega
theorem lens1_next {x : List Bs} {k : Nat} {y : Bs} (h : x[k]? = some y) : lens1 (x.take (k + 1)) = lens1 (x.take k) + (y.length + 1) := by
  obtain ⟨hlt, rfl⟩ := List.getElem?_eq_some_iff.1 h
  unfold lens1
  rw [List.take_succ_eq_append_getElem hlt, List.map_append, List.sum_append]
  simp
theorem fewS_le (xss : List (List Bs)) (k : Nat) : fewS (xss.take k) ≤ fewS xss := by
  have : fewS xss = fewS (xss.take k) + fewS (xss.drop k) := by
    unfold fewS; rw [← List.sum_append, ← List.map_append, List.take_append_drop]
  omega
theorem lens1_le (x : List Bs) (k : Nat) : lens1 (x.take k) ≤ lens1 x := by
  have : lens1 x = lens1 (x.take k) + lens1 (x.drop k) := by
    unfold lens1; rw [← List.sum_append, ← List.map_append, List.take_append_drop]
  omega
theorem len_lens1 (x : List Bs) : x.length ≤ lens1 x := by
  induction x with
  | nil => simp
  | cons a r ih => rw [lens1_cons]; simp; omega
theorem len_fewS (xss : List (List Bs)) : xss.length ≤ fewS xss := by
  induction xss with
  | nil => simp
  | cons a r ih => unfold fewS at ih ⊢; simp; omega
theorem fewS_mem {xss : List (List Bs)} {x : List Bs} (h : x ∈ xss) : lens1 x ≤ fewS xss := by
  obtain ⟨k, hk⟩ := List.getElem?_of_mem h
  have := fewS_next hk
  have := fewS_le xss (k + 1)
  omega
theorem joinL_fewS (xss : List (List Bs)) : (joinL xss).length ≤ fewS xss := by
  induction xss with
  | nil => simp [joinL]
  | cons a r ih =>
    rw [joinL_cons]
    have := join_len a
    unfold fewS at ih ⊢
    simp; omega

/-- The words so far of a line. -/
def jw (x : List Bs) (j : Nat) : Bs := Lib.join (x.take j) [32]
theorem jw_zero (x : List Bs) : jw x 0 = [] := by simp [jw, Lib.join, List.intercalate]
theorem join_snoc (x : List Bs) (y : Bs) (h : x ≠ []) : Lib.join (x ++ [y]) [32] = Lib.join x [32] ++ 32 :: y := by
  induction x with
  | nil => exact absurd rfl h
  | cons a r ih =>
    cases r with
    | nil => simp [join_two, Lib.join_one]
    | cons b r => rw [List.cons_append, List.cons_append, join_two, join_two]; rw [← List.cons_append, ih (by simp)]; simp
theorem jw_first {x : List Bs} {y : Bs} (h : x[0]? = some y) : jw x 1 = y := by
  cases x with
  | nil => simp at h
  | cons a r => simp at h; subst h; simp [jw, Lib.join_one]
theorem jw_next {x : List Bs} {j : Nat} {y : Bs} (h : x[j]? = some y) (hj : 0 < j) : jw x (j + 1) = jw x j ++ [32] ++ y := by
  obtain ⟨hlt, rfl⟩ := List.getElem?_eq_some_iff.1 h
  unfold jw
  rw [List.take_succ_eq_append_getElem hlt, join_snoc _ _ (by intro e; have := congrArg List.length e; rw [List.length_take, Nat.min_eq_left (by omega), List.length_nil] at this; omega)]
  simp
theorem jw_all (x : List Bs) : jw x x.length = Lib.join x [32] := by unfold jw; rw [List.take_length]
theorem jw_le {x : List Bs} {j : Nat} : (jw x j).length ≤ lens1 x := by
  have := join_len (x.take j)
  have := lens1_le x j
  unfold jw; omega
theorem cat_str (a b : Bs) : (⟨a.toArray⟩ ++ ⟨b.toArray⟩ : ByteArray) = ⟨(a ++ b).toArray⟩ := by
  apply ByteArray.ext; rw [ByteArray.data_append]; simp

set_option maxRecDepth 100000 in
set_option maxHeartbeats 4000000 in
theorem joinR_any (v : Value) (xss : List (List Bs)) (w : World) (h : GridAt w v xss) (hsum : fewS xss ≤ 1000000000) : Calls Tryz.prog 21 #[v] w fun e w' => e = .returned (str (joinL xss)) ∧ w = w' := by
  obtain ⟨a, c, rfl, h1, h2, h3⟩ := h.cases
  clear h
  rcases h3 with rfl | ⟨b, o, rfl, hb, hc⟩
  · go_enter Tryz.func21, Tryz.ntmps21
    go_wp2
    go_loop [3, 4] (fun v3 i => i = .int .i64 0 ∧ v3 = .string ⟨#[]⟩) (fun _ _ => 0)
    case atStart => exact ⟨rfl, rfl⟩
    case round =>
      obtain ⟨rfl, rfl⟩ := hrel
      go_wp2
      go_ret
      exact ⟨rfl, rfl⟩
  · have HC := Lib.hid hc
    have HS := Lib.hid hsum
    have hlen : xss.length ≤ 1000000000 := Nat.le_trans (len_fewS xss) hsum
    have HJL : Hid ((joinL xss).length ≤ 1000000000) := Lib.hid (Nat.le_trans (joinL_fewS xss) hsum)
    clear hc hsum
    go_enter Tryz.func21, Tryz.ntmps21
    go_wp2
    go_loop [3, 4] (fun v3 i => ∃ (k : Nat) (t : Bs), k ≤ xss.length ∧ i = .int .i64 k ∧ v3 = str t ∧ Hid (t = joinTo xss k)) (fun _ i => xss.length - (intOf i).toNat)
    case atStart => exact ⟨0, [], Nat.zero_le _, rfl, rfl, Lib.hid rfl⟩
    case round =>
      obtain ⟨k, t, hk, rfl, rfl, HT⟩ := hrel
      have htl : t.length ≤ 1000000000 := by rw [HT.out]; exact Nat.le_trans joinTo_le HJL.out
      have hts : (⟨t.toArray⟩ : ByteArray).size ≤ 1000000000 := htl
      by_cases hlt : k < xss.length
      · have hx : xss[k]? = some xss[k] := List.getElem?_eq_getElem hlt
        obtain ⟨a', c', e1, g1, g2, g3⟩ := HC.out k _ hx
        have hxl : lens1 xss[k] ≤ 1000000000 := Nat.le_trans (fewS_mem (List.getElem_mem hlt)) HS.out
        have HJ : Hid (joinTo xss (k + 1) = t ++ Lib.join xss[k] [32] ++ [10]) := Lib.hid (by rw [joinTo_next hx, HT.out])
        clear hx HT
        generalize xss[k] = x at *
        have hxl' : x.length ≤ 1000000000 := Nat.le_trans (len_lens1 x) hxl
        rcases g3 with rfl | ⟨b', o', rfl, hb', hc'⟩
        · have HE : Hid (str (t ++ [10]) = .string (⟨t.toArray⟩ ++ ⟨#[10]⟩)) := Lib.hid (by rw [show (⟨#[10]⟩ : ByteArray) = ⟨([10] : Bs).toArray⟩ from rfl, cat_str])
          go_wp2
          go_loop [3, 5] (fun v3 i => i = .int .i64 0 ∧ v3 = str t) (fun _ _ => 0)
          case atStart => exact ⟨rfl, rfl⟩
          case round =>
            obtain ⟨rfl, rfl⟩ := hrel
            go_wp2
            go_round
            case rel => exact ⟨k + 1, t ++ [10], by omega, by go_num, HE.out.symm, Lib.hid (by rw [HJ.out]; simp [Lib.join, List.intercalate])⟩
            case measure => simp [intOf]; omega
        · have HC' := Lib.hid hc'
          clear hc'
          go_wp2
          go_loop [3, 5] (fun v3 i => ∃ (j : Nat) (u : Bs), j ≤ x.length ∧ i = .int .i64 j ∧ v3 = str u ∧ Hid (u = t ++ jw x j)) (fun _ i => x.length - (intOf i).toNat)
          case atStart => exact ⟨0, t, Nat.zero_le _, rfl, rfl, Lib.hid (by rw [jw_zero]; simp)⟩
          case round =>
            obtain ⟨j, u, hj, rfl, rfl, HU⟩ := hrel
            have hul : u.length ≤ 2000000000 := by
              have := jw_le (x := x) (j := j)
              rw [HU.out, List.length_append]; omega
            have hus : (⟨u.toArray⟩ : ByteArray).size ≤ 2000000000 := hul
            by_cases hjl : j < x.length
            · have hy : x[j]? = some x[j] := List.getElem?_eq_getElem hjl
              have hcy := HC'.out j _ hy
              have hny := lens1_next hy
              have hly := lens1_le x (j + 1)
              have hyl : x[j].length ≤ 1000000000 := by omega
              have HY := Lib.hid hy
              clear hny hly hy
              generalize x[j] = y at *
              have hys : (⟨y.toArray⟩ : ByteArray).size ≤ 1000000000 := hyl
              by_cases hj0 : j = 0
              · subst hj0
                rw [Nat.add_zero] at hcy
                have HU' : Hid (str (u ++ y) = .string (⟨u.toArray⟩ ++ ⟨y.toArray⟩)) := Lib.hid (by rw [cat_str])
                go_wp2
                go_round
                case rel => exact ⟨1, u ++ y, by omega, rfl, HU'.out.symm, Lib.hid (by rw [jw_first HY.out, HU.out, jw_zero]; simp)⟩
                case measure => simp [intOf]; omega
              · have hj1 : 0 < j := by omega
                have HU' : Hid (str (u ++ [32] ++ y) = .string (⟨u.toArray⟩ ++ ⟨#[32]⟩ ++ ⟨y.toArray⟩)) := Lib.hid (by rw [show (⟨#[32]⟩ : ByteArray) = ⟨([32] : Bs).toArray⟩ from rfl, cat_str, cat_str])
                go_wp2
                go_round
                case rel => exact ⟨j + 1, u ++ [32] ++ y, by omega, by go_num, HU'.out.symm, Lib.hid (by rw [jw_next HY.out hj1, HU.out]; simp)⟩
                case measure => simp [intOf]; omega
            · have HE : Hid (str (u ++ [10]) = .string (⟨u.toArray⟩ ++ ⟨#[10]⟩)) := Lib.hid (by rw [show (⟨#[10]⟩ : ByteArray) = ⟨([10] : Bs).toArray⟩ from rfl, cat_str])
              have HJ' : Hid (u ++ [10] = joinTo xss (k + 1)) := Lib.hid (by
                rw [HJ.out, HU.out]
                have : j = x.length := by omega
                rw [this, jw_all])
              go_wp2
              go_round
              case rel => exact ⟨k + 1, u ++ [10], by omega, by go_num, HE.out.symm, HJ'⟩
              case measure => simp [intOf]; omega
      · have HE : Hid (t = joinL xss) := Lib.hid (by
          have := HT.out
          obtain rfl : k = xss.length := by omega
          rw [joinTo_all] at this; exact this)
        go_wp2
        go_ret
        exact ⟨congrArg (fun l : Bs => Ending.returned (str l)) HE.out, rfl⟩
end Go.Proofs.YtgmpggjikebcdaaGreatDoor
