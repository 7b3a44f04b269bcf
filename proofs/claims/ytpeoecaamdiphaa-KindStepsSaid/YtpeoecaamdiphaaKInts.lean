/-
  Rows of numbers: asked for one; sorted from the second on; two of them the same; few texts.
-/
import Derived.Test.YtpeoecaamdiphaaKReachP
import Derived.Test.YtpeoecaamdiphaaShelf
import Derived.Sort.Grow
import Derived.Deep.QuietTactic
namespace Go.Proofs.Ytpeoecaamdiphaa
open Go.RowKit

def int1 (n : Nat) : Value := .int .i64 (n : Int)
abbrev ints (xs : List Nat) : List Value := xs.map int1

theorem own_below {w w' : World} {base size n : Nat} {e : TypeId} {v : Value} {xs : List Value} (h : w.ownsRow base e size v n xs) (hb : Below w.heap.size w w') : w'.ownsRow base e size v n xs := by
  obtain ⟨h1, h2⟩ := h
  refine ⟨h1, h2.imp id ?_⟩
  rintro ⟨g, cap, cur, rfl, hg, hc, rest⟩
  exact ⟨g, cap, cur, rfl, hg, by rw [hb.block g (Array.getElem?_eq_some_iff.1 hc).1]; exact hc, rest⟩
theorem ownsRow_le {w : World} {base base' size n : Nat} {e : TypeId} {v : Value} {xs : List Value} (h : w.ownsRow base e size v n xs) (hb : base' ≤ base) : w.ownsRow base' e size v n xs := by
  obtain ⟨h1, h2⟩ := h
  refine ⟨h1, h2.imp id ?_⟩
  rintro ⟨g, cap, cur, rfl, hg, rest⟩
  exact ⟨g, cap, cur, rfl, by omega, rest⟩

theorem getD_ints (xs : List Nat) (j : Nat) (hj : j < xs.length) : ((xs.map fun n : Nat => (n : Int)).getD j 0) = ((xs[j] : Nat) : Int) := by
  simp [List.getD, hj]
theorem ints_get {xs : List Nat} {j : Nat} (hj : j < xs.length) : (ints xs)[j]? = some (int1 xs[j]) := by simp [hj]
/-- Contains over a row of the call's own. -/
theorem has_any (w : World) (v : Value) (xs : List Nat) (x : Nat) (h : RowAt w v (ints xs)) (hp : 0 < xs.length) (hl : xs.length ≤ 9223372036854775807) : Calls Try.prog 32 #[v, .int .i64 (x : Int)] w fun e w' => e = .returned (.bool (decide (x ∈ xs))) ∧ w = w' := by
  obtain ⟨a, c, rfl, h1, h2, h3⟩ := h
  rcases h3 with h3 | ⟨b, o, rfl, hb, hc⟩
  · simp at h3; rw [h3] at hp; simp at hp
  have hs : (ints xs).length = xs.length := by simp
  rw [hs]
  refine (Try.slices_Contains_int b o xs.length c (xs.map fun n : Nat => (n : Int)) x w (by simp) hl (fun j hj => ?_)).mono ?_
  · have hj' : j < xs.length := by simpa using hj
    rw [getD_ints xs j hj']
    exact hc j _ (ints_get hj')
  · rintro e w' ⟨rfl, rfl⟩
    refine ⟨ret_bool ?_, rfl⟩
    rw [List.take_of_length_le (by simp), List.contains_eq_mem, decide_eq_decide, List.mem_map]
    constructor
    · rintro ⟨a, ha, e⟩
      obtain rfl : a = x := by omega
      exact ha
    · exact fun h => ⟨x, h, rfl⟩
theorem has_t (w : World) (v : Value) (xs : List Nat) (x : Nat) (h : RowAt w v (ints xs)) (hp : 0 < xs.length) (hl : xs.length ≤ 9223372036854775807) (hm : Hid (x ∈ xs)) : Calls Try.prog 32 #[v, .int .i64 (x : Int)] w fun e w' => e = .returned (.bool true) ∧ w = w' :=
  (has_any w v xs x h hp hl).mono fun e w' ⟨h1, h2⟩ => ⟨by rw [h1, decide_eq_true hm.out], h2⟩
theorem has_f (w : World) (v : Value) (xs : List Nat) (x : Nat) (h : RowAt w v (ints xs)) (hp : 0 < xs.length) (hl : xs.length ≤ 9223372036854775807) (hm : Hid (x ∉ xs)) : Calls Try.prog 32 #[v, .int .i64 (x : Int)] w fun e w' => e = .returned (.bool false) ∧ w = w' :=
  (has_any w v xs x h hp hl).mono fun e w' ⟨h1, h2⟩ => ⟨by rw [h1, decide_eq_false hm.out], h2⟩

/-- The row of the call's own, sorted from the second on. -/
def SortedPost (w : World) (B : Nat) (v : Value) (t : Nat) (r : List Nat) (e : Ending) (w' : World) : Prop :=
  e = .returned (.tuple #[]) ∧ w'.ownsRow B 3 1 v (r.length + 1) (ints (t :: sortI r)) ∧ Below B w w'
theorem put_tail (cur : Array Value) (ts : List Int) (t : Value) (h : ts.length + 1 ≤ cur.size) (h0 : cur[0]? = some t) : (Go.Sort.putCells (Value.int .i64) 1 ts.toArray cur).toList.take (ts.length + 1) = t :: ts.map (Value.int .i64) := by
  apply List.ext_getElem?
  intro j
  by_cases hj : j < ts.length + 1
  · rw [List.getElem?_take_of_lt hj, Array.getElem?_toList]
    rcases j with _ | j
    · simp [Go.Sort.putCells, h0]
    · have hj' : j < ts.length := by omega
      have hj2 : j + 1 < cur.size := by omega
      have h3 : j + 1 < 1 + ts.length := by omega
      simp [Go.Sort.putCells, hj', hj2, h3]
  · rw [List.getElem?_take_eq_none (by omega), List.getElem?_eq_none (by simp; omega)]
theorem sort_more (w : World) (B g cap t : Nat) (r : List Nat) (hB : B ≤ w.heap.size) (h : w.ownsRow B 3 1 (.slice (some ⟨g, 0, none⟩) (r.length + 1) cap) (r.length + 1) (ints (t :: r))) (hl : r.length ≤ 8) (c : Nat) :
    Calls Try.prog 33 #[.slice (some ⟨g, 1, none⟩) r.length c] w (SortedPost w B (.slice (some ⟨g, 0, none⟩) (r.length + 1) cap) t r) := by
  rcases h.2 with ⟨h0, _⟩ | ⟨g', cap', cur, hv, hg, hb, h3, h4, h5, h6⟩
  · cases h0
  cases hv
  rw [Nat.mul_one] at h6
  have hcell : ∀ j, j < r.length + 1 → cur[j]? = (ints (t :: r))[j]? := fun j hj => by
    rw [← h6, List.getElem?_take_of_lt hj, Array.getElem?_toList]
  have hH : Go.Sort.Holds (Value.int .i64) w g 1 (r.map fun n : Nat => (n : Int)).toArray := by
    intro j hj
    have hj' : j < r.length := by simpa using hj
    refine ⟨?_, by simp [World.frozen?, hb]⟩
    simp only [World.cell?, hb]
    have := hcell (1 + j) (by omega)
    simp only [Option.isSome_none, Bool.false_eq_true, if_false]
    rw [this, Nat.add_comm 1 j]
    simp [hj', int1]
  have HS := Try.slices_Sort_int g 1 c (r.map fun n : Nat => (n : Int)) w hH (Array.getElem?_eq_some_iff.1 hb).1 (by simp; omega)
  simp only [List.length_map] at HS
  refine HS.mono ?_
  rintro e w' ⟨rfl, n, os, rfl⟩
  rw [sort_ints]
  have hgl : g < w.heap.size := (Array.getElem?_eq_some_iff.1 hb).1
  have hheap : ∀ d : Array Int, (Go.Sort.grow (Go.Sort.putRow (Value.int .i64) (Go.Sort.ahead w n) g 1 d) os).heap[g]? = some (.cells (Go.Sort.putCells (Value.int .i64) 1 d cur) 3 (0, 0)) := by
    intro d
    rw [Go.Sort.heap_grow_old _ _ (by simpa using hgl)]
    simp [Go.Sort.putRow, Go.Sort.mapBlock, Go.Sort.ahead, Array.getElem?_modify, hb, Go.Sort.onCells]
  refine ⟨rfl, ⟨by simp [sort_len], .inr ⟨g, cap, _, rfl, hg, hheap _, by omega, h4, by simp [Go.Sort.putCells, h5], ?_⟩⟩, ?_⟩
  · have h0 := hcell 0 (by omega)
    have := put_tail cur ((sortI r).map fun n : Nat => (n : Int)) (int1 t) (by simp [sort_len]; omega) (by rw [h0]; simp)
    simp only [List.length_map, sort_len] at this
    rw [Nat.mul_one, this]
    simp [int1]
  · refine ⟨rfl, rfl, rfl, by simp, fun k hk => ?_⟩
    rw [Go.Sort.heap_grow_old _ _ (by simpa using (show k < w.heap.size by omega))]
    have : g ≠ k := by omega
    simp [Go.Sort.putRow, Go.Sort.mapBlock, Go.Sort.ahead, Array.getElem?_modify, this]

def Drawn (w w' : World) : Prop := ∃ n, w' = w.drewN n
theorem drawn_refl (w : World) : Drawn w w := ⟨0, rfl⟩
theorem Drawn.more {w w' : World} (h : Drawn w w') (k : Nat) : Drawn w (w'.drewN k) := by
  obtain ⟨n, rfl⟩ := h
  exact ⟨n + k, by simp [World.drewN_drewN]⟩
theorem Drawn.cell {w w' : World} (h : Drawn w w') (a : Addr) : w'.cell? a = w.cell? a := by obtain ⟨n, rfl⟩ := h; rfl
theorem below_drewN (w : World) (B n : Nat) : Below B w (w.drewN n) := ⟨rfl, rfl, rfl, Nat.le_refl _, fun _ _ => rfl⟩
theorem Drawn.below {w w' : World} (h : Drawn w w') (B : Nat) : Below B w w' := by obtain ⟨n, rfl⟩ := h; exact below_drewN w B n
def TrueDrawn (w : World) (e : Ending) (w' : World) : Prop := e = .returned (.bool true) ∧ Drawn w w'

set_option maxHeartbeats 2000000 in
theorem same_t (v v' : Value) (xs : List Nat) (w : World) (h : RowAt w v (ints xs)) (h' : RowAt w v' (ints xs)) : Calls Try.prog 22 #[v, v'] w (TrueDrawn w) := by
  obtain ⟨a, c, rfl, h1, h2, h3⟩ := h
  obtain ⟨a', c', rfl, h1', h2', h3'⟩ := h'
  have hs : (ints xs).length = xs.length := by simp
  rw [hs] at h1 h1' ⊢
  unfold maxLen at h2 h2'
  by_cases hx0 : xs = []
  · subst hx0
    clear h3 h3' hs
    go_enter Try.func22, Try.ntmps22
    go_wp2
    go_loop [13] (fun i => i = .int .i64 0) (fun _ => 0)
    case atStart => rfl
    case round =>
      subst hrel
      go_wp2
      go_ret
      exact ⟨rfl, drawn_refl w⟩
  have hx1 : ints xs ≠ [] := by simpa using hx0
  obtain ⟨b, o, rfl, hb, hc⟩ := h3.resolve_left hx1
  obtain ⟨b', o', rfl, hb', hc'⟩ := h3'.resolve_left hx1
  have H1 := Lib.hid hc
  have H2 := Lib.hid hc'
  clear h3 h3' hc hc' hs hx0 hx1
  go_enter Try.func22, Try.ntmps22
  go_wp2
  go_loopw [13] (fun i wi => ∃ j : Nat, j ≤ xs.length ∧ i = .int .i64 j ∧ Drawn w wi) (fun i _ => xs.length - (intOf i).toNat)
  case atStart => exact ⟨0, Nat.zero_le _, rfl, drawn_refl w⟩
  case round =>
    obtain ⟨j, hj, rfl, hq⟩ := hrel
    by_cases hjt : j < xs.length
    · have f1 := H1.out j _ (ints_get hjt)
      have f2 := H2.out j _ (ints_get hjt)
      rw [← hq.cell] at f1 f2
      unfold int1 at f1 f2
      generalize ((xs[j] : Nat) : Int) = y at f1 f2
      go_wp2
      go_quiet (fail)
      go_wp2
      go_roundw
      case rel => exact ⟨j + 1, by omega, by go_num, hq.more _⟩
      case measure => simp [intOf]; omega
    · go_wp2
      go_ret
      exact ⟨rfl, hq⟩
end Go.Proofs.Ytpeoecaamdiphaa
