/-
  What is gathered while one goes from type to type, in plain words.
-/
import Derived.Test.YtpeoecaamdiphaaKOne
namespace Go.Proofs.Ytpeoecaamdiphaa

/-- What has been gathered: the types ahead of place p are looked through, and the first k fields of the one there. -/
structure Got (ts : List ByteArray) (t p k : Nat) (xs : List Nat) : Prop where
  head : ∃ r, xs = t :: r
  nodup : xs.Nodup
  rch : ∀ n ∈ xs, Rch ts t n
  closed : ∀ (j : Nat) a, j < p → xs[j]? = some a → ∀ b, Edge ts a b → b ∈ xs
  part : ∀ a, xs[p]? = some a → ∀ j, j < k → byt (ty ts a) j ≠ 105 → ∀ b, byt (ty ts a) j = b + 48 → b ∈ xs

theorem got_start (ts : List ByteArray) (t : Nat) : Got ts t 0 0 [t] :=
  ⟨⟨[], rfl⟩, by simp, fun n hn => by simp at hn; subst hn; exact .here, fun j a hj => absurd hj (by omega), fun a _ j hj => absurd hj (by omega)⟩
theorem Got.pos {ts : List ByteArray} {t p k : Nat} {xs : List Nat} (h : Got ts t p k xs) : 0 < xs.length := by
  obtain ⟨r, rfl⟩ := h.head; simp
theorem Got.skip {ts : List ByteArray} {t p k a : Nat} {xs : List Nat} (h : Got ts t p k xs) (ha : xs[p]? = some a) (hc : byt (ty ts a) k = 105) : Got ts t p (k + 1) xs := by
  refine ⟨h.head, h.nodup, h.rch, h.closed, fun a' ha' j hj h1 b hb => ?_⟩
  rw [ha] at ha'; cases ha'
  rcases Nat.lt_or_ge j k with h2 | h2
  · exact h.part a ha j h2 h1 b hb
  · obtain rfl : j = k := by omega
    exact absurd hc h1
theorem Got.known {ts : List ByteArray} {t p k a c : Nat} {xs : List Nat} (h : Got ts t p k xs) (ha : xs[p]? = some a) (hc : byt (ty ts a) k = c + 48) (hm : c ∈ xs) : Got ts t p (k + 1) xs := by
  refine ⟨h.head, h.nodup, h.rch, h.closed, fun a' ha' j hj h1 b hb => ?_⟩
  rw [ha] at ha'; cases ha'
  rcases Nat.lt_or_ge j k with h2 | h2
  · exact h.part a ha j h2 h1 b hb
  · obtain rfl : j = k := by omega
    obtain rfl : b = c := by omega
    exact hm
theorem Got.new {ts : List ByteArray} {t p k a c : Nat} {xs : List Nat} (h : Got ts t p k xs) (ha : xs[p]? = some a) (hlt : a < ts.length) (hk : k < (ty ts a).size) (hi : byt (ty ts a) k ≠ 105) (hc : byt (ty ts a) k = c + 48) (hm : c ∉ xs) : Got ts t p (k + 1) (xs ++ [c]) := by
  have hp : p < xs.length := (List.getElem?_eq_some_iff.1 ha).1
  have hE : Edge ts a c := ⟨hlt, k, hk, hi, hc⟩
  refine ⟨?_, ?_, ?_, ?_, ?_⟩
  · obtain ⟨r, rfl⟩ := h.head
    exact ⟨r ++ [c], rfl⟩
  · rw [List.nodup_append]
    exact ⟨h.nodup, by simp, fun x hx y hy e => by simp at hy; subst hy; subst e; exact hm hx⟩
  · intro n hn
    rcases List.mem_append.1 hn with h1 | h1
    · exact h.rch n h1
    · simp at h1; subst h1
      exact (h.rch a (List.mem_of_getElem? ha)).more hE
  · intro j b hj hb d hd
    rw [List.getElem?_append_left (by omega)] at hb
    exact List.mem_append_left _ (h.closed j b hj hb d hd)
  · intro a' ha' j hj h1 b hb
    rw [List.getElem?_append_left hp, ha] at ha'; cases ha'
    rcases Nat.lt_or_ge j k with h2 | h2
    · exact List.mem_append_left _ (h.part a ha j h2 h1 b hb)
    · obtain rfl : j = k := by omega
      obtain rfl : b = c := by omega
      simp
theorem Got.next {ts : List ByteArray} {t p a : Nat} {xs : List Nat} (h : Got ts t p (ty ts a).size xs) (ha : xs[p]? = some a) : Got ts t (p + 1) 0 xs := by
  refine ⟨h.head, h.nodup, h.rch, fun j b hj hb d hd => ?_, fun _ _ j hj => absurd hj (by omega)⟩
  rcases Nat.lt_or_ge j p with h1 | h1
  · exact h.closed j b h1 hb d hd
  · obtain rfl : j = p := by omega
    rw [ha] at hb; cases hb
    obtain ⟨_, k, hk, hi, hc⟩ := hd
    exact h.part a ha k hk hi d hc
theorem Got.all {ts : List ByteArray} {t : Nat} {xs : List Nat} (h : Got ts t xs.length 0 xs) (n : Nat) : n ∈ xs ↔ Rch ts t n := by
  refine ⟨h.rch n, fun hr => ?_⟩
  induction hr with
  | here => obtain ⟨r, e⟩ := h.head; rw [e]; simp
  | more _ he ih =>
    obtain ⟨j, hj⟩ := List.getElem?_of_mem ih
    exact h.closed j _ (List.getElem?_eq_some_iff.1 hj).1 hj _ he
theorem Got.lt {ts : List ByteArray} (hr : rightB ts = true) {t p k : Nat} (ht : t < ts.length) {xs : List Nat} (h : Got ts t p k xs) {n : Nat} (hn : n ∈ xs) : n < ts.length := (h.rch n hn).lt hr ht
theorem nodup_len : ∀ {m : Nat} {xs : List Nat}, xs.Nodup → (∀ n ∈ xs, n < m) → xs.length ≤ m
  | 0, xs, _, h => by
    rcases xs with _ | ⟨x, r⟩
    · simp
    · have := h x (by simp); omega
  | m + 1, xs, hn, h => by
    by_cases hm : m ∈ xs
    · have h1 := nodup_len (m := m) (hn.erase m) (fun n h2 => by
        have h3 := (List.Nodup.mem_erase_iff hn).1 h2
        have := h n h3.2
        have := h3.1
        omega)
      rw [List.length_erase_of_mem hm] at h1
      omega
    · have h1 := nodup_len (m := m) hn (fun n h2 => by
        have := h n h2
        have : n ≠ m := fun e => hm (e ▸ h2)
        omega)
      omega
theorem Got.len {ts : List ByteArray} (hr : rightB ts = true) {t p k : Nat} (ht : t < ts.length) {xs : List Nat} (h : Got ts t p k xs) : xs.length ≤ 8 :=
  Nat.le_trans (nodup_len h.nodup fun n hn => h.lt hr ht hn) (right_len hr).2

/-- The numbers, rising. -/
def sortI (r : List Nat) : List Nat := r.mergeSort fun x y => decide (x ≤ y)
theorem sort_len (r : List Nat) : (sortI r).length = r.length := List.length_mergeSort _
theorem sort_ints (r : List Nat) : (r.map fun n : Nat => (n : Int)).mergeSort (fun x y => decide (x ≤ y)) = (sortI r).map fun n : Nat => (n : Int) := by
  unfold sortI
  rw [← List.map_mergeSort (r := fun x y : Nat => decide (x ≤ y)) (s := fun x y : Int => decide (x ≤ y)) (f := fun n : Nat => (n : Int))]
  intro a _ b _
  simp
theorem sort_rising {r : List Nat} (h : r.Nodup) : (sortI r).Pairwise (· < ·) := by
  have h1 : (sortI r).Pairwise (fun x y => decide (x ≤ y) = true) := List.pairwise_mergeSort (by simp; omega) (by simp; omega) r
  have h2 : (sortI r).Nodup := (List.mergeSort_perm r _).nodup_iff.2 h
  refine (List.Pairwise.and h1 h2).imp ?_
  intro a b ⟨h3, h4⟩
  simp at h3
  omega
theorem Got.done {ts : List ByteArray} (hr : rightB ts = true) {t : Nat} (ht : t < ts.length) {r : List Nat} (h : Got ts t (t :: r).length 0 (t :: r)) : t :: sortI r = reachL ts t := by
  have hn := List.nodup_cons.1 h.nodup
  have e : sortI r = (reachL ts t).tail := by
    refine rising_eq (sort_rising hn.2) (reach_tail_rising ts t) fun n => ?_
    have h1 : n ∈ sortI r ↔ n ∈ r := List.mem_mergeSort
    have h2 := h.all n
    rw [h1]
    constructor
    · intro hm
      have h3 : n ≠ t := fun e => hn.1 (e ▸ hm)
      have h4 := (mem_reach hr ht).2 (h2.1 (by simp [hm]))
      unfold reachL at h4 ⊢
      rcases List.mem_cons.1 h4 with h5 | h5
      · exact absurd h5 h3
      · exact h5
    · intro hm
      have h4 : n ∈ reachL ts t := by unfold reachL at hm ⊢; exact List.mem_cons_of_mem _ hm
      have h3 : n ≠ t := by
        unfold reachL at hm
        have := List.mem_filter.1 hm
        simp at this
        exact this.2.1
      have h5 := h2.2 ((mem_reach hr ht).1 h4)
      rcases List.mem_cons.1 h5 with h6 | h6
      · exact absurd h6 h3
      · exact h6
  rw [e]
  unfold reachL
  rfl
end Go.Proofs.Ytpeoecaamdiphaa
