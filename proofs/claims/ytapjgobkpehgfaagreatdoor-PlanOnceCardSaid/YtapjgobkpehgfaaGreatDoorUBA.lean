/-
  Rows of truths in blocks of their own, and a row of them.
  What Moves reach, by steps between, in plain truths.
  The program's leak: is a local there, what makes, what stores, and the truths of a row added to another one's.
-/
import Derived.Test.YtapjgobkpehgfaaGreatDoorUAC
import Derived.Test.YtapjgobkpehgfaaGreatDoorUAY
import Derived.Deep.MidRow
import Derived.Deep.OwnRows
import Derived.Test.YtapjgobkpehgfaaGreatDoorUAL
import Derived.Deep.RegionHeld3
import Derived.Deep.QuietTactic

/- Rows of truths in blocks of their own, and a row of them. -/
namespace Go.Proofs.YtapjgobkpehgfaaGreatDoor
set_option linter.unusedSimpArgs false
set_option linter.unusedVariables false
open Go.RowKit

theorem infoBoolG : (Tryz.prog.info? 4).map (fun i => (i.zero, i.size, i.bytes)) = some (some (.bool false), 1, 1) := by kernel_rfl
theorem infoBoolsG : (Tryz.prog.info? 68).map (fun i => (i.zero, i.size, i.bytes)) = some (some (.slice none 0 0), 1, 24) := by kernel_rfl
def boolRow (m : Nat) (r : Nat → Bool) : Array Value := ((List.range m).map fun j => Value.bool (r j)).toArray
def gridC (n m k : Nat) (ad : Nat → Nat) : Array Value := ((List.range n).map fun a => if a < k then Value.slice (some ⟨ad a, 0, none⟩) m m else Value.slice none 0 0).toArray
section
variable {n m k j : Nat} {r s : Nat → Bool} {ad : Nat → Nat}
theorem boolRow_get (h : j < m) : (boolRow m r)[j]? = some (.bool (r j)) := by unfold boolRow; simp [h]
theorem boolRow_congr (h : ∀ j, j < m → r j = s j) : boolRow m r = boolRow m s := by
  unfold boolRow
  congr 1
  exact List.map_congr_left fun j hj => by rw [h j (List.mem_range.1 hj)]
theorem boolRow_set (b : Bool) : (boolRow m r).setIfInBounds k (.bool b) = boolRow m (fun j => if j = k then b else r j) := by
  unfold boolRow
  rw [List.setIfInBounds_toArray]
  congr 1
  refine List.ext_getElem? fun i => ?_
  rw [List.getElem?_set]
  simp only [List.length_map, List.length_range, List.getElem?_map]
  by_cases e : k = i
  · subst e
    by_cases h : k < m
    · simp [h]
    · simp [h]
  · have e2 : ¬ i = k := fun h => e h.symm
    by_cases h : i < m
    · simp [e, e2, h]
    · simp [e, h]
theorem madeG (z : Value) (n : Nat) : madeCells #[z] n = (List.replicate n z).toArray := by
  unfold madeCells
  apply Array.ext'
  refine List.ext_getElem? fun i => ?_
  simp only [List.getElem?_replicate]
  by_cases h : i < n
  · simp [h, Nat.mod_one]
  · simp [h]
theorem boolRow_zeros (m : Nat) : madeCells #[.bool false] m = boolRow m (fun _ => false) := by
  rw [madeG]
  unfold boolRow
  rw [List.map_const', List.length_range]
theorem gridC_get (h : j < k) (hk : k ≤ n) : (gridC n m k ad)[j]? = some (.slice (some ⟨ad j, 0, none⟩) m m) := by
  have h2 : j < n := by omega
  unfold gridC; simp [h, h2]
theorem gridC_last (h : k < n) : (gridC n m k ad)[k]? = some (.slice none 0 0) := by
  unfold gridC; simp [h]
theorem gridC_set (x : Nat) : (gridC n m k ad).setIfInBounds k (.slice (some ⟨x, 0, none⟩) m m) = gridC n m (k + 1) (fun a => if a = k then x else ad a) := by
  unfold gridC
  rw [List.setIfInBounds_toArray]
  congr 1
  refine List.ext_getElem? fun i => ?_
  rw [List.getElem?_set]
  simp only [List.length_map, List.length_range, List.getElem?_map]
  by_cases e : k = i
  · subst e
    by_cases h : k < n
    · simp [h]
    · simp [h]
  · have e2 : ¬ i = k := fun h => e h.symm
    by_cases h : i < n
    · have e3 : (i < k + 1) = (i < k) := propext (by omega)
      simp [e, e2, e3, h]
    · simp [e, h]
theorem gridC_zeros (n m : Nat) (ad : Nat → Nat) : madeCells #[.slice none 0 0] n = gridC n m 0 ad := by
  rw [madeG]
  unfold gridC
  simp only [Nat.not_lt_zero, if_false]
  rw [List.map_const', List.length_range]
end

/-- A row of rows, each in a block of its own, of which k are made. -/
structure GridW (B : Nat) (w wr : World) (G n m k : Nat) (ad : Nat → Nat) (M : Nat → Nat → Bool) : Prop where
  below : Below B w wr
  hB : B ≤ G
  kn : k ≤ n
  out : blk wr G (gridC n m k ad) 68
  rows : ∀ a, a < k → blk wr (ad a) (boolRow m (M a)) 4
  far : ∀ a, a < k → G < ad a
  inj : ∀ a b, a < b → b < k → ad a < ad b
section
variable {B : Nat} {w wr w' : World} {G n m k : Nat} {ad : Nat → Nat} {M : Nat → Nat → Bool}
theorem GridW.size (h : GridW B w wr G n m k ad M) : B ≤ wr.heap.size := by
  have := blk_lt h.out; have := h.hB; omega
theorem GridW.next (h : GridW B w wr G n m k ad M) (hb : Below wr.heap.size wr w') : GridW B w w' G n m k ad M :=
  ⟨h.below.trans (hb.mono h.size), h.hB, h.kn, blk_below h.out hb, fun a ha => blk_below (h.rows a ha) hb, h.far, h.inj⟩
theorem GridW.cell (h : GridW B w wr G n m k ad M) {a : Nat} (ha : a < k) : wr.cell? ⟨G, a, none⟩ = some (.slice (some ⟨ad a, 0, none⟩) m m) :=
  blk_cell h.out a _ (gridC_get ha h.kn)
theorem GridW.at (h : GridW B w wr G n m k ad M) {a j : Nat} (ha : a < k) (hj : j < m) : wr.cell? ⟨ad a, j, none⟩ = some (.bool (M a j)) :=
  blk_cell (h.rows a ha) j _ (boolRow_get hj)
/-- One row is written anew. -/
theorem GridW.put (h : GridW B w wr G n m k ad M) {a : Nat} (ha : a < k) (r : Nat → Bool) : GridW B w (putB wr (ad a) (boolRow m r) 4) G n m k ad (fun x => if x = a then r else M x) := by
  have hf := h.far a ha
  have hB := h.hB
  refine ⟨h.below.trans (putB_below wr (by omega) _ _), h.hB, h.kn, ?_, fun x hx => ?_, h.far, h.inj⟩
  · unfold blk; rw [putB_ne _ (by omega)]; exact h.out
  · by_cases e : x = a
    · subst e
      rw [if_pos rfl]
      exact putB_at (h.rows x hx) _ _
    · rw [if_neg e]
      unfold blk
      rw [putB_ne _ (by
        rcases Nat.lt_or_gt_of_ne e with h1 | h1
        · have := h.inj x a h1 ha; omega
        · have := h.inj a x h1 hx; omega)]
      exact h.rows x hx
theorem GridW.setc (h : GridW B w wr G n m k ad M) {a j : Nat} (ha : a < k) (b : Bool) : GridW B w (wr.setCell ⟨ad a, j, none⟩ (.bool b)) G n m k ad (fun x => if x = a then (fun y => if y = j then b else M a y) else M x) := by
  rw [setCell_putB (h.rows a ha), boolRow_set]
  exact h.put ha _
/-- One row more. -/
theorem GridW.more (h : GridW B w wr G n m k ad M) (hk : k < n) (r : Nat → Bool) :
    GridW B w ((wr.alloc (.cells (boolRow m r) 4)).setCell ⟨G, k, none⟩ (.slice (some ⟨wr.heap.size, 0, none⟩) m m)) G n m (k + 1) (fun a => if a = k then wr.heap.size else ad a) (fun a => if a = k then r else M a) := by
  have hG := blk_lt h.out
  have ho := blk_alloc h.out (.cells (boolRow m r) 4)
  have hB := h.hB
  rw [setCell_putB ho, gridC_set]
  have hba : Below wr.heap.size wr (wr.alloc (.cells (boolRow m r) 4)) := (Below.refl _ _).alloc (Nat.le_refl _) _
  refine ⟨(h.below.trans (hba.mono h.size)).trans (putB_below _ hB _ _), h.hB, hk, putB_at ho _ _, fun a ha => ?_, fun a ha => ?_, fun a b hab hb => ?_⟩
  · unfold blk
    by_cases e : a = k
    · rw [if_pos e, if_pos e, putB_ne _ (by omega)]
      exact blk_new _ _ _
    · have hf := h.far a (by omega)
      rw [if_neg e, if_neg e, putB_ne _ (by omega)]
      exact blk_alloc (h.rows a (by omega)) _
  · show G < (if a = k then wr.heap.size else ad a)
    by_cases e : a = k
    · rw [if_pos e]; exact hG
    · rw [if_neg e]; exact h.far a (by omega)
  · show (if a = k then wr.heap.size else ad a) < (if b = k then wr.heap.size else ad b)
    by_cases e : b = k
    · have e2 : ¬ a = k := by omega
      rw [if_pos e, if_neg e2]
      exact blk_lt (h.rows a (by omega))
    · have e2 : ¬ a = k := by omega
      rw [if_neg e, if_neg e2]
      exact h.inj a b hab (by omega)
theorem GridW.new (h : Below B w wr) (hB : B ≤ wr.heap.size) (n m : Nat) (ad : Nat → Nat) (M : Nat → Nat → Bool) : GridW B w (wr.alloc (.cells (gridC n m 0 ad) 68)) wr.heap.size n m 0 ad M :=
  ⟨h.trans (((Below.refl _ _).alloc (Nat.le_refl _) _).mono hB), hB, Nat.zero_le _, blk_new _ _ _, fun _ h => absurd h (Nat.not_lt_zero _), fun _ h => absurd h (Nat.not_lt_zero _), fun _ _ _ h => absurd h (Nat.not_lt_zero _)⟩
end
end Go.Proofs.YtapjgobkpehgfaaGreatDoor

/- What Moves reach, by steps between, in plain truths. -/
namespace Go.Proofs.YtapjgobkpehgfaaGreatDoor
set_option linter.unusedSimpArgs false
set_option linter.unusedVariables false

section
variable {E : Nat → Nat → Prop}
/-- From a to b by steps between that are less than m. -/
def ViaQ (E : Nat → Nat → Prop) : Nat → Nat → Nat → Prop
  | 0, a, b => a = b ∨ E a b
  | m + 1, a, b => ViaQ E m a b ∨ (ViaQ E m a m ∧ ViaQ E m m b)
inductive Star (E : Nat → Nat → Prop) (a : Nat) : Nat → Prop
  | refl : Star E a a
  | step {b c : Nat} : Star E a b → E b c → Star E a c
theorem Star.trans {a b c : Nat} (h : Star E a b) (g : Star E b c) : Star E a c := by
  induction g with
  | refl => exact h
  | step _ e ih => exact .step ih e
theorem ViaQ.mono {m a b : Nat} (h : ViaQ E m a b) : ViaQ E (m + 1) a b := Or.inl h
theorem via_refl (m a : Nat) : ViaQ E m a a := by
  induction m with
  | zero => exact .inl rfl
  | succ m ih => exact ih.mono
theorem via_edge {a b : Nat} (m : Nat) (h : E a b) : ViaQ E m a b := by
  induction m with
  | zero => exact .inr h
  | succ m ih => exact ih.mono
theorem ViaQ.trans {m a b c : Nat} (hb : b < m) (h : ViaQ E m a b) (g : ViaQ E m b c) : ViaQ E m a c := by
  induction m generalizing a b c with
  | zero => omega
  | succ m ih =>
    by_cases e : b = m
    · subst e
      have h1 : ViaQ E b a b := by
        rcases h with h | ⟨h, _⟩
        · exact h
        · exact h
      have g1 : ViaQ E b b c := by
        rcases g with g | ⟨_, g⟩
        · exact g
        · exact g
      exact .inr ⟨h1, g1⟩
    · have hlt : b < m := by omega
      rcases h with h | ⟨h, h'⟩
      · rcases g with g | ⟨g, g'⟩
        · exact .inl (ih hlt h g)
        · exact .inr ⟨ih hlt h g, g'⟩
      · rcases g with g | ⟨_, g'⟩
        · exact .inr ⟨h, ih hlt h' g⟩
        · exact .inr ⟨h, g'⟩
theorem Star.via {n a b : Nat} (hE : ∀ x y, E x y → x < n) (h : Star E a b) : ViaQ E n a b := by
  induction h with
  | refl => exact via_refl n a
  | step _ e ih => exact ViaQ.trans (hE _ _ e) ih (via_edge n e)
/-- The truths behind the first k rows of the round m. -/
structure WarM (E : Nat → Nat → Prop) (n m k : Nat) (M : Nat → Nat → Bool) : Prop where
  sound : ∀ a b, M a b = true → Star E a b
  done : ∀ a b, a < k → ViaQ E (m + 1) a b → M a b = true
  rest : ∀ a b, k ≤ a → a < n → ViaQ E m a b → M a b = true
variable {n m k : Nat} {M : Nat → Nat → Bool}
theorem WarM.start (h1 : ∀ a b, M a b = true → a = b ∨ E a b) (h2 : ∀ a b, (a = b ∨ E a b) → M a b = true) : WarM E n 0 0 M :=
  ⟨fun a b h => (h1 a b h).elim (fun e => e ▸ .refl) (fun h => .step .refl h), fun _ _ h => absurd h (Nat.not_lt_zero _), fun a b _ _ h => h2 a b h⟩
theorem WarM.any (h : WarM E n m k M) {a b : Nat} (hn : a < n) (hv : ViaQ E m a b) : M a b = true := by
  by_cases e : a < k
  · exact h.done a b e hv.mono
  · exact h.rest a b (by omega) hn hv
theorem WarM.skip (h : WarM E n m k M) (hn : k < n) (hk : M k m = false) : WarM E n m (k + 1) M := by
  refine ⟨h.sound, fun a b ha hv => ?_, fun a b ha h' hv => h.rest a b (by omega) h' hv⟩
  by_cases e : a < k
  · exact h.done a b e hv
  · have e2 : a = k := by omega
    subst e2
    rcases hv with hv | ⟨hv, _⟩
    · exact h.any hn hv
    · rw [h.any hn hv] at hk; cases hk
def orR (M : Nat → Nat → Bool) (k m : Nat) : Nat → Nat → Bool := fun a => if a = k then fun b => M k b || M m b else M a
theorem WarM.take (h : WarM E n m k M) (hn : k < n) (hm : m < n) (hk : M k m = true) : WarM E n m (k + 1) (orR M k m) := by
  have hor : ∀ a b, M a b = true → orR M k m a b = true := fun a b hab => by
    unfold orR
    split
    · next e => subst e; simp [hab]
    · exact hab
  refine ⟨fun a b hab => ?_, fun a b ha hv => ?_, fun a b ha h' hv => hor _ _ (h.rest a b (by omega) h' hv)⟩
  · unfold orR at hab
    split at hab
    · next e =>
      subst e
      rcases Bool.or_eq_true_iff.1 hab with h1 | h1
      · exact h.sound _ _ h1
      · exact (h.sound _ _ hk).trans (h.sound _ _ h1)
    · exact h.sound _ _ hab
  · by_cases e : a < k
    · exact hor _ _ (h.done a b e hv)
    · have e2 : a = k := by omega
      subst e2
      rcases hv with hv | ⟨_, hv⟩
      · exact hor _ _ (h.any hn hv)
      · unfold orR; rw [if_pos rfl, h.any hm hv, Bool.or_true]
theorem WarM.next (h : WarM E n m n M) : WarM E n (m + 1) 0 M :=
  ⟨h.sound, fun _ _ h => absurd h (Nat.not_lt_zero _), fun a b _ hn hv => h.done a b hn hv⟩
end

/-! ### Of a program's Moves -/
def EdgeQ (q : PProg) (x y : Nat) : Prop := ∃ i ∈ q.code, i.op = 7 ∧ i.b = (x : Int) ∧ i.a = (y : Int)
section
variable {q : PProg}
theorem edgeQ_lt (hc : (checkL q).2 = 0) (hok : ∀ i ∈ q.code, OkI i) {x y : Nat} (h : EdgeQ q x y) : x < q.locals.length ∧ y < q.locals.length := by
  obtain ⟨i, hi, h7, hb, ha⟩ := h
  have h1 := move_same hc hi h7
  have hh := (check_ok hc).1
  have a0 := (hok i hi).a0
  have b0 := (hok i hi).b0
  have e1 := (local_lt hh a0 h1.1).1
  have e2 := (local_lt hh b0 (by have := h1.2; have := h1.1; omega)).1
  omega
theorem may_star (hok : ∀ i ∈ q.code, OkI i) {b k : Nat} : MayR q (b : Int) k ↔ ∃ i, ∃ a : Nat, q.code[k]? = some i ∧ i.op = 5 ∧ i.a = (a : Int) ∧ Star (EdgeQ q) a b := by
  constructor
  · intro h
    obtain ⟨z, hz⟩ : ∃ z : Int, z = (b : Int) := ⟨_, rfl⟩
    rw [← hz] at h
    induction h generalizing b with
    | @new k i hi h5 => exact ⟨i, b, hi, h5, hz, .refl⟩
    | @move k i hi h7 _ ih =>
      have b0 := (hok i hi).b0
      obtain ⟨j, a, h1, h2, h3, h4⟩ := ih (b := i.b.toNat) (by omega)
      exact ⟨j, a, h1, h2, h3, .step h4 ⟨i, hi, h7, by omega, hz⟩⟩
  · rintro ⟨i, a, hi, h5, ha, hs⟩
    induction hs with
    | refl => rw [← ha]; exact .new hi h5
    | step _ e ih =>
      obtain ⟨j, hj, h7, hb, ha'⟩ := e
      rw [← ha']
      exact .move hj h7 (by rw [hb]; exact ih)
/-- What stands behind a way of all Moves. -/
def WayM (q : PProg) (M : Nat → Nat → Bool) : Prop := ∀ a b, a < q.locals.length → (M a b = true ↔ Star (EdgeQ q) a b)
theorem WarM.way {M : Nat → Nat → Bool} (hc : (checkL q).2 = 0) (hok : ∀ i ∈ q.code, OkI i) (h : WarM (EdgeQ q) q.locals.length q.locals.length 0 M) : WayM q M :=
  fun a b hl => ⟨h.sound a b, fun hs => h.rest a b (Nat.zero_le _) hl (hs.via fun x y e => (edgeQ_lt hc hok e).1)⟩
/-- Edges of the first m instructions. -/
def EdgeT (q : PProg) (m : Nat) (M : Nat → Nat → Bool) : Prop := ∀ a b, M a b = true ↔ (a = b ∨ ∃ i ∈ q.code.take m, i.op = 7 ∧ i.b = (a : Int) ∧ i.a = (b : Int))
theorem EdgeT.skip {m : Nat} {M : Nat → Nat → Bool} {i : PIns} (h : EdgeT q m M) (hi : q.code[m]? = some i) (h7 : i.op ≠ 7) : EdgeT q (m + 1) M := by
  intro a b
  rw [h a b, List.take_add_one, hi]
  simp only [Option.toList_some, List.mem_append, List.mem_singleton]
  constructor
  · rintro (h | ⟨j, hj, h⟩)
    · exact .inl h
    · exact .inr ⟨j, .inl hj, h⟩
  · rintro (h | ⟨j, hj | rfl, h⟩)
    · exact .inl h
    · exact .inr ⟨j, hj, h⟩
    · exact absurd h.1 h7
def setM (M : Nat → Nat → Bool) (x y : Nat) : Nat → Nat → Bool := fun a => if a = x then fun b => if b = y then true else M x b else M a
theorem EdgeT.take {m x y : Nat} {M : Nat → Nat → Bool} {i : PIns} (h : EdgeT q m M) (hi : q.code[m]? = some i) (h7 : i.op = 7) (hb : i.b = (x : Int)) (ha : i.a = (y : Int)) : EdgeT q (m + 1) (setM M x y) := by
  intro a b
  rw [List.take_add_one, hi]
  simp only [Option.toList_some, List.mem_append, List.mem_singleton]
  unfold setM
  by_cases e : a = x ∧ b = y
  · obtain ⟨rfl, rfl⟩ := e
    rw [if_pos rfl]
    simp only [if_true, true_iff]
    exact .inr ⟨i, .inr rfl, h7, hb, ha⟩
  · have e1 : (if a = x then fun b => if b = y then true else M x b else M a) b = M a b := by
      split
      · next ea =>
        subst ea
        show (if b = y then true else M a b) = M a b
        rw [if_neg (fun eb => e ⟨rfl, eb⟩)]
      · rfl
    rw [e1, h a b]
    constructor
    · rintro (h | ⟨j, hj, h⟩)
      · exact .inl h
      · exact .inr ⟨j, .inl hj, h⟩
    · rintro (h | ⟨j, hj | rfl, h⟩)
      · exact .inl h
      · exact .inr ⟨j, hj, h⟩
      · exact absurd ⟨by omega, by omega⟩ e
theorem EdgeT.nought : EdgeT q 0 (fun a b => a == b) := by
  intro a b
  simp
theorem EdgeT.war {M : Nat → Nat → Bool} {n : Nat} (h : EdgeT q q.code.length M) : WarM (EdgeQ q) n 0 0 M := by
  have h1 : ∀ a b, M a b = true ↔ (a = b ∨ EdgeQ q a b) := fun a b => by
    rw [h a b, List.take_length]; rfl
  exact .start (fun a b => (h1 a b).1) (fun a b => (h1 a b).2)
end
end Go.Proofs.YtapjgobkpehgfaaGreatDoor

/- The program's leak: is a local there, what makes, what stores, and the truths of a row added to another one's. -/
namespace Go.Proofs.YtapjgobkpehgfaaGreatDoor
set_option linter.unusedSimpArgs false
set_option linter.unusedVariables false
open Go.RowKit

set_option maxRecDepth 100000 in
set_option maxHeartbeats 2000000 in
theorem jthere_n (w : World) (Pb : Nat) (p : PProg) (a : Int) (r : Bool) (h1 : w.cell? ⟨Pb, 1, none⟩ = some (str p.locals)) (hl : p.locals.length ≤ 200) (h0 : 0 ≤ a) (ha : a ≤ 255) (hr : Hid (decide (a < p.locals.length) = r)) :
    Calls Tryz.prog 64 #[.int .u8 a, .pointer (some ⟨Pb, 0, none⟩)] w fun e w' => e = .returned (.bool r) ∧ w = w' := by
  rcases r with _ | _
  · have h2 : ¬ (a < (p.locals.length : Int)) := by simpa using hr.out
    go_enter Tryz.func64, Tryz.ntmps64
    go_wp2
    go_ret
    exact ⟨rfl, rfl⟩
  · have h2 : a < (p.locals.length : Int) := by simpa using hr.out
    go_enter Tryz.func64, Tryz.ntmps64
    go_wp2
    go_ret
    exact ⟨rfl, rfl⟩
set_option maxRecDepth 100000 in
set_option maxHeartbeats 2000000 in
theorem jisthere_n (w : World) (p : PProg) (vt vc : Value) :
    Calls Tryz.prog 37 #[.agg (progC vt p vc)] w fun e w' => e = .returned (.func (.func 64) #[] #[.pointer (some ⟨w.heap.size, 0, none⟩)]) ∧ Below w.heap.size w w' ∧ blk w' w.heap.size (progC vt p vc) 25 := by
  have hmf : ∀ (fn : Fn) (first cap : Array Value) (w : World), (Instr.makeFunc fn first cap).run Tryz.prog w = .ok (.func fn first cap) w := fun _ _ _ _ => rfl
  go_enter Tryz.func37, Tryz.ntmps37
  go_wp2
  go_ret
  exact ⟨rfl, (Below.refl _ _).alloc (Nat.le_refl _) _, blk_new _ _ _⟩
set_option maxRecDepth 100000 in
set_option maxHeartbeats 2000000 in
theorem jmakes_at (op ia b c n : Int) (w W0 : World) (Pb : Nat) (r : Bool) (hW0 : W0 = w.alloc (.cells (insC ⟨op, ia, b, c, n⟩) 46)) (HB : Hid (Below w.heap.size w W0)) (HI : Hid (blk W0 w.heap.size (insC ⟨op, ia, b, c, n⟩) 46))
    (HT : Hid (∀ w1, Below w.heap.size w w1 → Calls Tryz.prog 64 #[.int .u8 ia, .pointer (some ⟨Pb, 0, none⟩)] w1 fun e w' => e = .returned (.bool r) ∧ w1 = w')) :
    Calls Tryz.prog 38 #[.agg (insC ⟨op, ia, b, c, n⟩), .func (.func 64) #[] #[.pointer (some ⟨Pb, 0, none⟩)]] w (AggPost w (.bool (op == 5 && r))) := by
  have c0 : W0.cell? ⟨w.heap.size, 0, none⟩ = some (.int .u8 op) := blk_cell HI.out 0 _ rfl
  have c1 : W0.cell? ⟨w.heap.size, 1, none⟩ = some (.int .u8 ia) := blk_cell HI.out 1 _ rfl
  by_cases h5 : op = 5
  · have q5 : (op == 5) = true := by simpa using h5
    rw [q5, Bool.true_and]
    clear h5
    go_enter Tryz.func38, Tryz.ntmps38
    go_upto_region 1 with (fail)
    rw [← hW0]
    clear hW0
    go_wp2_with (go_at_call 64; ((with_reducible refine (HT.out _ HB.out).mono ?_); rintro e w1 ⟨rfl, rfl⟩))
    go_ret
    exact ⟨rfl, HB.out⟩
  · have q5 : (op == 5) = false := by simpa using h5
    rw [q5, Bool.false_and]
    clear h5
    go_enter Tryz.func38, Tryz.ntmps38
    go_upto_region 1 with (fail)
    rw [← hW0]
    clear hW0
    go_wp2
    go_ret
    exact ⟨rfl, HB.out⟩
/-- Where a closure's program lies. -/
def ThW (w : World) (Pb : Nat) (p : PProg) : Prop := Pb < w.heap.size ∧ w.cell? ⟨Pb, 1, none⟩ = some (str p.locals)
theorem ThW.below {w w' : World} {Pb : Nat} {p : PProg} (h : ThW w Pb p) (hb : Below w.heap.size w w') : ThW w' Pb p :=
  ⟨Nat.lt_of_lt_of_le h.1 hb.size, by rw [hb.cell h.1]; exact h.2⟩
theorem jmakes_n (i : PIns) (w : World) (Pb : Nat) (p : PProg) (h : ThW w Pb p) (hl : p.locals.length ≤ 200) (hi : OkI i) :
    Calls Tryz.prog 38 #[.agg (insC i), .func (.func 64) #[] #[.pointer (some ⟨Pb, 0, none⟩)]] w (AggPost w (.bool (i.op == 5 && decide (i.a < p.locals.length)))) := by
  obtain ⟨op, ia, b, c, n⟩ := i
  exact jmakes_at op ia b c n w _ Pb _ rfl (Lib.hid ((Below.refl _ _).alloc (Nat.le_refl _) _)) (Lib.hid (blk_new _ _ _)) (Lib.hid fun w1 hb => jthere_n w1 Pb p ia _ (h.below hb).2 hl hi.a0 hi.a1 (Lib.hid rfl))
set_option maxRecDepth 100000 in
set_option maxHeartbeats 2000000 in
theorem jstores_at (op ia b c n : Int) (w W0 : World) (Pb : Nat) (r : Bool) (hW0 : W0 = w.alloc (.cells (insC ⟨op, ia, b, c, n⟩) 46)) (HB : Hid (Below w.heap.size w W0)) (HI : Hid (blk W0 w.heap.size (insC ⟨op, ia, b, c, n⟩) 46))
    (HT : Hid (∀ w1, Below w.heap.size w w1 → Calls Tryz.prog 64 #[.int .u8 b, .pointer (some ⟨Pb, 0, none⟩)] w1 fun e w' => e = .returned (.bool r) ∧ w1 = w')) :
    Calls Tryz.prog 42 #[.agg (insC ⟨op, ia, b, c, n⟩), .func (.func 64) #[] #[.pointer (some ⟨Pb, 0, none⟩)]] w (AggPost w (.bool ((op == 11 || op == 13) && r))) := by
  have c0 : W0.cell? ⟨w.heap.size, 0, none⟩ = some (.int .u8 op) := blk_cell HI.out 0 _ rfl
  have c2 : W0.cell? ⟨w.heap.size, 2, none⟩ = some (.int .u8 b) := blk_cell HI.out 2 _ rfl
  by_cases h11 : op = 11
  · have q11 : (op == 11) = true := by simpa using h11
    rw [q11, Bool.true_or, Bool.true_and]
    clear h11
    go_enter Tryz.func42, Tryz.ntmps42
    go_upto_region 1 with (fail)
    rw [← hW0]
    clear hW0
    go_wp2_with (go_at_call 64; ((with_reducible refine (HT.out _ HB.out).mono ?_); rintro e w1 ⟨rfl, rfl⟩))
    go_ret
    exact ⟨rfl, HB.out⟩
  · have q11 : (op == 11) = false := by simpa using h11
    by_cases h13 : op = 13
    · have q13 : (op == 13) = true := by simpa using h13
      rw [q11, q13, Bool.false_or, Bool.true_and]
      clear h11 h13
      go_enter Tryz.func42, Tryz.ntmps42
      go_upto_region 1 with (fail)
      rw [← hW0]
      clear hW0
      go_wp2_with (go_at_call 64; ((with_reducible refine (HT.out _ HB.out).mono ?_); rintro e w1 ⟨rfl, rfl⟩))
      go_ret
      exact ⟨rfl, HB.out⟩
    · have q13 : (op == 13) = false := by simpa using h13
      rw [q11, q13, Bool.false_or, Bool.false_and]
      clear h11 h13
      go_enter Tryz.func42, Tryz.ntmps42
      go_upto_region 1 with (fail)
      rw [← hW0]
      clear hW0
      go_wp2
      go_ret
      exact ⟨rfl, HB.out⟩
def storB (p : PProg) (i : PIns) : Bool := (i.op == 11 || i.op == 13) && decide (i.b < p.locals.length)
theorem jstores_n (i : PIns) (w : World) (Pb : Nat) (p : PProg) (h : ThW w Pb p) (hl : p.locals.length ≤ 200) (hi : OkI i) :
    Calls Tryz.prog 42 #[.agg (insC i), .func (.func 64) #[] #[.pointer (some ⟨Pb, 0, none⟩)]] w (AggPost w (.bool (storB p i))) := by
  obtain ⟨op, ia, b, c, n⟩ := i
  exact jstores_at op ia b c n w _ Pb _ rfl (Lib.hid ((Below.refl _ _).alloc (Nat.le_refl _) _)) (Lib.hid (blk_new _ _ _)) (Lib.hid fun w1 hb => jthere_n w1 Pb p b _ (h.below hb).2 hl hi.b0 hi.b1 (Lib.hid rfl))

/-! ### add -/
def orK (r s : Nat → Bool) (k : Nat) : Nat → Bool := fun j => if j < k then r j || s j else r j
theorem orK_0 (r s : Nat → Bool) : orK r s 0 = r := by unfold orK; simp
theorem orK_next {r s : Nat → Bool} {k : Nat} {b : Bool} (hb : b = (r k || s k)) : (fun j => if j = k then b else orK r s k j) = orK r s (k + 1) := by
  subst hb
  funext j
  unfold orK
  by_cases e : j = k
  · subst e; simp
  · by_cases h : j < k
    · have h2 : j < k + 1 := by omega
      simp [e, h, h2]
    · have h2 : ¬ j < k + 1 := by omega
      simp [e, h, h2]
/-- One block alone is written. -/
structure OneB (w w' : World) (X : Nat) (cs : Array Value) (t : TypeId) : Prop where
  blk : blk w' X cs t
  below : ∀ B, B ≤ X → Below B w w'
  ne : ∀ g, g < w.heap.size → g ≠ X → w'.heap[g]? = w.heap[g]?
  size : w.heap.size ≤ w'.heap.size
section
variable {w wr w' : World} {X m k : Nat} {r : Nat → Bool} {cs : Array Value} {t : TypeId}
theorem OneB.refl (h : Go.Proofs.YtapjgobkpehgfaaGreatDoor.blk w X cs t) : OneB w w X cs t := ⟨h, fun B _ => Below.refl B w, fun _ _ _ => rfl, Nat.le_refl _⟩
theorem OneB.set (h : OneB w wr X (boolRow m r) t) (b : Bool) : OneB w (wr.setCell ⟨X, k, none⟩ (.bool b)) X (boolRow m (fun j => if j = k then b else r j)) t := by
  rw [setCell_putB h.blk, boolRow_set]
  exact ⟨putB_at h.blk _ _, fun B hB => (h.below B hB).trans (putB_below wr hB _ _), fun g hg hn => by rw [putB_ne _ hn]; exact h.ne g hg hn, by rw [putB_size]; exact h.size⟩
end
set_option maxRecDepth 100000 in
set_option maxHeartbeats 4000000 in
theorem jadd_n (w : World) (X Y m : Nat) (r s : Nat → Bool) (hm : m ≤ 1000) (HX : Hid (blk w X (boolRow m r) 4)) (HY : Hid (blk w Y (boolRow m s) 4)) :
    Calls Tryz.prog 65 #[.slice (some ⟨X, 0, none⟩) m m, .slice (some ⟨Y, 0, none⟩) m m] w fun e w' => e = .returned undef ∧ OneB w w' X (boolRow m (fun j => r j || s j)) 4 := by
  have HXY : Hid (X = Y → boolRow m r = boolRow m s) := Lib.hid fun e => by
    subst e
    have h := HX.out.symm.trans HY.out
    simp only [Option.some.injEq, Obj.cells.injEq] at h
    exact h.1
  go_enter Tryz.func65, Tryz.ntmps65
  go_wp2_with (fail)
  go_loopw [8] (fun v8 wr => ∃ k : Nat, k ≤ m ∧ v8 = .int .i64 k ∧ Hid (OneB w wr X (boolRow m (orK r s k)) 4)) (fun v8 _ => m - (intOf v8).toNat)
  case atStart => exact ⟨0, Nat.zero_le _, rfl, Lib.hid (by rw [orK_0]; exact .refl HX.out)⟩
  case round =>
    obtain ⟨k, hk, rfl, HW⟩ := hrel
    by_cases hlt : k < m
    · have hki : (k : Int) < (m : Int) := by omega
      have hk0 : (0 : Int) ≤ (k : Int) := by omega
      have cx : wr.cell? ⟨X, k, none⟩ = some (.bool (r k)) := blk_cell HW.out.blk k _ (by rw [boolRow_get hlt]; unfold orK; rw [if_neg (Nat.lt_irrefl k)])
      have fx := blk_frozen HW.out.blk k
      have cy : wr.cell? ⟨Y, k, none⟩ = some (.bool (s k)) := by
        by_cases e : X = Y
        · have h9 := congrArg (fun z : Array Value => z[k]?) (HXY.out e)
          simp only [boolRow_get hlt, Option.some.injEq, Value.bool.injEq] at h9
          rw [← e, cx, h9]
        · refine blk_cell (show blk wr Y (boolRow m s) 4 from ?_) k _ (boolRow_get hlt)
          unfold blk
          rw [HW.out.ne Y (blk_lt HY.out) (fun h => e h.symm)]
          exact HY.out
      obtain ⟨b, hb⟩ : ∃ b, b = (r k || s k) := ⟨_, rfl⟩
      have HN : Hid (OneB w (wr.setCell ⟨X, k, none⟩ (.bool b)) X (boolRow m (orK r s (k + 1))) 4) := Lib.hid (by
        rw [← orK_next hb]; exact HW.out.set b)
      clear HW
      rcases hrk : r k with _ | _
      all_goals
        rw [hrk] at cx hb
        simp only [Bool.false_or, Bool.true_or] at hb
        subst hb
        clear hrk
        go_wp2
        go_roundw
        case rel => exact ⟨k + 1, by omega, by go_num, HN⟩
        case measure => simp [intOf]; omega
    · have hke : k = m := by omega
      have hkn : ¬ ((k : Int) < (m : Int)) := by omega
      have HE : Hid (OneB w wr X (boolRow m (fun j => r j || s j)) 4) := Lib.hid (by
        have h := HW.out
        rw [hke] at h
        rw [boolRow_congr (r := fun j => r j || s j) (s := orK r s m) (fun j hj => by unfold orK; rw [if_pos hj])]
        exact h)
      clear hke HW
      go_wp2
      refine bodyPost_end (results_none rfl _ _ _) rfl ?_
      exact ⟨rfl, HE.out⟩
end Go.Proofs.YtapjgobkpehgfaaGreatDoor
