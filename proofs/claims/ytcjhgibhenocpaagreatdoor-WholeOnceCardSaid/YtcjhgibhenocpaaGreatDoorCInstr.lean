/-
  The contract of instruction.
-/
import Derived.Test.YtcjhgibhenocpaaGreatDoorUAH
namespace Go.Proofs.YtcjhgibhenocpaaGreatDoor
set_option linter.unusedSimpArgs false
set_option linter.unusedVariables false
open Go.RowKit

/-- What the numbers read so far are. -/
def readTo (hs : Bs) (ws : List Bs) (i : PIns) (k : Nat) : Option PIns := readL (hs.take k) (ws.take k) i
theorem read_snoc : ∀ (hs : Bs) (ws : List Bs) (i j : PIns) (c : UInt8) (w : Bs), hs.length = ws.length → readL hs ws i = some j → readL (hs ++ [c]) (ws ++ [w]) i = if fitL c w then some (setL j c (numL w).1) else none
  | [], [], i, j, c, w, _, h => by
    have e : i = j := by simpa [readL] using h
    subst e
    show (if fitL c w = true then readL [] [] (setL i c (numL w).1) else none) = _
    rfl
  | [], _ :: _, _, _, _, _, h, _ => by simp at h
  | _ :: _, [], _, _, _, _, h, _ => by simp at h
  | a :: hs, x :: ws, i, j, c, w, hl, h => by
    obtain ⟨h1, h2⟩ := read_some h
    show (if fitL a x = true then readL (hs ++ [c]) (ws ++ [w]) (setL i a (numL x).1) else none) = _
    rw [if_pos h1]
    exact read_snoc hs ws _ j c w (by simpa using hl) h2
theorem read_bad : ∀ (hs r : Bs) (ws s : List Bs) (i : PIns), hs.length = ws.length → readL hs ws i = none → readL (hs ++ r) (ws ++ s) i = none
  | [], _, [], _, i, _, h => by simp [readL] at h
  | [], _, _ :: _, _, _, h, _ => by simp at h
  | _ :: _, _, [], _, _, h, _ => by simp at h
  | a :: hs, r, x :: ws, s, i, hl, h => by
    show (if fitL a x = true then readL (hs ++ r) (ws ++ s) (setL i a (numL x).1) else none) = none
    have h' : (if fitL a x = true then readL hs ws (setL i a (numL x).1) else none) = none := h
    by_cases hf : fitL a x = true
    · rw [if_pos hf] at h' ⊢
      exact read_bad hs r ws s _ (by simpa using hl) h'
    · rw [if_neg hf]
theorem readTo_next {hs : Bs} {ws : List Bs} {i j : PIns} {k : Nat} {c : UInt8} {w : Bs} (hl : hs.length = ws.length) (h : readTo hs ws i k = some j) (hc : hs[k]? = some c) (hw : ws[k]? = some w) (hf : fitL c w = true) :
    readTo hs ws i (k + 1) = some (setL j c (numL w).1) := by
  obtain ⟨h1, rfl⟩ := List.getElem?_eq_some_iff.1 hc
  obtain ⟨h2, rfl⟩ := List.getElem?_eq_some_iff.1 hw
  unfold readTo at h ⊢
  rw [List.take_succ_eq_append_getElem h1, List.take_succ_eq_append_getElem h2, read_snoc _ _ i j _ _ (by simp; omega) h, if_pos hf]
theorem readTo_bad {hs : Bs} {ws : List Bs} {i j : PIns} {k : Nat} {c : UInt8} {w : Bs} (hl : hs.length = ws.length) (h : readTo hs ws i k = some j) (hc : hs[k]? = some c) (hw : ws[k]? = some w) (hf : fitL c w = false) :
    readL hs ws i = none := by
  obtain ⟨h1, rfl⟩ := List.getElem?_eq_some_iff.1 hc
  obtain ⟨h2, rfl⟩ := List.getElem?_eq_some_iff.1 hw
  have : readTo hs ws i (k + 1) = none := by
    unfold readTo at h ⊢
    rw [List.take_succ_eq_append_getElem h1, List.take_succ_eq_append_getElem h2, read_snoc _ _ i j _ _ (by simp; omega) h, if_neg (by rw [hf]; simp)]
  unfold readTo at this
  have := read_bad _ (hs.drop (k + 1)) _ (ws.drop (k + 1)) i (by simp; omega) this
  rwa [List.take_append_drop, List.take_append_drop] at this
theorem readTo_all {hs : Bs} {ws : List Bs} {i : PIns} (hl : hs.length = ws.length) : readTo hs ws i hs.length = readL hs ws i := by
  unfold readTo; rw [List.take_length, hl, List.take_length]
theorem readTo_op {hs : Bs} {ws : List Bs} {i j : PIns} (h : readL hs ws i = some j) : j.op = i.op := by
  induction hs generalizing ws i with
  | nil => have : i = j := by cases ws <;> simpa [readL] using h
           rw [this]
  | cons a r ih =>
    rcases ws with _ | ⟨x, ws⟩
    · simp [readL] at h
    · obtain ⟨_, h2⟩ := read_some h
      rw [ih h2]
      unfold setL; split
      · rfl
      · split
        · rfl
        · split <;> rfl


abbrev zeroC : Array Value := #[.int .u8 0, .int .u8 0, .int .u8 0, .int .u8 0, .int .i64 0]
structure IAt (w : World) (T : Nat) (o : Int × Bs × Bs) (hs : Bs) (j : PIns) (k : Nat) (wr : World) : Prop where
  r : blk wr w.heap.size zeroC 60
  o : blk wr T (opCells o).toArray 90
  n : blk wr (T + 1) (numC j) 94
  m : wr.heap[T + 2]? = some placesO
  i : wr.heap[T + 3]? = some (.stringIter ⟨hs.toArray⟩ k)
  b : Below w.heap.size w wr
  lt : w.heap.size < T
section
variable {w wr : World} {T : Nat} {o : Int × Bs × Bs} {hs : Bs} {j : PIns} {k : Nat}
theorem IAt.pos (h : IAt w T o hs j k wr) : wr.iterPos (T + 3) = k := by unfold World.iterPos; rw [h.i]
theorem obj_below {w w' : World} {b : Nat} {ob : Obj} (h : w.heap[b]? = some ob) (hb : Below w.heap.size w w') : w'.heap[b]? = some ob := by
  rw [hb.block b (Array.getElem?_eq_some_iff.1 h).1]; exact h
theorem IAt.below {w' : World} (h : IAt w T o hs j k wr) (hb : Below wr.heap.size wr w') : IAt w T o hs j k w' :=
  ⟨blk_below h.r hb, blk_below h.o hb, blk_below h.n hb, obj_below h.m hb, obj_below h.i hb, h.b.trans (hb.mono h.b.size), h.lt⟩
theorem IAt.next (h : IAt w T o hs j k wr) : IAt w T o hs j (k + 1) (putO wr (T + 3) (.stringIter ⟨hs.toArray⟩ (k + 1))) := by
  have hl := h.lt
  have hi : T + 3 < wr.heap.size := (Array.getElem?_eq_some_iff.1 h.i).1
  exact ⟨by unfold blk; rw [putO_ne _ (by omega)]; exact h.r, by unfold blk; rw [putO_ne _ (by omega)]; exact h.o, by unfold blk; rw [putO_ne _ (by omega)]; exact h.n,
    by rw [putO_ne _ (by omega)]; exact h.m, putO_at hi _, h.b.trans (putO_below _ (by omega) _), h.lt⟩
theorem IAt.put (h : IAt w T o hs j k wr) (j' : PIns) : IAt w T o hs j' k (putB wr (T + 1) (numC j') 94) := by
  have hl := h.lt
  exact ⟨by unfold blk; rw [putB_ne _ (by omega)]; exact h.r, by unfold blk; rw [putB_ne _ (by omega)]; exact h.o, putB_at h.n _ _,
    by rw [putB_ne _ (by omega)]; exact h.m, by rw [putB_ne _ (by omega)]; exact h.i, h.b.trans (putB_below _ (by omega) _ _), h.lt⟩
end
/-- What the numbers so far are. -/
structure OkJ (j : PIns) : Prop where
  a0 : 0 ≤ j.a
  a1 : j.a ≤ 255
  b0 : 0 ≤ j.b
  b1 : j.b ≤ 255
  c0 : 0 ≤ j.c
  c1 : j.c ≤ 255
theorem okJ_a {j : PIns} {x : Int} (h : OkJ j) (h0 : 0 ≤ x) (h1 : x ≤ 255) : OkJ (setL j 65 x) := ⟨h0, h1, h.b0, h.b1, h.c0, h.c1⟩
theorem okJ_b {j : PIns} {x : Int} (h : OkJ j) (h0 : 0 ≤ x) (h1 : x ≤ 255) : OkJ (setL j 66 x) := ⟨h.a0, h.a1, h0, h1, h.c0, h.c1⟩
theorem okJ_c {j : PIns} {x : Int} (h : OkJ j) (h0 : 0 ≤ x) (h1 : x ≤ 255) : OkJ (setL j 67 x) := ⟨h.a0, h.a1, h.b0, h.b1, h0, h1⟩
theorem okJ_n {j : PIns} {x : Int} (h : OkJ j) : OkJ (setL j 78 x) := ⟨h.a0, h.a1, h.b0, h.b1, h.c0, h.c1⟩

def InstrPost (w : World) (r : Option PIns) (e : Ending) (w' : World) : Prop :=
  e = .returned (match r with
    | some i => .tuple #[.agg (insC i), .bool true]
    | none => .tuple #[.agg zeroC, .bool false]) ∧ Below w.heap.size w w'
theorem zero_one : zeroC.all (·.oneCell') = true := all_oneCell_toArray (cs := zeroC.toList) (by intro v h; simp at h; rcases h with rfl | rfl <;> rfl)
theorem ins_one (i : PIns) : (insC i).all (·.oneCell') = true := all_oneCell_toArray (cs := (insC i).toList) (by intro v h; simp at h; rcases h with rfl | rfl | rfl | rfl | rfl <;> rfl)

set_option maxRecDepth 100000 in
set_option maxHeartbeats 1000000 in
theorem instr_none (v : Value) (x : Bs) (ws : List Bs) (w : World) (h : RowAt w v ((x :: ws).map str)) (ho : HasO w) (hb : byNameL x = none) : Calls Tryz.prog 57 #[v] w (InstrPost w none) := by
  obtain ⟨a, c, rfl, h1, h2, h3⟩ := (h.below ((Below.refl _ _).alloc (Nat.le_refl _) (.cells zeroC 60))).elems
  obtain ⟨b, o, rfl, hlt, hc⟩ := h3 0 x rfl
  rw [Nat.add_zero] at hc
  have HN : Hid (Calls Tryz.prog 96 #[str x] (w.alloc (.cells zeroC 60)) (OpPost (w.alloc (.cells zeroC 60)) none)) := Lib.hid (by have := byName_any x _ (ho.below ((Below.refl _ _).alloc (Nat.le_refl _) (.cells zeroC 60))); rw [hb] at this; exact this)
  have hlen : (0 : Int) < ((x :: ws).length : Int) := by simp
  have hN := (x :: ws).length
  unfold maxLen at h2
  generalize (x :: ws).length = n at *
  clear h h3 ho hb hN
  go_enter Tryz.func57, Tryz.ntmps57
  go_wp2_with (first
    | (go_at_call 96; refine HN.out.mono ?_; rintro e w1 ⟨rfl, hb1⟩; have s1 := hb1.size; rw [World.size_alloc] at s1; have k1 := Lib.hid (blk_below (blk_new w zeroC 60) hb1); have HB1 := Lib.hid hb1; clear hb1)
    | (refine wpList_putB rfl 60 _ _ rfl w.heap.size zeroC rfl rfl 60 _ (blk_alloc k1.out _) ins_info rfl zero_one ?_))
  refine bodyPost_ret (v := .tuple #[.agg zeroC, .bool false]) ?_ rfl ⟨rfl, ?_⟩
  · rw [res_cell1 (p := 2) (u := 3) rfl _ _ w.heap.size zeroC 60 _ rfl (putB_at (blk_alloc k1.out _) _ _) Tryz.underlying60 rfl ins_info]; rfl
  · have h1 := HB1.out
    rw [World.size_alloc] at h1
    exact ((((Below.refl _ _).alloc (Nat.le_refl _) _).trans (h1.mono (by omega))).alloc (by omega) _).trans (putB_below _ (Nat.le_refl _) _ _)

set_option maxRecDepth 100000 in
set_option maxHeartbeats 1000000 in
theorem instr_len (v : Value) (x : Bs) (ws : List Bs) (w : World) (op : Int) (hs : Bs) (h : RowAt w v ((x :: ws).map str)) (ho : HasO w) (hb : byNameL x = some (op, x, hs)) (hl : (x :: ws).length ≠ 1 + hs.length) (hs3 : hs.length ≤ 3) : Calls Tryz.prog 57 #[v] w (InstrPost w none) := by
  obtain ⟨a, c, rfl, h1, h2, h3⟩ := (h.below ((Below.refl _ _).alloc (Nat.le_refl _) (.cells zeroC 60))).elems
  obtain ⟨b, o, rfl, hlt, hc⟩ := h3 0 x rfl
  rw [Nat.add_zero] at hc
  have HN : Hid (Calls Tryz.prog 96 #[str x] (w.alloc (.cells zeroC 60)) (OpPost (w.alloc (.cells zeroC 60)) (some (op, x, hs)))) := Lib.hid (by have := byName_any x _ (ho.below ((Below.refl _ _).alloc (Nat.le_refl _) (.cells zeroC 60))); rw [hb] at this; exact this)
  have hlen : (0 : Int) < ((x :: ws).length : Int) := by simp
  have hne : (((x :: ws).length : Int) == 1 + (hs.length : Int)) = false := by simp only [beq_eq_false_iff_ne]; omega
  unfold maxLen at h2
  generalize (x :: ws).length = n at *
  clear h h3 ho hb hl
  go_enter Tryz.func57, Tryz.ntmps57
  go_wp2_with (first
    | (go_at_call 96; refine HN.out.mono ?_; rintro e w1 ⟨rfl, hb1⟩; have s1 := hb1.size; rw [World.size_alloc] at s1; have k1 := Lib.hid (blk_below (blk_new w zeroC 60) hb1); have HB1 := Lib.hid hb1; clear hb1)
    | (refine wpList_putB rfl 60 _ _ rfl w.heap.size zeroC rfl rfl 60 _ (blk_alloc k1.out _) ins_info rfl zero_one ?_))
  refine bodyPost_ret (v := .tuple #[.agg zeroC, .bool false]) ?_ rfl ⟨rfl, ?_⟩
  · rw [res_cell1 (p := 2) (u := 3) rfl _ _ w.heap.size zeroC 60 _ rfl (putB_at (blk_alloc k1.out _) _ _) Tryz.underlying60 rfl ins_info]; rfl
  · have h1 := HB1.out
    rw [World.size_alloc] at h1
    exact ((((Below.refl _ _).alloc (Nat.le_refl _) _).trans (h1.mono (by omega))).alloc (by omega) _).trans (putB_below _ (Nat.le_refl _) _ _)


theorem fit_n {w : Bs} {n : Int} (h : numL w = (n, 0)) : fitL 78 w = true := by unfold fitL; rw [h]; rfl
theorem fit_err {c : UInt8} {w : Bs} {n : Int} {e : Nat} (h : numL w = (n, e)) (he : ¬ e = 0) : fitL c w = false := by unfold fitL; rw [h]; simp [he]
theorem fit_not {c : UInt8} {w : Bs} {n : Int} (hc : c ≠ 78) (h : numL w = (n, 0)) (hb : byteI n = false) : fitL c w = false := by
  unfold fitL; rw [h]
  unfold byteI at hb
  simp [hc] at hb ⊢
  omega
theorem fit_yes {c : UInt8} {w : Bs} {n : Int} (h : numL w = (n, 0)) (hb : byteI n = true) : fitL c w = true := by
  unfold fitL; rw [h]
  unfold byteI at hb
  simp at hb ⊢
  exact .inr hb
theorem byteI_bounds {n : Int} (hb : byteI n = true) : 0 ≤ n ∧ n ≤ 255 := by
  unfold byteI at hb
  simpa using hb
theorem instrL_cons {x : Bs} {ws : List Bs} {op : Int} {hs : Bs} (hb : byNameL x = some (op, x, hs)) (hl : ws.length = hs.length) : instrL (x :: ws) = readL hs ws ⟨op, 0, 0, 0, 0⟩ := by
  unfold instrL
  rw [List.headD_cons, hb]
  simp only [List.length_cons, List.tail_cons]
  rw [if_pos (by omega)]

set_option maxRecDepth 100000 in
set_option maxHeartbeats 4000000 in
theorem instr_some (v : Value) (x : Bs) (ws : List Bs) (w : World) (op : Int) (hs : Bs) (h : RowAt w v ((x :: ws).map str)) (hsh : ∀ y ∈ ws, y.length ≤ 3000) (ho : HasO w) (hE : HasE w) (hb : byNameL x = some (op, x, hs)) (hl : ws.length = hs.length) :
    Calls Tryz.prog 57 #[v] w (InstrPost w (readL hs ws ⟨op, 0, 0, 0, 0⟩)) := by
  have hwb : Below w.heap.size w (w.alloc (.cells zeroC 60)) := (Below.refl _ _).alloc (Nat.le_refl _) _
  have hel := h.elems
  obtain ⟨a, c, rfl, h1, h2, h3⟩ := hel
  obtain ⟨b, o, rfl, hlt, hc⟩ := h3 0 x rfl
  rw [Nat.add_zero] at hc
  have hcW : (w.alloc (.cells zeroC 60)).cell? ⟨b, o, none⟩ = some (str x) := by rw [(bcell hwb).1 b _ hlt]; exact hc
  have HN : Hid (Calls Tryz.prog 96 #[str x] (w.alloc (.cells zeroC 60)) (OpPost (w.alloc (.cells zeroC 60)) (some (op, x, hs)))) := Lib.hid (by have := byName_any x _ (ho.below hwb); rw [hb] at this; exact this)
  have H4 := Lib.hid (four_ops (byName_mem hb).1)
  have HC : Hid (∀ k y, ws[k]? = some y → ∀ W, Below w.heap.size w W → W.cell? ⟨b, o + (1 + k), none⟩ = some (str y)) := Lib.hid fun k y hk W hW => by
    rw [Nat.add_comm 1 k]
    obtain ⟨b', o', e, _, hc'⟩ := h3 (k + 1) y (by simpa using hk)
    simp at e
    obtain ⟨rfl, rfl⟩ := e
    rw [(bcell hW).1 b _ hlt]; exact hc'
  have HNUM : Hid (∀ y ∈ ws, ∀ W, Below w.heap.size w W → Calls Tryz.prog 97 #[str y] W (NumPost W (numL y))) := Lib.hid fun y hy W hW => number_any ⟨y.toArray⟩ W (hsh y hy) (hE.below hW)
  have hlen : ((x :: ws).length : Int) = 1 + (hs.length : Int) := by simp only [List.length_cons]; omega
  have hln : (x :: ws).length = hs.length + 1 := by simp only [List.length_cons]; omega
  have HL := Lib.hid hl
  unfold maxLen at h2
  rw [hln] at h1 hlen ⊢
  have hs3 : hs.length ≤ 3 := by
    obtain ⟨_, _, _, _, _, _, _, _, hh⟩ := ops_cases (byName_mem hb).1
    simp only [List.mem_cons, List.not_mem_nil, or_false] at hh
    rcases hh with hh | hh | hh | hh | hh | hh | hh <;> (rw [show hs = _ from hh]; decide)
  clear h h3 ho hE hb hc hln hl hsh hwb
  go_enter Tryz.func57, Tryz.ntmps57
  go_wp2_with (first
    | (go_at_call 96; refine HN.out.mono ?_; rintro e w1 ⟨rfl, hb1⟩; have s1 := hb1.size; rw [World.size_alloc] at s1; have k1 := Lib.hid (blk_below (blk_new w zeroC 60) hb1); have HB1 := Lib.hid hb1; clear hb1; have kop : (((w1.alloc (.cells (opCells (op, x, hs)).toArray 90)).alloc (.cells #[.int .i64 0, .int .i64 0, .int .i64 0, .int .i64 0] 94)).alloc placesO).cell? ⟨w1.heap.size, 2, none⟩ = some (str hs) := blk_cell (blk_alloc (blk_alloc (blk_new w1 (opCells (op, x, hs)).toArray 90) _) _) 2 _ rfl)
    | (go_at_call 46; refine (places_any _).mono ?_; rintro e w3 ⟨rfl, rfl⟩))
  have HS := Lib.hid (show IAt w w1.heap.size (op, x, hs) hs ⟨op, 0, 0, 0, 0⟩ 0 ((((w1.alloc (.cells (opCells (op, x, hs)).toArray 90)).alloc (.cells #[.int .i64 0, .int .i64 0, .int .i64 0, .int .i64 0] 94)).alloc placesO).iter ⟨hs.toArray⟩ 0) from
    ⟨blk_alloc (blk_alloc (blk_alloc (blk_alloc k1.out _) _) _) _, blk_alloc (blk_alloc (blk_alloc (blk_new _ _ _) _) _) _, by
      have h1 := blk_new (w1.alloc (.cells (opCells (op, x, hs)).toArray 90)) #[.int .i64 0, .int .i64 0, .int .i64 0, .int .i64 0] 94
      rw [World.size_alloc] at h1
      exact blk_alloc (blk_alloc h1 _) _, by
      have h1 := heap_alloc_new ((w1.alloc (.cells (opCells (op, x, hs)).toArray 90)).alloc (.cells #[.int .i64 0, .int .i64 0, .int .i64 0, .int .i64 0] 94)) placesO
      rw [World.size_alloc, World.size_alloc] at h1
      show (World.alloc _ _).heap[_]? = _
      rw [Below.heap_alloc _ _ _ (by simp)]; exact h1, by
      have h1 := heap_alloc_new (((w1.alloc (.cells (opCells (op, x, hs)).toArray 90)).alloc (.cells #[.int .i64 0, .int .i64 0, .int .i64 0, .int .i64 0] 94)).alloc placesO) (.stringIter ⟨hs.toArray⟩ 0)
      rw [World.size_alloc, World.size_alloc, World.size_alloc] at h1
      exact h1, by
      have h1 := HB1.out
      rw [World.size_alloc] at h1
      exact ((((((Below.refl _ _).alloc (Nat.le_refl _) _).trans (h1.mono (by omega))).alloc (by omega) _).alloc (by simp; omega) _).alloc (by simp; omega) _).alloc (by simp; omega) _, by omega⟩)
  clear kop k1 HB1 hcW
  generalize hT : w1.heap.size = T at *
  clear hT
  go_loopw [] (fun wr => ∃ (k : Nat) (j : PIns), k ≤ hs.length ∧ IAt w T (op, x, hs) hs j k wr ∧ Hid (readTo hs ws ⟨op, 0, 0, 0, 0⟩ k = some j) ∧ OkJ j) (fun wr => hs.length - wr.iterPos (T + 3))
  case atStart => exact ⟨0, _, by omega, HS.out, Lib.hid rfl, by constructor <;> simp⟩
  case round =>
    obtain ⟨k, j, hk, hat, hrd, hoj⟩ := hrel
    clear HS
    by_cases hlt : k < hs.length
    · obtain ⟨c, hc⟩ : ∃ c, hs[k]? = some c := ⟨_, List.getElem?_eq_getElem hlt⟩
      obtain ⟨y, hy⟩ : ∃ y, ws[k]? = some y := ⟨_, List.getElem?_eq_getElem (by rw [HL.out]; exact hlt)⟩
      have HNEXT := Lib.hid (fun h => readTo_next HL.out.symm hrd.out hc hy h)
      have HBAD := Lib.hid (fun h => readTo_bad HL.out.symm hrd.out hc hy h)
      have h4 := H4.out c (List.mem_of_getElem? hc)
      have hnx := fun (h : c.toNat < 128) ty => next_l _ (T + 3) hs k c ty hat.i hc h
      have HS2 := Lib.hid hat.next
      have HP := Lib.hid hat.pos
      have hcell := HC.out k y hy _ HS2.out.b
      have HNM := HNUM.out y (List.mem_of_getElem? hy) _ HS2.out.b
      rcases hnl : numL y with ⟨n, en⟩
      rw [hnl] at HNM HNEXT
      have HNL := Lib.hid hnl
      clear hnl hat hrd hc hy
      generalize putO _ (T + 3) (.stringIter ⟨hs.toArray⟩ (k + 1)) = W at *
      rcases h4 with rfl | rfl | rfl | rfl
      · have hnx := hnx (by decide)
        by_cases he : en = 0
        · subst he
          rcases hby : byteI n with _ | _
          · have hfit := Lib.hid (fit_not (c := 65) (by decide) HNL.out hby)
            have HBY := Lib.hid hby
            clear hby
            go_wp2_with (first
              | (go_at_call 97; refine HNM.mono ?_; rintro e W1 ⟨rfl, hb1⟩; have HB1 := Lib.hid hb1; clear hb1)
              | (go_at_call 98; refine (isByte_b n false _ HBY.out).mono ?_; rintro e w' ⟨rfl, rfl⟩)
              | (refine wpList_putB rfl 60 _ _ rfl w.heap.size zeroC rfl rfl 60 _ (HS2.out.below HB1.out).r ins_info rfl zero_one ?_))
            refine bodyPost_ret (v := .tuple #[.agg zeroC, .bool false]) ?_ rfl ⟨?_, ?_⟩
            · rw [res_cell1 (p := 2) (u := 3) rfl _ _ w.heap.size zeroC 60 _ rfl (putB_at (HS2.out.below HB1.out).r _ _) Tryz.underlying60 rfl ins_info]; rfl
            · rw [HBAD.out hfit.out]
            · exact (HS2.out.below HB1.out).b.trans (putB_below _ (Nat.le_refl _) _ _)
          · have hfit := Lib.hid (fit_yes (c := 65) HNL.out hby)
            have HBY := Lib.hid hby
            have hbb := byteI_bounds hby
            have HBB := Lib.hid hbb
            clear hby hbb
            have HNX := Lib.hid (HNEXT.out hfit.out)
            have hst2 := fun W1 (hb : Below W.heap.size W W1) => (HS2.out.below hb)
            go_wp2_with (first
              | (go_at_call 97; refine HNM.mono ?_; rintro e W1 ⟨rfl, hb1⟩; have hs3 := hst2 W1 hb1; have hm := met_a hs3.n hs3.m; obtain ⟨vv, hv⟩ := hm.cell; have hfz := hm.frz; have hlk := hm.look; have HS3 := Lib.hid hs3; clear hm hs3 hb1 hst2)
              | (go_at_call 98; refine (isByte_b n true _ HBY.out).mono ?_; rintro e w' ⟨rfl, rfl⟩))
            have HEND := Lib.hid (show IAt w T (op, x, hs) hs (setL j 65 n) (k + 1) (W1.setCell ⟨T + 1, 0, none⟩ (.int .i64 n)) from by
              rw [setCell_putB HS3.out.n]; exact HS3.out.put (setL j 65 n))
            go_roundw
            case rel => exact ⟨k + 1, setL j 65 n, by omega, HEND.out, HNX.out, okJ_a hoj HBB.out.1 HBB.out.2⟩
            case measure => rw [HEND.out.pos, HP.out]; omega
        · have hfit := Lib.hid (fit_err (c := 65) HNL.out he)
          have hen : (((en : Nat) : Int) == 0) = false := by simp [he]
          have hen2 : (((en : Nat) : Int) != 0) = true := by simp [he]
          clear he
          go_wp2_with (first
            | (go_at_call 97; refine HNM.mono ?_; rintro e W1 ⟨rfl, hb1⟩; have HB1 := Lib.hid hb1; clear hb1)
            | (refine wpList_putB rfl 60 _ _ rfl w.heap.size zeroC rfl rfl 60 _ (HS2.out.below HB1.out).r ins_info rfl zero_one ?_))
          refine bodyPost_ret (v := .tuple #[.agg zeroC, .bool false]) ?_ rfl ⟨?_, ?_⟩
          · rw [res_cell1 (p := 2) (u := 3) rfl _ _ w.heap.size zeroC 60 _ rfl (putB_at (HS2.out.below HB1.out).r _ _) Tryz.underlying60 rfl ins_info]; rfl
          · rw [HBAD.out hfit.out]
          · exact (HS2.out.below HB1.out).b.trans (putB_below _ (Nat.le_refl _) _ _)
      · have hnx := hnx (by decide)
        by_cases he : en = 0
        · subst he
          rcases hby : byteI n with _ | _
          · have hfit := Lib.hid (fit_not (c := 66) (by decide) HNL.out hby)
            have HBY := Lib.hid hby
            clear hby
            go_wp2_with (first
              | (go_at_call 97; refine HNM.mono ?_; rintro e W1 ⟨rfl, hb1⟩; have HB1 := Lib.hid hb1; clear hb1)
              | (go_at_call 98; refine (isByte_b n false _ HBY.out).mono ?_; rintro e w' ⟨rfl, rfl⟩)
              | (refine wpList_putB rfl 60 _ _ rfl w.heap.size zeroC rfl rfl 60 _ (HS2.out.below HB1.out).r ins_info rfl zero_one ?_))
            refine bodyPost_ret (v := .tuple #[.agg zeroC, .bool false]) ?_ rfl ⟨?_, ?_⟩
            · rw [res_cell1 (p := 2) (u := 3) rfl _ _ w.heap.size zeroC 60 _ rfl (putB_at (HS2.out.below HB1.out).r _ _) Tryz.underlying60 rfl ins_info]; rfl
            · rw [HBAD.out hfit.out]
            · exact (HS2.out.below HB1.out).b.trans (putB_below _ (Nat.le_refl _) _ _)
          · have hfit := Lib.hid (fit_yes (c := 66) HNL.out hby)
            have HBY := Lib.hid hby
            have hbb := byteI_bounds hby
            have HBB := Lib.hid hbb
            clear hby hbb
            have HNX := Lib.hid (HNEXT.out hfit.out)
            have hst2 := fun W1 (hb : Below W.heap.size W W1) => (HS2.out.below hb)
            go_wp2_with (first
              | (go_at_call 97; refine HNM.mono ?_; rintro e W1 ⟨rfl, hb1⟩; have hs3 := hst2 W1 hb1; have hm := met_b hs3.n hs3.m; obtain ⟨vv, hv⟩ := hm.cell; have hfz := hm.frz; have hlk := hm.look; have HS3 := Lib.hid hs3; clear hm hs3 hb1 hst2)
              | (go_at_call 98; refine (isByte_b n true _ HBY.out).mono ?_; rintro e w' ⟨rfl, rfl⟩))
            have HEND := Lib.hid (show IAt w T (op, x, hs) hs (setL j 66 n) (k + 1) (W1.setCell ⟨T + 1, 1, none⟩ (.int .i64 n)) from by
              rw [setCell_putB HS3.out.n]; exact HS3.out.put (setL j 66 n))
            go_roundw
            case rel => exact ⟨k + 1, setL j 66 n, by omega, HEND.out, HNX.out, okJ_b hoj HBB.out.1 HBB.out.2⟩
            case measure => rw [HEND.out.pos, HP.out]; omega
        · have hfit := Lib.hid (fit_err (c := 66) HNL.out he)
          have hen : (((en : Nat) : Int) == 0) = false := by simp [he]
          have hen2 : (((en : Nat) : Int) != 0) = true := by simp [he]
          clear he
          go_wp2_with (first
            | (go_at_call 97; refine HNM.mono ?_; rintro e W1 ⟨rfl, hb1⟩; have HB1 := Lib.hid hb1; clear hb1)
            | (refine wpList_putB rfl 60 _ _ rfl w.heap.size zeroC rfl rfl 60 _ (HS2.out.below HB1.out).r ins_info rfl zero_one ?_))
          refine bodyPost_ret (v := .tuple #[.agg zeroC, .bool false]) ?_ rfl ⟨?_, ?_⟩
          · rw [res_cell1 (p := 2) (u := 3) rfl _ _ w.heap.size zeroC 60 _ rfl (putB_at (HS2.out.below HB1.out).r _ _) Tryz.underlying60 rfl ins_info]; rfl
          · rw [HBAD.out hfit.out]
          · exact (HS2.out.below HB1.out).b.trans (putB_below _ (Nat.le_refl _) _ _)
      · have hnx := hnx (by decide)
        by_cases he : en = 0
        · subst he
          rcases hby : byteI n with _ | _
          · have hfit := Lib.hid (fit_not (c := 67) (by decide) HNL.out hby)
            have HBY := Lib.hid hby
            clear hby
            go_wp2_with (first
              | (go_at_call 97; refine HNM.mono ?_; rintro e W1 ⟨rfl, hb1⟩; have HB1 := Lib.hid hb1; clear hb1)
              | (go_at_call 98; refine (isByte_b n false _ HBY.out).mono ?_; rintro e w' ⟨rfl, rfl⟩)
              | (refine wpList_putB rfl 60 _ _ rfl w.heap.size zeroC rfl rfl 60 _ (HS2.out.below HB1.out).r ins_info rfl zero_one ?_))
            refine bodyPost_ret (v := .tuple #[.agg zeroC, .bool false]) ?_ rfl ⟨?_, ?_⟩
            · rw [res_cell1 (p := 2) (u := 3) rfl _ _ w.heap.size zeroC 60 _ rfl (putB_at (HS2.out.below HB1.out).r _ _) Tryz.underlying60 rfl ins_info]; rfl
            · rw [HBAD.out hfit.out]
            · exact (HS2.out.below HB1.out).b.trans (putB_below _ (Nat.le_refl _) _ _)
          · have hfit := Lib.hid (fit_yes (c := 67) HNL.out hby)
            have HBY := Lib.hid hby
            have hbb := byteI_bounds hby
            have HBB := Lib.hid hbb
            clear hby hbb
            have HNX := Lib.hid (HNEXT.out hfit.out)
            have hst2 := fun W1 (hb : Below W.heap.size W W1) => (HS2.out.below hb)
            go_wp2_with (first
              | (go_at_call 97; refine HNM.mono ?_; rintro e W1 ⟨rfl, hb1⟩; have hs3 := hst2 W1 hb1; have hm := met_c hs3.n hs3.m; obtain ⟨vv, hv⟩ := hm.cell; have hfz := hm.frz; have hlk := hm.look; have HS3 := Lib.hid hs3; clear hm hs3 hb1 hst2)
              | (go_at_call 98; refine (isByte_b n true _ HBY.out).mono ?_; rintro e w' ⟨rfl, rfl⟩))
            have HEND := Lib.hid (show IAt w T (op, x, hs) hs (setL j 67 n) (k + 1) (W1.setCell ⟨T + 1, 2, none⟩ (.int .i64 n)) from by
              rw [setCell_putB HS3.out.n]; exact HS3.out.put (setL j 67 n))
            go_roundw
            case rel => exact ⟨k + 1, setL j 67 n, by omega, HEND.out, HNX.out, okJ_c hoj HBB.out.1 HBB.out.2⟩
            case measure => rw [HEND.out.pos, HP.out]; omega
        · have hfit := Lib.hid (fit_err (c := 67) HNL.out he)
          have hen : (((en : Nat) : Int) == 0) = false := by simp [he]
          have hen2 : (((en : Nat) : Int) != 0) = true := by simp [he]
          clear he
          go_wp2_with (first
            | (go_at_call 97; refine HNM.mono ?_; rintro e W1 ⟨rfl, hb1⟩; have HB1 := Lib.hid hb1; clear hb1)
            | (refine wpList_putB rfl 60 _ _ rfl w.heap.size zeroC rfl rfl 60 _ (HS2.out.below HB1.out).r ins_info rfl zero_one ?_))
          refine bodyPost_ret (v := .tuple #[.agg zeroC, .bool false]) ?_ rfl ⟨?_, ?_⟩
          · rw [res_cell1 (p := 2) (u := 3) rfl _ _ w.heap.size zeroC 60 _ rfl (putB_at (HS2.out.below HB1.out).r _ _) Tryz.underlying60 rfl ins_info]; rfl
          · rw [HBAD.out hfit.out]
          · exact (HS2.out.below HB1.out).b.trans (putB_below _ (Nat.le_refl _) _ _)
      · have hnx := hnx (by decide)
        by_cases he : en = 0
        · subst he
          have hfit := Lib.hid (fit_n HNL.out)
          have HNX := Lib.hid (HNEXT.out hfit.out)
          have hst2 := fun W1 (hb : Below W.heap.size W W1) => (HS2.out.below hb)
          go_wp2_with (first
            | (go_at_call 97; refine HNM.mono ?_; rintro e W1 ⟨rfl, hb1⟩; have hs3 := hst2 W1 hb1; have hm := met_n hs3.n hs3.m; obtain ⟨vv, hv⟩ := hm.cell; have hfz := hm.frz; have hlk := hm.look; have HS3 := Lib.hid hs3; clear hm hs3 hb1 hst2))
          have HEND := Lib.hid (show IAt w T (op, x, hs) hs (setL j 78 n) (k + 1) (W1.setCell ⟨T + 1, 3, none⟩ (.int .i64 n)) from by
            rw [setCell_putB HS3.out.n]; exact HS3.out.put (setL j 78 n))
          go_roundw
          case rel => exact ⟨k + 1, setL j 78 n, by omega, HEND.out, HNX.out, okJ_n hoj⟩
          case measure => rw [HEND.out.pos, HP.out]; omega
        · have hfit := Lib.hid (fit_err (c := 78) HNL.out he)
          have hen : (((en : Nat) : Int) == 0) = false := by simp [he]
          have hen2 : (((en : Nat) : Int) != 0) = true := by simp [he]
          clear he
          go_wp2_with (first
            | (go_at_call 97; refine HNM.mono ?_; rintro e W1 ⟨rfl, hb1⟩; have HB1 := Lib.hid hb1; clear hb1)
            | (refine wpList_putB rfl 60 _ _ rfl w.heap.size zeroC rfl rfl 60 _ (HS2.out.below HB1.out).r ins_info rfl zero_one ?_))
          refine bodyPost_ret (v := .tuple #[.agg zeroC, .bool false]) ?_ rfl ⟨?_, ?_⟩
          · rw [res_cell1 (p := 2) (u := 3) rfl _ _ w.heap.size zeroC 60 _ rfl (putB_at (HS2.out.below HB1.out).r _ _) Tryz.underlying60 rfl ins_info]; rfl
          · rw [HBAD.out hfit.out]
          · exact (HS2.out.below HB1.out).b.trans (putB_below _ (Nat.le_refl _) _ _)
    · obtain rfl : k = hs.length := by omega
      have hnx := fun ty => next_end _ (T + 3) hs ty hat.i
      rw [readTo_all HL.out.symm] at hrd
      have hop := readTo_op hrd.out
      obtain ⟨jo, ja, jb, jc, jn⟩ := j
      obtain ⟨a0, a1, b0, b1, c0, c1⟩ := hoj
      simp only at *
      subst hop
      have HAT := Lib.hid hat
      have v0 := blk_cell hat.o 0 _ rfl
      have n0 := blk_cell hat.n 0 _ rfl
      have n1 := blk_cell hat.n 1 _ rfl
      have n2 := blk_cell hat.n 2 _ rfl
      have n3 := blk_cell hat.n 3 _ rfl
      clear hat
      go_wp2_with (refine wpList_putB rfl 60 _ _ rfl w.heap.size (insC ⟨jo, ja, jb, jc, jn⟩) rfl rfl 60 _ HAT.out.r ins_info rfl (ins_one _) ?_)
      refine bodyPost_ret (v := .tuple #[.agg (insC ⟨jo, ja, jb, jc, jn⟩), .bool true]) ?_ rfl ⟨?_, ?_⟩
      · rw [res_cell1 (p := 2) (u := 3) rfl _ _ w.heap.size (insC ⟨jo, ja, jb, jc, jn⟩) 60 _ rfl (putB_at HAT.out.r _ _) Tryz.underlying60 rfl ins_info]; rfl
      · rw [hrd.out]
      · exact HAT.out.b.trans (putB_below _ (Nat.le_refl _) _ _)

theorem instr_any (v : Value) (ws : List Bs) (w : World) (h : RowAt w v (ws.map str)) (hne : ws ≠ []) (hsh : ∀ y ∈ ws, y.length ≤ 3000) (ho : HasO w) (hE : HasE w) : Calls Tryz.prog 57 #[v] w (InstrPost w (instrL ws)) := by
  rcases ws with _ | ⟨x, ws⟩
  · exact absurd rfl hne
  · rcases hb : byNameL x with _ | ⟨op, nm, hs⟩
    · have e : instrL (x :: ws) = none := by unfold instrL; rw [List.headD_cons, hb]
      rw [e]; exact instr_none v x ws w h ho hb
    · obtain rfl : nm = x := (byName_mem hb).2
      by_cases hl : ws.length = hs.length
      · rw [instrL_cons hb hl]
        exact instr_some v nm ws w op hs h (fun y hy => hsh y (by simp [hy])) ho hE hb hl
      · have e : instrL (nm :: ws) = none := by
          unfold instrL
          rw [List.headD_cons, hb]
          simp only [List.length_cons]
          rw [if_neg (by omega)]
        rw [e]
        have hs3 : hs.length ≤ 3 := by
          obtain ⟨_, _, _, _, _, _, _, _, hh⟩ := ops_cases (byName_mem hb).1
          simp only [List.mem_cons, List.not_mem_nil, or_false] at hh
          rcases hh with hh | hh | hh | hh | hh | hh | hh <;> (rw [show hs = _ from hh]; decide)
        exact instr_len v nm ws w op hs h ho hb (by simp only [List.length_cons]; omega) hs3
end Go.Proofs.YtcjhgibhenocpaaGreatDoor
