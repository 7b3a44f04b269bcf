/-
  The contract of Join: lines of words as a text.
-/
import Derived.Test.YtgmpggjikebcdaaGreatDoorWSame
namespace Go.Proofs.YtgmpggjikebcdaaGreatDoor
open Go.RowKit

/-- The text of the first k lines. -/
def joinTo (xss : List (List Bs)) (k : Nat) : Bs := joinL (xss.take k)
theorem joinTo_next {xss : List (List Bs)} {k : Nat} {x : List Bs} (h : xss[k]? = some x) : joinTo xss (k + 1) = joinTo xss k ++ Lib.join x [32] ++ [10] := by
  obtain ⟨hlt, rfl⟩ := List.getElem?_eq_some_iff.1 h
  unfold joinTo joinL
  rw [List.take_succ_eq_append_getElem hlt, List.map_append, List.flatten_append]
  simp
theorem joinTo_le {xss : List (List Bs)} {k : Nat} : (joinTo xss k).length ≤ (joinL xss).length := by
  have e : joinL xss = joinTo xss k ++ joinL (xss.drop k) := by
    unfold joinTo joinL
    rw [← List.flatten_append, ← List.map_append, List.take_append_drop]
  rw [e]; simp
theorem joinTo_all (xss : List (List Bs)) : joinTo xss xss.length = joinL xss := by unfold joinTo; rw [List.take_length]

/-- What one line's words come to. -/
def StrPost (w : World) (l : Bs) (e : Ending) (w' : World) : Prop := e = .returned (str l) ∧ Below w.heap.size w w'
theorem join_line (a : Option Addr) (c : Nat) (x : List Bs) (w : World) (h : RowAt w (.slice a x.length c) (x.map str)) (hl : (Lib.join x [32]).length ≤ 140737488355328) (hN : x.length ≤ 140737488355328) :
    Calls Tryz.prog 35 #[.slice a x.length c, .string ⟨#[32]⟩] w (StrPost w (Lib.join x [32])) := by
  obtain ⟨a', c', e, h1, h2, h3⟩ := h.cases
  simp only [Value.slice.injEq] at e
  obtain ⟨rfl, _, rfl⟩ := e
  rcases h3 with rfl | ⟨b, o, rfl, hb, hc⟩
  · refine (Tryz.strings_Join_none a c ⟨#[32]⟩ w).mono ?_
    rintro e w' ⟨rfl, rfl⟩
    exact ⟨rfl, Below.refl _ _⟩
  · have hm : (x.map fun l => (⟨l.toArray⟩ : ByteArray)).map (·.data.toList) = x := by rw [List.map_map]; exact List.map_id _
    have := Tryz.strings_Join b o c (x.map fun l => (⟨l.toArray⟩ : ByteArray)) ⟨#[32]⟩ w (by
      intro j y hy
      rw [List.getElem?_map] at hy
      obtain ⟨z, hz, rfl⟩ := Option.map_eq_some_iff.1 hy
      exact hc j z hz) hb (by rw [List.length_map]; exact hN) (by rw [List.length_map]; exact h1) (by rw [hm]; exact hl)
    rw [List.length_map, hm] at this
    exact this.mono fun e w' ⟨h1, h2⟩ => ⟨h1, h2⟩

/-- The loop's relation: the Builder holds the text so far. -/
def JRel (w : World) (l : Bs) (wr : World) : Prop := Lib.IsBuilder 72 5 w.heap.size w.heap.size (Lib.byteCells l) wr ∧ Below w.heap.size w wr ∧ w.heap.size + 1 ≤ wr.heap.size

theorem jrel_start (w : World) : JRel w [] (w.alloc (.cells #[.pointer none, .slice none 0 0] 72)) := by
  refine ⟨.inl ⟨Nat.le_refl _, .slice none 0 0, heap_alloc_new w _, World.ownsRow_nil _ _ _ _, by simp [Value.ownBlock]⟩, (Below.refl _ _).alloc (Nat.le_refl _) _, by simp⟩
theorem byteCells_append (a b : Bs) : Lib.byteCells (a ++ b) = Lib.byteCells a ++ Lib.byteCells b := by simp [Lib.byteCells]
theorem builder_below {T e : TypeId} {B b : Nat} {bs : List Value} {w w' : World} (h : Lib.IsBuilder T e B b bs w) (hb : Below w.heap.size w w') : Lib.IsBuilder T e B b bs w' := by
  refine h.imp ?_ ?_ <;>
  · rintro ⟨h1, v, h2, h3, h4⟩
    exact ⟨h1, v, by rw [hb.block b (Array.getElem?_eq_some_iff.1 h2).1]; exact h2, own_below h3 hb, h4⟩
theorem JRel.below {w wr w' : World} {l : Bs} (h : JRel w l wr) (hb : Below wr.heap.size wr w') : JRel w l w' :=
  ⟨builder_below h.1 hb, h.2.1.trans (hb.mono h.2.1.size), Nat.le_trans h.2.2 hb.size⟩
def JPost (w : World) (l : Bs) (v : Value) (e : Ending) (w' : World) : Prop := e = .returned v ∧ JRel w l w'
theorem write_line (w wr : World) (l x : Bs) (h : JRel w l wr) (hl : l.length + x.length ≤ 140737488355328) :
    Calls Tryz.prog 34 #[.pointer (some ⟨w.heap.size, 0, none⟩), str x] wr (JPost w (l ++ x) (.tuple #[.int .i64 x.length, .nilIface])) := by
  refine (Tryz.Builder_WriteString w.heap.size w.heap.size _ ⟨x.toArray⟩ wr h.1 (by rw [Lib.byteCells_length, bs_size]; exact hl) h.2.1.size).mono ?_
  rintro e w' ⟨rfl, h1, h2⟩
  refine ⟨rfl, .inr ?_, h.2.1.trans h2, Nat.le_trans h.2.2 h2.size⟩
  rw [byteCells_append]; exact h1
theorem write_end (w wr : World) (l : Bs) (h : JRel w l wr) (hl : l.length + 1 ≤ 140737488355328) :
    Calls Tryz.prog 36 #[.pointer (some ⟨w.heap.size, 0, none⟩), .int .u8 10] wr (JPost w (l ++ [10]) .nilIface) := by
  refine (Tryz.Builder_WriteByte w.heap.size w.heap.size _ 10 wr h.1 (by rw [Lib.byteCells_length]; exact hl) h.2.1.size).mono ?_
  rintro e w' ⟨rfl, h1, h2⟩
  refine ⟨rfl, .inr ?_, h.2.1.trans h2, Nat.le_trans h.2.2 h2.size⟩
  rw [byteCells_append]; exact h1
theorem build_end (w wr : World) (l : Bs) (h : JRel w l wr) : Calls Tryz.prog 37 #[.pointer (some ⟨w.heap.size, 0, none⟩)] wr (fun e w' => e = .returned (str l) ∧ Below w.heap.size w w') := by
  refine (Tryz.Builder_String_any w.heap.size w.heap.size l wr h.1 h.2.1.size).mono ?_
  rintro e w' ⟨rfl, h1⟩
  exact ⟨rfl, h.2.1.trans h1⟩

set_option maxRecDepth 100000 in
set_option maxHeartbeats 4000000 in
theorem join_any (v : Value) (xss : List (List Bs)) (w : World) (h : GridAt w v xss) (hl : (joinL xss).length ≤ 140737488355328) (hn : ∀ x ∈ xss, x.length ≤ 140737488355328) : Calls Tryz.prog 17 #[v] w (StrPost w (joinL xss)) := by
  obtain ⟨a, c, rfl, h1, h2, h3⟩ := h.cases
  clear h
  rcases h3 with rfl | ⟨b, o, rfl, hb, hc⟩
  · have HS := jrel_start w
    go_enter Tryz.func17, Tryz.ntmps17
    go_wp2
    go_loop [8] (fun i => i = .int .i64 0) (fun _ => 0)
    case atStart => rfl
    case round =>
      subst hrel
      go_wp2_with (go_at_call 37; refine (build_end w _ [] HS).mono ?_; rintro e w' ⟨rfl, hb⟩)
      go_ret
      exact ⟨rfl, hb⟩
  · have HC := Lib.hid hc
    have HS := jrel_start w
    have HL := Lib.hid hl
    have HN := Lib.hid hn
    clear hc hl hn
    go_enter Tryz.func17, Tryz.ntmps17
    go_wp2
    go_loopw [8] (fun i wr => ∃ k : Nat, k ≤ xss.length ∧ i = .int .i64 k ∧ JRel w (joinTo xss k) wr) (fun i _ => xss.length - (intOf i).toNat)
    case atStart => exact ⟨0, Nat.zero_le _, rfl, HS⟩
    case round =>
      clear HS
      obtain ⟨k, hk, rfl, hr⟩ := hrel
      by_cases hlt : k < xss.length
      · have hx : xss[k]? = some xss[k] := List.getElem?_eq_getElem hlt
        have hxn := HN.out _ (List.getElem_mem hlt)
        obtain ⟨a', c', e1, g1, g2, g3⟩ := HC.out k _ hx
        have hj := joinTo_next hx
        have hjl : (joinTo xss (k + 1)).length ≤ 140737488355328 := Nat.le_trans joinTo_le HL.out
        rw [(bcell hr.2.1).1 b _ hb |>.symm] at e1
        generalize xss[k] = x at *
        rw [hj] at hjl
        simp only [List.length_append, List.length_singleton] at hjl
        have HJ := Lib.hid hj
        clear hj hx
        have hrow : RowAt wr (.slice a' x.length c') (x.map str) := by
          refine RowAt.below (w := w) ?_ hr.2.1
          refine ⟨a', c', by rw [List.length_map], by rw [List.length_map]; exact g1, by unfold maxLen; omega, ?_⟩
          rcases g3 with rfl | ⟨b', o', rfl, hb', hc'⟩
          · exact .inl rfl
          · refine .inr ⟨b', o', rfl, hb', fun j y hy => ?_⟩
            rw [List.getElem?_map] at hy
            obtain ⟨z, hz, rfl⟩ := Option.map_eq_some_iff.1 hy
            exact hc' j z hz
        clear g3
        have HJL := join_line a' c' x wr hrow (by omega) hxn
        generalize joinTo xss k = t at *
        generalize Lib.join x [32] = y at *
        go_wp2_with (first | (go_at_call 35; refine HJL.mono ?_; rintro e w1 ⟨rfl, hb1⟩; have hr1 := hr.below hb1) | (go_at_call 34; refine (write_line w w1 t y hr1 (by omega)).mono ?_; rintro e w2 ⟨rfl, hr2⟩) | (go_at_call 36; refine (write_end w w2 (t ++ y) hr2 (by simp; omega)).mono ?_; rintro e w3 ⟨rfl, hr3⟩))
        go_roundw
        case rel => exact ⟨k + 1, by omega, by go_num, by rw [HJ.out]; exact hr3⟩
        case measure => simp [intOf]; omega
      · obtain rfl : k = xss.length := by omega
        have HJ := Lib.hid (joinTo_all xss)
        generalize joinTo xss xss.length = t at *
        go_wp2_with (go_at_call 37; refine (build_end w _ t hr).mono ?_; rintro e w' ⟨rfl, hb⟩)
        go_ret
        exact ⟨congrArg (fun l : Bs => Ending.returned (str l)) HJ.out, hb⟩
end Go.Proofs.YtgmpggjikebcdaaGreatDoor
