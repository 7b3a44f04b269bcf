/-
  The contract of Lines: the words of the lines of a text, in rows of their own, or the line of the first error.
  The contract of Same, of two lists that are the same.
  The contract of Join: lines of words as a text.
  Number; the document's digits and Number.
-/
import Derived.Test.YtcjhgibhenocpaaGreatDoorUAE
import Derived.BigQuiet
import Derived.Test.YtcjhgibhenocpaaGreatDoorUAB
import Derived.Test.YtcjhgibhenocpaaGreatDoorUAF
import Derived.Stop.LaidErr
import Derived.Lib.LaidTab
import Derived.Lib.AppendIntMem
import Derived.WalkSpells

/- The contract of Lines: the words of the lines of a text, in rows of their own, or the line of the first error. -/
namespace Go.Proofs.YtcjhgibhenocpaaGreatDoor
set_option linter.unusedSimpArgs false
set_option linter.unusedVariables false
open Go.RowKit

/-- Lists of texts in rows of the call's own. -/
def Grid (w : World) (B : Nat) (v : Value) (xss : List (List Bs)) : Prop :=
  ∃ vs : List Value, vs.length = xss.length ∧ w.ownsRow B 22 1 v xss.length vs ∧ ∀ (i : Nat) (u : Value) (x : List Bs), vs[i]? = some u → xss[i]? = some x → w.ownsRow B 9 1 u x.length (x.map str)

theorem Grid.below {w w' : World} {B : Nat} {v : Value} {xss : List (List Bs)} (h : Grid w B v xss) (hb : Below w.heap.size w w') : Grid w' B v xss := by
  obtain ⟨vs, h1, h2, h3⟩ := h
  exact ⟨vs, h1, own_below h2 hb, fun i u x hu hx => own_below (h3 i u x hu hx) hb⟩
theorem Grid.le {w : World} {B B' : Nat} {v : Value} {xss : List (List Bs)} (h : Grid w B v xss) (hb : B' ≤ B) : Grid w B' v xss := by
  obtain ⟨vs, h1, h2, h3⟩ := h
  exact ⟨vs, h1, ownsRow_le h2 hb, fun i u x hu hx => ownsRow_le (h3 i u x hu hx) hb⟩
theorem grid_nil (w : World) (B : Nat) : Grid w B (.slice none 0 0) [] := ⟨[], rfl, World.ownsRow_nil _ _ _ _, fun i u x hu _ => by simp at hu⟩

/-- The block of a row of texts is no block of a row of such rows. -/
theorem own_apart {w : World} {B B' n m : Nat} {u v : Value} {xs ys : List Value} (hu : w.ownsRow B 9 1 u n xs) (hv : w.ownsRow B' 22 1 v m ys) : u.ownBlock = none ∨ u.ownBlock ≠ v.ownBlock := by
  rcases hu.2 with ⟨rfl, _⟩ | ⟨g, cap, cur, rfl, _, hg, _⟩
  · exact .inl rfl
  · rcases hv.2 with ⟨rfl, _⟩ | ⟨g', cap', cur', rfl, _, hg', _⟩
    · right; simp [Value.ownBlock]
    · right
      intro h
      simp [Value.ownBlock] at h
      subst h
      rw [hg] at hg'
      simp at hg'

theorem Grid.push {w w' : World} {B : Nat} {u v v' : Value} {xss : List (List Bs)} {x : List Bs} {vs : List Value} {o : Obj}
    (h1 : vs.length = xss.length) (h2 : w.ownsRow B 22 1 v xss.length vs) (h3 : ∀ (i : Nat) (u : Value) (x : List Bs), vs[i]? = some u → xss[i]? = some x → w.ownsRow B 9 1 u x.length (x.map str))
    (hu : w.ownsRow B 9 1 u x.length (x.map str)) (ho : w'.ownsRow B 22 1 v' (xss.length + 1) (vs ++ [u])) (hg : (w.alloc o).grownBy w' v.ownBlock) : Grid w' B v' (xss ++ [x]) := by
  refine ⟨vs ++ [u], by simp [h1], by simpa using ho, ?_⟩
  intro i a y ha hy
  have key : ∀ a y, w.ownsRow B 9 1 a (List.length y) (List.map str y) → w'.ownsRow B 9 1 a y.length (y.map str) := fun a y hay =>
    (hay.alloc o).kept hg (own_apart (hay.alloc o) (h2.alloc o))
  by_cases hi : i < vs.length
  · rw [List.getElem?_append_left hi] at ha
    rw [List.getElem?_append_left (by omega)] at hy
    exact key a y (h3 i a y ha hy)
  · rw [List.getElem?_append_right (by omega)] at ha
    rw [List.getElem?_append_right (by omega)] at hy
    have e0 : i - vs.length = 0 := by have := (List.getElem?_eq_some_iff.1 ha).1; simp at this; omega
    rw [e0] at ha
    rw [show i - xss.length = 0 by omega] at hy
    simp at ha hy
    subst ha; subst hy
    exact key _ _ hu

theorem goodL_keep {ls : List Bs} {k : Nat} {l : Bs} (h : ls[k]? = some l) (hp : wordsL l ≠ []) : goodL (ls.take (k + 1)) = goodL (ls.take k) ++ [wordsL l] := by
  obtain ⟨hlt, rfl⟩ := List.getElem?_eq_some_iff.1 h
  unfold goodL
  rw [List.take_succ_eq_append_getElem hlt, List.map_append, List.filter_append]
  congr 1
  simp [hp]
theorem goodL_drop {ls : List Bs} {k : Nat} {l : Bs} (h : ls[k]? = some l) (hp : wordsL l = []) : goodL (ls.take (k + 1)) = goodL (ls.take k) := by
  obtain ⟨hlt, rfl⟩ := List.getElem?_eq_some_iff.1 h
  unfold goodL
  rw [List.take_succ_eq_append_getElem hlt, List.map_append, List.filter_append]
  simp [hp]
theorem goodL_len (ls : List Bs) : (goodL ls).length ≤ ls.length := by
  unfold goodL
  exact Nat.le_trans (List.length_filter_le _ _) (by simp)

/-- The loop's relation. -/
def LRel (w1 : World) (ls : List Bs) (k : Nat) (v : Value) (wr : World) : Prop :=
  (∀ l ∈ ls.take k, okLine l = true) ∧ Grid wr (w1.heap.size + 1) v (goodL (ls.take k)) ∧ Below (w1.heap.size + 1) (w1.alloc (.cells (ls.map str).toArray 9)) wr
theorem lrel_start (w1 : World) (ls : List Bs) : LRel w1 ls 0 (.slice none 0 0) (w1.alloc (.cells (ls.map str).toArray 9)) :=
  ⟨fun l h => by simp at h, grid_nil _ _, Below.refl _ _⟩
section
variable {w1 : World} {ls : List Bs} {k : Nat} {v : Value} {wr : World}
theorem LRel.cell (h : LRel w1 ls k v wr) {j : Nat} {p : Bs} (hp : ls[j]? = some p) : wr.cell? ⟨w1.heap.size, j, none⟩ = some (str p) := by
  rw [h.2.2.cell (p := ⟨w1.heap.size, j, none⟩) (Nat.lt_succ_self _)]
  simp only [World.cell?, heap_alloc_new]
  simp [hp]
theorem LRel.size (h : LRel w1 ls k v wr) : w1.heap.size + 1 ≤ wr.heap.size := by
  have := h.2.2.size; simpa using this
theorem LRel.ok {l : Bs} (h : LRel w1 ls k v wr) (hl : ls[k]? = some l) (hok : okLine l = true) : ∀ l ∈ ls.take (k + 1), okLine l = true := by
  have := all_take_next (p := okLine) (List.all_eq_true.2 h.1) hl hok
  exact List.all_eq_true.1 this
theorem LRel.has (h : LRel w1 ls k v wr) (hm : HasM w1) : HasM wr :=
  (hm.below ((Below.refl _ _).alloc (Nat.le_refl _) _)).below (h.2.2.mono (by simp)) 
theorem LRel.drop {l : Bs} {w2 : World} (h : LRel w1 ls k v wr) (hl : ls[k]? = some l) (hok : okLine l = true) (hn : wordsL l = []) (hb : Below wr.heap.size wr w2) : LRel w1 ls (k + 1) v w2 :=
  ⟨h.ok hl hok, by rw [goodL_drop hl hn]; exact h.2.1.below hb, h.2.2.trans (hb.mono h.size)⟩
theorem LRel.below {w2 : World} (h : LRel w1 ls k v wr) (hb : Below wr.heap.size wr w2) : LRel w1 ls k v w2 :=
  ⟨h.1, h.2.1.below hb, h.2.2.trans (hb.mono h.size)⟩
theorem LRel.keep {l : Bs} {u v' : Value} {vs : List Value} {w' : World} {o : Obj} (h : LRel w1 ls k v wr) (hl : ls[k]? = some l) (hok : okLine l = true) (hn : wordsL l ≠ [])
    (h1 : vs.length = (goodL (ls.take k)).length) (h2 : wr.ownsRow (w1.heap.size + 1) 22 1 v (goodL (ls.take k)).length vs) (h3 : ∀ (i : Nat) (u : Value) (x : List Bs), vs[i]? = some u → (goodL (ls.take k))[i]? = some x → wr.ownsRow (w1.heap.size + 1) 9 1 u x.length (x.map str))
    (hu : wr.ownsRow (w1.heap.size + 1) 9 1 u (wordsL l).length ((wordsL l).map str)) (ho : w'.ownsRow (w1.heap.size + 1) 22 1 v' ((goodL (ls.take k)).length + 1) (vs ++ [u])) (hg : (wr.alloc o).grownBy w' v.ownBlock) : LRel w1 ls (k + 1) v' w' := by
  refine ⟨h.ok hl hok, by rw [goodL_keep hl hn]; exact Grid.push h1 h2 h3 hu ho hg, ?_⟩
  exact (h.2.2.alloc h.size o).grown hg (by have := h.size; simp; omega) (fun g hg' => ((h2.alloc o).lt g hg').1)
end

/-- What Lines answers. -/
def LinesPost (w : World) (r : List (List Bs) × Nat × Nat) (e : Ending) (w' : World) : Prop :=
  ∃ a c, e = .returned (.tuple #[.slice a r.1.length c, .int .i64 r.2.1, .int .i64 r.2.2]) ∧ Grid w' w.heap.size (.slice a r.1.length c) r.1 ∧ Below w.heap.size w w'

theorem linesPost_err (w w' : World) (n e : Nat) (z : Int) (hz : z = n) (hb : Below w.heap.size w w') : LinesPost w ([], n, e) (.returned (.tuple #[.slice none 0 0, .int .i64 z, .int .i64 e])) w' :=
  ⟨none, 0, by rw [hz]; rfl, grid_nil _ _, hb⟩
theorem linesPost_ok {w wr : World} {ls : List Bs} {v : Value} (h : LRel w ls ls.length v wr) : LinesPost w (goodL ls, 0, 0) (.returned (.tuple #[v, .int .i64 0, .int .i64 0])) wr := by
  have h1 := h.2.1
  rw [List.take_length] at h1
  have hb : Below w.heap.size w wr := ((Below.refl _ _).alloc (Nat.le_refl _) _).trans (h.2.2.mono (by omega))
  have hg := h1.le (show w.heap.size ≤ w.heap.size + 1 by omega)
  obtain ⟨vs, a1, a2, a3⟩ := hg
  rcases ownsRow_forms a2 with ⟨rfl, h0⟩ | ⟨g, cap, rfl⟩
  · refine ⟨none, 0, ?_, ⟨vs, a1, ?_, a3⟩, hb⟩
    · show _ = Ending.returned (.tuple #[.slice none (goodL ls).length 0, _, _]); rw [h0]; rfl
    · show wr.ownsRow w.heap.size 22 1 (.slice none (goodL ls).length 0) (goodL ls).length vs
      rw [h0] at a2 ⊢; exact a2
  · exact ⟨_, cap, rfl, ⟨vs, a1, a2, a3⟩, hb⟩

theorem linesL_bad {s : Bs} {k : Nat} {l : Bs} (hs : s.length ≤ 20000) (h : ∀ x ∈ (splitL 10 s).take k, okLine x = true) (hk : (splitL 10 s)[k]? = some l) (hb : okLine l = false) : linesL s = ([], k + 1, 4) := by
  unfold linesL
  rw [if_neg (by omega), badAt_some 1 k _ l h hk hb, Nat.add_comm]
theorem linesL_good {s : Bs} (hs : s.length ≤ 20000) (h : ∀ x ∈ splitL 10 s, okLine x = true) : linesL s = (goodL (splitL 10 s), 0, 0) := by
  unfold linesL
  rw [if_neg (by omega), badAt_none 1 _ h]

theorem words_short {l : Bs} {n : Nat} (h : l.length ≤ n) (hn : n ≤ 140737488351232) : Short (wordsL l) := by
  intro x hx
  have hm := (List.mem_filter.1 hx).1
  have := splitL_len 32 _ x hm
  have := (List.takeWhile_sublist (fun c : UInt8 => c != 35) (l := l)).length_le
  omega

theorem wordsOf_list (l : Bs) (w : World) (hs : l.length ≤ 20000) (hm : HasM w) : Calls Tryz.prog 53 #[str l] w (OwnS w (wordsL l)) := wordsOf_any ⟨l.toArray⟩ w hs hm
theorem allMayBe_t (v : Value) (xs : List Bs) (w : World) (h : RowAt w v (xs.map str)) (hs : Short xs) (hk : Hid (xs.all mayL = true)) : Calls Tryz.prog 54 #[v] w fun e w' => e = .returned (.bool true) ∧ w = w' :=
  (allMayBe_any v xs w h hs).mono fun e w' ⟨h1, h2⟩ => ⟨by rw [h1, hk.out], h2⟩
theorem allMayBe_f (v : Value) (xs : List Bs) (w : World) (h : RowAt w v (xs.map str)) (hs : Short xs) (hk : Hid (xs.all mayL = false)) : Calls Tryz.prog 54 #[v] w fun e w' => e = .returned (.bool false) ∧ w = w' :=
  (allMayBe_any v xs w h hs).mono fun e w' ⟨h1, h2⟩ => ⟨by rw [h1, hk.out], h2⟩

set_option maxRecDepth 100000 in
theorem lines_big (s : ByteArray) (w : World) (hs : 20000 < s.size) (hmax : s.size ≤ maxLen) : Calls Tryz.prog 23 #[.string s] w (LinesPost w (linesL s.data.toList)) := by
  have e : linesL s.data.toList = ([], 0, 3) := by unfold linesL; rw [if_pos (by rw [len_size]; exact hs)]
  rw [e]
  clear e
  unfold maxLen at hmax
  go_enter Tryz.func23, Tryz.ntmps23
  go_wp2
  go_ret3
  exact linesPost_err w w 0 3 0 rfl (Below.refl _ _)

set_option maxRecDepth 100000 in
set_option maxHeartbeats 4000000 in
theorem lines_walk (s : ByteArray) (w : World) (R : List (List Bs) × Nat × Nat) (ls : List Bs) (i0 : TypeInfo) (hi : Tryz.prog.info? 22 = some i0) (hz0 : i0.zero = some (.slice none 0 0)) (hz1 : i0.size = 1) (hz2 : i0.bytes = 24) (hm : HasM w) (hlen : ls.length ≤ 20001) (HSZ : s.size ≤ 20000)
    (HLS : Hid (∀ l ∈ ls, l.length ≤ 20000)) (HB : Hid (∀ (k : Nat) (l : Bs), (∀ x ∈ ls.take k, okLine x = true) → ls[k]? = some l → okLine l = false → R = ([], k + 1, 4)))
    (HG : Hid ((∀ x ∈ ls, okLine x = true) → R = (goodL ls, 0, 0)))
    (HSP : Calls Tryz.prog 52 #[.string s, .string ⟨#[10]⟩] w fun e w' => e = .returned (.slice (some ⟨w.heap.size, 0, none⟩) ls.length ls.length) ∧ w' = w.alloc (.cells (ls.map str).toArray 9)) :
    Calls Tryz.prog 23 #[.string s] w (LinesPost w R) := by
  go_enter Tryz.func23, Tryz.ntmps23
  go_wp2_with (go_at_call 52; refine HSP.mono ?_; rintro e w2 ⟨rfl, rfl⟩; clear HSP)
  go_loopw [5, 15] (fun v i wr => ∃ k : Nat, k ≤ ls.length ∧ i = .int .i64 k ∧ LRel w ls k v wr) (fun _ i _ => ls.length - (intOf i).toNat)
  case atStart => exact ⟨0, Nat.zero_le _, rfl, lrel_start w ls⟩
  case round =>
    obtain ⟨k, hk, rfl, hr⟩ := hrel
    by_cases hlt : k < ls.length
    · have hx : ls[k]? = some ls[k] := List.getElem?_eq_getElem hlt
      have hcx := hr.cell hx
      have hn := Nat.le_trans (goodL_len (ls.take k)) (List.length_take_le k ls)
      have hl := HLS.out ls[k] (List.getElem_mem hlt)
      generalize hX : ls[k] = l at hx hcx hl
      clear hX
      have HX := Lib.hid hx
      have HMr := hr.has hm
      have hsh := words_short (n := 20000) hl (by omega)
      have hfit : (goodL (ls.take k)).length + 1 ≤ maxLen := by unfold maxLen; omega
      clear hx
      have HW := wordsOf_list l wr hl HMr
      rcases hb : okLine l with _ | _
      · have HO : Hid ((wordsL l).all mayL = false) := Lib.hid hb
        have HR := Lib.hid (HB.out k l hr.1 HX.out hb)
        clear hb
        generalize wordsL l = x at *
        go_wp2_with (first | (go_at_call 53; refine HW.mono ?_; rintro e w3 ⟨a, c, rfl, ho, hb3⟩; have hra := RowAt.of_own ho) | (go_at_call 54; refine (allMayBe_f _ x _ hra hsh HO).mono ?_; rintro e w' ⟨rfl, rfl⟩))
        go_ret3
        rw [HR.out]
        exact linesPost_err w _ (k + 1) 4 _ (by omega) (((Below.refl _ _).alloc (Nat.le_refl _) _).trans ((hr.below hb3).2.2.mono (by omega)))
      · have HO : Hid ((wordsL l).all mayL = true) := Lib.hid hb
        have HOK := Lib.hid hb
        clear hb
        obtain ⟨vs, h1, h2, h3⟩ := hr.2.1
        have HK : Hid (∀ (a : Option Addr) (c : Nat) (w3 w' : World) (v' : Value) (o : Obj), wordsL l ≠ [] → Below wr.heap.size wr w3 → w3.ownsRow wr.heap.size 9 1 (.slice a (wordsL l).length c) (wordsL l).length ((wordsL l).map str) →
            w'.ownsRow (w.heap.size + 1) 22 1 v' ((goodL (ls.take k)).length + 1) (vs ++ [.slice a (wordsL l).length c]) → (w3.alloc o).grownBy w' u5.ownBlock → LRel w ls (k + 1) v' w') :=
          Lib.hid (fun a c w3 w' v' o hne hb3 ho ho' hg => (hr.below hb3).keep HX.out HOK.out hne h1 (own_below h2 hb3) (fun i u x hu hx => own_below (h3 i u x hu hx) hb3) (ownsRow_le ho hr.size) ho' hg)
        have HD : Hid (∀ w3 : World, wordsL l = [] → Below wr.heap.size wr w3 → LRel w ls (k + 1) u5 w3) := Lib.hid (fun w3 hn hb3 => hr.drop HX.out HOK.out hn hb3)
        have H2 := Lib.hid h2
        have hsz := hr.size
        clear h1 h2 h3 HOK
        generalize goodL (ls.take k) = gs at *
        generalize wordsL l = x at *
        rcases hxe : x with _ | ⟨x0, xr⟩
        · subst hxe
          go_wp2_with (first | (go_at_call 53; refine HW.mono ?_; rintro e w3 ⟨a, c, rfl, ho, hb3⟩; have hra := RowAt.of_own ho) | (go_at_call 54; refine (allMayBe_t _ [] _ hra hsh HO).mono ?_; rintro e w' ⟨rfl, rfl⟩))
          go_roundw
          case rel => exact ⟨k + 1, by omega, by go_num, HD.out _ (by trivial) hb3⟩
          case measure => simp [intOf]; omega
        · have HNE : Hid (x ≠ []) := Lib.hid (by rw [hxe]; simp)
          have hpos : 0 < x.length := by rw [hxe]; simp
          clear hxe
          go_wp2_with (first | (go_at_call 53; refine HW.mono ?_; rintro e w3 ⟨a, c, rfl, ho, hb3⟩; have hra := RowAt.of_own ho; have hsz3 := hb3.size) | (go_at_call 54; refine (allMayBe_t _ x _ hra hsh HO).mono ?_; rintro e w' ⟨rfl, rfl⟩) | (at_builtin; refine wpList_append_own _ rfl _ _ 57 rfl (w.heap.size + 1) 22 i0 (.slice none 0 0) 1 24 Tryz.underlying57 hi hz0 hz1 hz2 rfl (by decide) _ _ _ rfl ((own_below H2.out hb3).alloc _) ⟨w3.heap.size, 0, none⟩ 1 1 [.slice a x.length c] rfl rfl ?c1 ?c2 ?c3 ?c4 ?c5 ?_))
          case c1 => exact one_cell w3 _ _
          case c2 => intro u hu; simp at hu; subst hu; rfl
          case c3 => exact hfit
          case c4 => omega
          case c5 => simp; omega
          intro v' w' ho' hg _
          have HN := Lib.hid (HK.out a c w3 w' v' _ HNE.out hb3 ho ho' hg)
          clear ho' hg
          go_wp2
          go_roundw
          case rel => exact ⟨k + 1, by omega, by go_num, HN.out⟩
          case measure => simp [intOf]; omega
    · go_wp2
      go_ret3
      obtain rfl : k = ls.length := by omega
      rw [HG.out (by have := hr.1; rw [List.take_length] at this; exact this)]
      exact linesPost_ok hr

set_option maxRecDepth 100000 in
set_option maxHeartbeats 4000000 in
theorem lines_small (s : Bs) (w : World) (hs : s.length ≤ 20000) (hm : HasM w) : Calls Tryz.prog 23 #[str s] w (LinesPost w (linesL s)) := by
  obtain ⟨i0, hi, hz0, hz1, hz2⟩ := info_parts Tryz.info22
  have hlen : (splitL 10 s).length ≤ 20001 := by rw [splitL_length]; have := List.count_le_length (a := 10) (l := s); omega
  exact lines_walk ⟨s.toArray⟩ w _ _ i0 hi hz0 hz1 hz2 hm hlen hs (Lib.hid (fun l hl => Nat.le_trans (splitL_len 10 s l hl) hs)) (Lib.hid (fun k l => linesL_bad hs)) (Lib.hid (linesL_good hs)) (split_any 10 s w hs hm)
theorem lines_any (s : ByteArray) (w : World) (hmax : s.size ≤ maxLen) (hm : HasM w) : Calls Tryz.prog 23 #[.string s] w (LinesPost w (linesL s.data.toList)) := by
  by_cases hs : 20000 < s.size
  · exact lines_big s w hs hmax
  · exact lines_small s.data.toList w (by rw [len_size]; omega) hm
end Go.Proofs.YtcjhgibhenocpaaGreatDoor

/- The contract of Same, of two lists that are the same. -/
namespace Go.Proofs.YtcjhgibhenocpaaGreatDoor
set_option linter.unusedSimpArgs false
set_option linter.unusedVariables false
open Go.RowKit

/-- A slice of slices of texts, wherever they lie. -/
def GridAt (w : World) (v : Value) (xss : List (List Bs)) : Prop :=
  ∃ vs : List Value, vs.length = xss.length ∧ RowAt w v vs ∧ ∀ (i : Nat) (u : Value) (x : List Bs), vs[i]? = some u → xss[i]? = some x → RowAt w u (x.map str)
theorem GridAt.below {w w' : World} {v : Value} {xss : List (List Bs)} (h : GridAt w v xss) (hb : Below w.heap.size w w') : GridAt w' v xss := by
  obtain ⟨vs, h1, h2, h3⟩ := h
  exact ⟨vs, h1, h2.below hb, fun i u x hu hx => (h3 i u x hu hx).below hb⟩
theorem Grid.at {w : World} {B : Nat} {v : Value} {xss : List (List Bs)} (h : Grid w B v xss) : GridAt w v xss := by
  obtain ⟨vs, h1, h2, h3⟩ := h
  exact ⟨vs, h1, RowAt.of_own h2, fun i u x hu hx => RowAt.of_own (h3 i u x hu hx)⟩

/-- What a round needs of an outer row. -/
theorem GridAt.cases {w : World} {v : Value} {xss : List (List Bs)} (h : GridAt w v xss) :
    ∃ a c, v = .slice a xss.length c ∧ xss.length ≤ c ∧ c ≤ 9223372036854775807 ∧ (xss = [] ∨ ∃ b o, a = some ⟨b, o, none⟩ ∧ b < w.heap.size ∧
      ∀ (i : Nat) (x : List Bs), xss[i]? = some x → ∃ a' c', w.cell? ⟨b, o + i, none⟩ = some (.slice a' x.length c') ∧ x.length ≤ c' ∧ c' ≤ 9223372036854775807 ∧
        (x = [] ∨ ∃ b' o', a' = some ⟨b', o', none⟩ ∧ b' < w.heap.size ∧ ∀ (j : Nat) (y : Bs), x[j]? = some y → w.cell? ⟨b', o' + j, none⟩ = some (str y))) := by
  obtain ⟨vs, h1, ⟨a, c, rfl, h4, h5, h6⟩, h3⟩ := h
  refine ⟨a, c, by rw [h1], by omega, by unfold maxLen at h5; omega, ?_⟩
  rcases h6 with rfl | ⟨b, o, rfl, hb, hc⟩
  · left; exact List.length_eq_zero_iff.1 (by simpa using h1.symm)
  · refine .inr ⟨b, o, rfl, hb, fun i x hx => ?_⟩
    have hi : i < vs.length := by rw [h1]; exact (List.getElem?_eq_some_iff.1 hx).1
    have hu : vs[i]? = some vs[i] := List.getElem?_eq_getElem hi
    obtain ⟨a', c', hv, g1, g2, g3⟩ := (h3 i _ x hu hx).cases
    exact ⟨a', c', by rw [← hv]; exact hc i _ hu, g1, g2, g3⟩

def Drawn (w w' : World) : Prop := ∃ n, w' = w.drewN n
theorem Drawn.more {w w' : World} (h : Drawn w w') (k : Nat) : Drawn w (w'.drewN k) := by
  obtain ⟨n, rfl⟩ := h
  exact ⟨n + k, by simp [World.drewN_drewN]⟩
theorem Drawn.cell {w w' : World} (h : Drawn w w') (a : Addr) : w'.cell? a = w.cell? a := by obtain ⟨n, rfl⟩ := h; rfl
theorem Drawn.below {w w' : World} (h : Drawn w w') : Below w.heap.size w w' := by obtain ⟨n, rfl⟩ := h; exact below_drewN w n

end Go.Proofs.YtcjhgibhenocpaaGreatDoor

/- The contract of Join: lines of words as a text. -/
namespace Go.Proofs.YtcjhgibhenocpaaGreatDoor
set_option linter.unusedSimpArgs false
set_option linter.unusedVariables false
open Go.RowKit

/-- The text of the first k lines. -/
def joinTo (xss : List (List Bs)) (k : Nat) : Bs := joinL (xss.take k)
theorem joinTo_next {xss : List (List Bs)} {k : Nat} {x : List Bs} (h : xss[k]? = some x) : joinTo xss (k + 1) = joinTo xss k ++ Lib.join x [32] ++ [10] := by
  obtain ⟨hlt, rfl⟩ := List.getElem?_eq_some_iff.1 h
  unfold joinTo joinL
  rw [List.take_succ_eq_append_getElem hlt, List.map_append, List.flatten_append]
  simp
theorem joinTo_le {xss : List (List Bs)} {k : Nat} : (joinTo xss k).length ≤ (joinL xss).length := by
  have e : joinL xss = joinTo xss k ++ joinL (xss.drop k) := by
    unfold joinTo joinL
    rw [← List.flatten_append, ← List.map_append, List.take_append_drop]
  rw [e]; simp
theorem joinTo_all (xss : List (List Bs)) : joinTo xss xss.length = joinL xss := by unfold joinTo; rw [List.take_length]

/-- What one line's words come to. -/
def StrPost (w : World) (l : Bs) (e : Ending) (w' : World) : Prop := e = .returned (str l) ∧ Below w.heap.size w w'
theorem join_line (a : Option Addr) (c : Nat) (x : List Bs) (w : World) (h : RowAt w (.slice a x.length c) (x.map str)) (hl : (Lib.join x [32]).length ≤ 140737488355328) (hN : x.length ≤ 140737488355328) :
    Calls Tryz.prog 49 #[.slice a x.length c, .string ⟨#[32]⟩] w (StrPost w (Lib.join x [32])) := by
  obtain ⟨a', c', e, h1, h2, h3⟩ := h.cases
  simp only [Value.slice.injEq] at e
  obtain ⟨rfl, _, rfl⟩ := e
  rcases h3 with rfl | ⟨b, o, rfl, hb, hc⟩
  · refine (Tryz.strings_Join_none a c ⟨#[32]⟩ w).mono ?_
    rintro e w' ⟨rfl, rfl⟩
    exact ⟨rfl, Below.refl _ _⟩
  · have hm : (x.map fun l => (⟨l.toArray⟩ : ByteArray)).map (·.data.toList) = x := by rw [List.map_map]; exact List.map_id _
    have := Tryz.strings_Join b o c (x.map fun l => (⟨l.toArray⟩ : ByteArray)) ⟨#[32]⟩ w (by
      intro j y hy
      rw [List.getElem?_map] at hy
      obtain ⟨z, hz, rfl⟩ := Option.map_eq_some_iff.1 hy
      exact hc j z hz) hb (by rw [List.length_map]; exact hN) (by rw [List.length_map]; exact h1) (by rw [hm]; exact hl)
    rw [List.length_map, hm] at this
    exact this.mono fun e w' ⟨h1, h2⟩ => ⟨h1, h2⟩

/-- The loop's relation: the Builder holds the text so far. -/
def JRel (w : World) (l : Bs) (wr : World) : Prop := Lib.IsBuilder 101 5 w.heap.size w.heap.size (Lib.byteCells l) wr ∧ Below w.heap.size w wr ∧ w.heap.size + 1 ≤ wr.heap.size

theorem jrel_start (w : World) : JRel w [] (w.alloc (.cells #[.pointer none, .slice none 0 0] 101)) := by
  refine ⟨.inl ⟨Nat.le_refl _, .slice none 0 0, heap_alloc_new w _, World.ownsRow_nil _ _ _ _, by simp [Value.ownBlock]⟩, (Below.refl _ _).alloc (Nat.le_refl _) _, by simp⟩
theorem byteCells_append (a b : Bs) : Lib.byteCells (a ++ b) = Lib.byteCells a ++ Lib.byteCells b := by simp [Lib.byteCells]
theorem builder_below {T e : TypeId} {B b : Nat} {bs : List Value} {w w' : World} (h : Lib.IsBuilder T e B b bs w) (hb : Below w.heap.size w w') : Lib.IsBuilder T e B b bs w' := by
  refine h.imp ?_ ?_ <;>
  · rintro ⟨h1, v, h2, h3, h4⟩
    exact ⟨h1, v, by rw [hb.block b (Array.getElem?_eq_some_iff.1 h2).1]; exact h2, own_below h3 hb, h4⟩
theorem JRel.below {w wr w' : World} {l : Bs} (h : JRel w l wr) (hb : Below wr.heap.size wr w') : JRel w l w' :=
  ⟨builder_below h.1 hb, h.2.1.trans (hb.mono h.2.1.size), Nat.le_trans h.2.2 hb.size⟩
def JPost (w : World) (l : Bs) (v : Value) (e : Ending) (w' : World) : Prop := e = .returned v ∧ JRel w l w'
theorem write_line (w wr : World) (l x : Bs) (h : JRel w l wr) (hl : l.length + x.length ≤ 140737488355328) :
    Calls Tryz.prog 48 #[.pointer (some ⟨w.heap.size, 0, none⟩), str x] wr (JPost w (l ++ x) (.tuple #[.int .i64 x.length, .nilIface])) := by
  refine (Tryz.Builder_WriteString w.heap.size w.heap.size _ ⟨x.toArray⟩ wr h.1 (by rw [Lib.byteCells_length, bs_size]; exact hl) h.2.1.size).mono ?_
  rintro e w' ⟨rfl, h1, h2⟩
  refine ⟨rfl, .inr ?_, h.2.1.trans h2, Nat.le_trans h.2.2 h2.size⟩
  rw [byteCells_append]; exact h1
theorem write_end (w wr : World) (l : Bs) (h : JRel w l wr) (hl : l.length + 1 ≤ 140737488355328) :
    Calls Tryz.prog 50 #[.pointer (some ⟨w.heap.size, 0, none⟩), .int .u8 10] wr (JPost w (l ++ [10]) .nilIface) := by
  refine (Tryz.Builder_WriteByte w.heap.size w.heap.size _ 10 wr h.1 (by rw [Lib.byteCells_length]; exact hl) h.2.1.size).mono ?_
  rintro e w' ⟨rfl, h1, h2⟩
  refine ⟨rfl, .inr ?_, h.2.1.trans h2, Nat.le_trans h.2.2 h2.size⟩
  rw [byteCells_append]; exact h1
theorem build_end (w wr : World) (l : Bs) (h : JRel w l wr) : Calls Tryz.prog 51 #[.pointer (some ⟨w.heap.size, 0, none⟩)] wr (fun e w' => e = .returned (str l) ∧ Below w.heap.size w w') := by
  refine (Tryz.Builder_String_any w.heap.size w.heap.size l wr h.1 h.2.1.size).mono ?_
  rintro e w' ⟨rfl, h1⟩
  exact ⟨rfl, h.2.1.trans h1⟩

set_option maxRecDepth 100000 in
set_option maxHeartbeats 4000000 in
theorem join_any (v : Value) (xss : List (List Bs)) (w : World) (h : GridAt w v xss) (hl : (joinL xss).length ≤ 140737488355328) (hn : ∀ x ∈ xss, x.length ≤ 140737488355328) : Calls Tryz.prog 22 #[v] w (StrPost w (joinL xss)) := by
  obtain ⟨a, c, rfl, h1, h2, h3⟩ := h.cases
  clear h
  rcases h3 with rfl | ⟨b, o, rfl, hb, hc⟩
  · have HS := jrel_start w
    go_enter Tryz.func22, Tryz.ntmps22
    go_wp2
    go_loop [8] (fun i => i = .int .i64 0) (fun _ => 0)
    case atStart => rfl
    case round =>
      subst hrel
      go_wp2_with (go_at_call 51; refine (build_end w _ [] HS).mono ?_; rintro e w' ⟨rfl, hb⟩)
      go_ret
      exact ⟨rfl, hb⟩
  · have HC := Lib.hid hc
    have HS := jrel_start w
    have HL := Lib.hid hl
    have HN := Lib.hid hn
    clear hc hl hn
    go_enter Tryz.func22, Tryz.ntmps22
    go_wp2
    go_loopw [8] (fun i wr => ∃ k : Nat, k ≤ xss.length ∧ i = .int .i64 k ∧ JRel w (joinTo xss k) wr) (fun i _ => xss.length - (intOf i).toNat)
    case atStart => exact ⟨0, Nat.zero_le _, rfl, HS⟩
    case round =>
      clear HS
      obtain ⟨k, hk, rfl, hr⟩ := hrel
      by_cases hlt : k < xss.length
      · have hx : xss[k]? = some xss[k] := List.getElem?_eq_getElem hlt
        have hxn := HN.out _ (List.getElem_mem hlt)
        obtain ⟨a', c', e1, g1, g2, g3⟩ := HC.out k _ hx
        have hj := joinTo_next hx
        have hjl : (joinTo xss (k + 1)).length ≤ 140737488355328 := Nat.le_trans joinTo_le HL.out
        rw [(bcell hr.2.1).1 b _ hb |>.symm] at e1
        generalize xss[k] = x at *
        rw [hj] at hjl
        simp only [List.length_append, List.length_singleton] at hjl
        have HJ := Lib.hid hj
        clear hj hx
        have hrow : RowAt wr (.slice a' x.length c') (x.map str) := by
          refine RowAt.below (w := w) ?_ hr.2.1
          refine ⟨a', c', by rw [List.length_map], by rw [List.length_map]; exact g1, by unfold maxLen; omega, ?_⟩
          rcases g3 with rfl | ⟨b', o', rfl, hb', hc'⟩
          · exact .inl rfl
          · refine .inr ⟨b', o', rfl, hb', fun j y hy => ?_⟩
            rw [List.getElem?_map] at hy
            obtain ⟨z, hz, rfl⟩ := Option.map_eq_some_iff.1 hy
            exact hc' j z hz
        clear g3
        have HJL := join_line a' c' x wr hrow (by omega) hxn
        generalize joinTo xss k = t at *
        generalize Lib.join x [32] = y at *
        go_wp2_with (first | (go_at_call 49; refine HJL.mono ?_; rintro e w1 ⟨rfl, hb1⟩; have hr1 := hr.below hb1) | (go_at_call 48; refine (write_line w w1 t y hr1 (by omega)).mono ?_; rintro e w2 ⟨rfl, hr2⟩) | (go_at_call 50; refine (write_end w w2 (t ++ y) hr2 (by simp; omega)).mono ?_; rintro e w3 ⟨rfl, hr3⟩))
        go_roundw
        case rel => exact ⟨k + 1, by omega, by go_num, by rw [HJ.out]; exact hr3⟩
        case measure => simp [intOf]; omega
      · obtain rfl : k = xss.length := by omega
        have HJ := Lib.hid (joinTo_all xss)
        generalize joinTo xss xss.length = t at *
        go_wp2_with (go_at_call 51; refine (build_end w _ t hr).mono ?_; rintro e w' ⟨rfl, hb⟩)
        go_ret
        exact ⟨congrArg (fun l : Bs => Ending.returned (str l)) HJ.out, hb⟩
end Go.Proofs.YtcjhgibhenocpaaGreatDoor

/- Number; the document's digits and Number. -/
namespace Go.Proofs.YtcjhgibhenocpaaGreatDoor
set_option linter.unusedSimpArgs false
set_option linter.unusedVariables false
open Go.RowKit

/-- The library's variables that numbers want. -/
def HasE (w : World) : Prop := ∃ ev, w.cell? ⟨8, 0, none⟩ = some ev ∧ (ev = .nilIface ∨ ∃ te pe, ev = .iface te pe)
theorem HasE.below {w w' : World} (h : HasE w) (hb : Below w.heap.size w w') : HasE w' := by
  obtain ⟨ev, h1, h2⟩ := h
  exact ⟨ev, by rw [(bcell hb).1 8 0 (World.block_lt_of_cell? _ _ h1)]; exact h1, h2⟩
theorem gE : Tryz.prog.globalNamed "strconv.ErrRange" = some 8 := by kernel_rfl
theorem gEt : (Tryz.prog.globals[8]?).map (·.type) = some 103 := by kernel_rfl
theorem gP : Tryz.prog.globalNamed "internal/strconv.uint64pow10" = some 1 := by kernel_rfl
theorem hasE_of {W : World} (h : laidMetH Tryz.prog laidR W) : HasE W := by
  rw [MakeChecks.laidMetH_plain _ _ _ (by kernel_rfl)] at h
  obtain ⟨ps, ⟨g0, t0, cs0, f0, p0, q0, hg0, ht0, hv0, hd0, _, e0⟩, _, hrows⟩ := h.tail.tail.tail.tail
  obtain rfl := Option.some.inj (gE.symm.trans hg0)
  obtain rfl := Option.some.inj (gEt.symm.trans ht0)
  obtain ⟨l0⟩ := cs0
  obtain ⟨f1, u, v, e, _⟩ := iface_of_trod Tryz.underlying103 hd0
  have e' : l0 = [.iface u v] := e
  subst e'
  have hc := World.var?_cell hg0 hv0 0
  exact ⟨.iface u v, by simpa using hc, .inr ⟨u, v, rfl⟩⟩
def HasT (w : World) : Prop := Lib.TabIs Tryz.prog w "internal/strconv.uint64pow10" .u64 Lib.pow10Tab
theorem HasT.below {w w' : World} (h : HasT w) (hb : Below w.heap.size w w') : HasT w' := by
  unfold HasT Lib.TabIs World.var? at h ⊢
  rw [gP] at h ⊢
  simp only [Option.bind_some] at h ⊢
  have hlt : 1 < w.heap.size := by
    rcases Nat.lt_or_ge 1 w.heap.size with h' | h'
    · exact h'
    · simp [Array.getElem?_eq_none h'] at h
  rw [hb.block 1 hlt]; exact h
theorem hasT_of {W : World} (h : laidMetH Tryz.prog laidR W) : HasT W := by
  rw [MakeChecks.laidMetH_plain _ _ _ (by kernel_rfl)] at h
  have e : (Rows.laid_internal_strconv_uint64pow10 : DataW Unit) = Lib.tabData .u64 Lib.pow10Tab := by kernel_rfl
  have h3 : laidMet Tryz.prog (("internal/strconv.uint64pow10", Rows.laid_internal_strconv_uint64pow10) :: Rows.wholeTextRow.laid.tail.tail.tail) W := h.tail.tail
  rw [e] at h3
  exact Lib.tabIs_of_head gP (by kernel_rfl : (Tryz.prog.globals[1]?).map (·.type) = some 203) Tryz.underlying203 Tryz.underlying181 (by kernel_rfl) (by kernel_rfl) h3

theorem format_any (n : Int) (h0 : -9223372036854775808 ≤ n) (h1 : n ≤ 9223372036854775807) (w : World) (ht : HasT w) : Calls Tryz.prog 47 #[.int .i64 n, .int .i64 10] w (StrPost w (Lib.itoa n)) := by
  refine (Tryz.strconv_FormatInt_10 n h0 h1 w ht).mono ?_
  rintro e w' ⟨rfl, k, os, rfl⟩
  exact ⟨rfl, Lib.below_grow _ w (Nat.le_refl _) k os⟩

def RangePost (w : World) (v : Int) (e : Ending) (w' : World) : Prop := ∃ N, e = .returned (.tuple #[.int .i64 v, .iface 226 (.pointer (some ⟨N, 0, none⟩))]) ∧ Below w.heap.size w w'
theorem number_range (s : ByteArray) (w : World) (hs : s.size ≤ 3000) (he : HasE w) (h : Hid (decL s.data.toList = true)) (hp : Lib.parseIntB 64 s.data.toList = .range) : Calls Tryz.prog 97 #[.string s] w (NumPost w (0, 3)) := by
  obtain ⟨ev, hv, hev⟩ := he
  have HP : Calls Tryz.prog 144 #[.string s, .int .i64 10, .int .i64 64] w (RangePost w (Lib.intSat 64 s.data.toList)) :=
    (Tryz.strconv_ParseInt_10_at64_range s (by omega) hp ev w hv hev).mono fun e w' ⟨N, h1, _, _, h4⟩ => ⟨N, h1, h4⟩
  have hs' : s.size ≤ maxLen := by unfold maxLen; omega
  generalize Lib.intSat 64 s.data.toList = v at HP
  clear hp hv hev
  go_enter Tryz.func97, Tryz.ntmps97
  go_wp2_with (first | (go_at_call 143; refine (isDecimal_t s _ hs' h).mono ?_; rintro e w' ⟨rfl, rfl⟩) | (go_at_call 144; refine HP.mono ?_; rintro e w1 ⟨N, rfl, hb⟩))
  go_ret2
  exact ⟨rfl, hb⟩
theorem number_any (s : ByteArray) (w : World) (hs : s.size ≤ 3000) (he : HasE w) : Calls Tryz.prog 97 #[.string s] w (NumPost w (numL s.data.toList)) := by
  rcases hd : decL s.data.toList with _ | _
  · have e : numL s.data.toList = (0, 4) := by unfold numL; rw [hd]; rfl
    rw [e]
    exact number_form s w (by unfold maxLen; omega) (Lib.hid hd)
  · rcases num_parse hd with ⟨v, h1, h2⟩ | ⟨h1, h2⟩
    · rw [h1]; exact number_ok s v w (by unfold maxLen; omega) (Lib.hid hd) h2
    · rw [h1]; exact number_range s w hs he (Lib.hid hd) h2
end Go.Proofs.YtcjhgibhenocpaaGreatDoor
