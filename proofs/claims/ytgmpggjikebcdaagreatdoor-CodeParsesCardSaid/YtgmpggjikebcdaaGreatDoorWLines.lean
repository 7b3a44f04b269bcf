/-
  The contract of Lines: the words of the lines of a text, in rows of their own, or the line of the first error.
-/
import Derived.Test.YtgmpggjikebcdaaGreatDoorWWords
namespace Go.Proofs.YtgmpggjikebcdaaGreatDoor
open Go.RowKit

/-- Lists of texts in rows of the call's own. -/
def Grid (w : World) (B : Nat) (v : Value) (xss : List (List Bs)) : Prop :=
  ∃ vs : List Value, vs.length = xss.length ∧ w.ownsRow B 22 1 v xss.length vs ∧ ∀ (i : Nat) (u : Value) (x : List Bs), vs[i]? = some u → xss[i]? = some x → w.ownsRow B 9 1 u x.length (x.map str)

theorem Grid.below {w w' : World} {B : Nat} {v : Value} {xss : List (List Bs)} (h : Grid w B v xss) (hb : Below w.heap.size w w') : Grid w' B v xss := by
  obtain ⟨vs, h1, h2, h3⟩ := h
  exact ⟨vs, h1, own_below h2 hb, fun i u x hu hx => own_below (h3 i u x hu hx) hb⟩
theorem Grid.le {w : World} {B B' : Nat} {v : Value} {xss : List (List Bs)} (h : Grid w B v xss) (hb : B' ≤ B) : Grid w B' v xss := by
  obtain ⟨vs, h1, h2, h3⟩ := h
  exact ⟨vs, h1, ownsRow_le h2 hb, fun i u x hu hx => ownsRow_le (h3 i u x hu hx) hb⟩
theorem grid_nil (w : World) (B : Nat) : Grid w B (.slice none 0 0) [] := ⟨[], rfl, World.ownsRow_nil _ _ _ _, fun i u x hu _ => by simp at hu⟩

/-- The block of a row of texts is no block of a row of such rows. -/
theorem own_apart {w : World} {B B' n m : Nat} {u v : Value} {xs ys : List Value} (hu : w.ownsRow B 9 1 u n xs) (hv : w.ownsRow B' 22 1 v m ys) : u.ownBlock = none ∨ u.ownBlock ≠ v.ownBlock := by
  rcases hu.2 with ⟨rfl, _⟩ | ⟨g, cap, cur, rfl, _, hg, _⟩
  · exact .inl rfl
  · rcases hv.2 with ⟨rfl, _⟩ | ⟨g', cap', cur', rfl, _, hg', _⟩
    · right; simp [Value.ownBlock]
    · right
      intro h
      simp [Value.ownBlock] at h
      subst h
      rw [hg] at hg'
      simp at hg'

theorem Grid.push {w w' : World} {B : Nat} {u v v' : Value} {xss : List (List Bs)} {x : List Bs} {vs : List Value} {o : Obj}
    (h1 : vs.length = xss.length) (h2 : w.ownsRow B 22 1 v xss.length vs) (h3 : ∀ (i : Nat) (u : Value) (x : List Bs), vs[i]? = some u → xss[i]? = some x → w.ownsRow B 9 1 u x.length (x.map str))
    (hu : w.ownsRow B 9 1 u x.length (x.map str)) (ho : w'.ownsRow B 22 1 v' (xss.length + 1) (vs ++ [u])) (hg : (w.alloc o).grownBy w' v.ownBlock) : Grid w' B v' (xss ++ [x]) := by
  refine ⟨vs ++ [u], by simp [h1], by simpa using ho, ?_⟩
  intro i a y ha hy
  have key : ∀ a y, w.ownsRow B 9 1 a (List.length y) (List.map str y) → w'.ownsRow B 9 1 a y.length (y.map str) := fun a y hay =>
    (hay.alloc o).kept hg (own_apart (hay.alloc o) (h2.alloc o))
  by_cases hi : i < vs.length
  · rw [List.getElem?_append_left hi] at ha
    rw [List.getElem?_append_left (by omega)] at hy
    exact key a y (h3 i a y ha hy)
  · rw [List.getElem?_append_right (by omega)] at ha
    rw [List.getElem?_append_right (by omega)] at hy
    have e0 : i - vs.length = 0 := by have := (List.getElem?_eq_some_iff.1 ha).1; simp at this; omega
    rw [e0] at ha
    rw [show i - xss.length = 0 by omega] at hy
    simp at ha hy
    subst ha; subst hy
    exact key _ _ hu

theorem goodL_keep {ls : List Bs} {k : Nat} {l : Bs} (h : ls[k]? = some l) (hp : wordsL l ≠ []) : goodL (ls.take (k + 1)) = goodL (ls.take k) ++ [wordsL l] := by
  obtain ⟨hlt, rfl⟩ := List.getElem?_eq_some_iff.1 h
  unfold goodL
  rw [List.take_succ_eq_append_getElem hlt, List.map_append, List.filter_append]
  congr 1
  simp [hp]
theorem goodL_drop {ls : List Bs} {k : Nat} {l : Bs} (h : ls[k]? = some l) (hp : wordsL l = []) : goodL (ls.take (k + 1)) = goodL (ls.take k) := by
  obtain ⟨hlt, rfl⟩ := List.getElem?_eq_some_iff.1 h
  unfold goodL
  rw [List.take_succ_eq_append_getElem hlt, List.map_append, List.filter_append]
  simp [hp]
theorem goodL_len (ls : List Bs) : (goodL ls).length ≤ ls.length := by
  unfold goodL
  exact Nat.le_trans (List.length_filter_le _ _) (by simp)

/-- The loop's relation. -/
def LRel (w1 : World) (ls : List Bs) (k : Nat) (v : Value) (wr : World) : Prop :=
  (∀ l ∈ ls.take k, okLine l = true) ∧ Grid wr (w1.heap.size + 1) v (goodL (ls.take k)) ∧ Below (w1.heap.size + 1) (w1.alloc (.cells (ls.map str).toArray 9)) wr
theorem lrel_start (w1 : World) (ls : List Bs) : LRel w1 ls 0 (.slice none 0 0) (w1.alloc (.cells (ls.map str).toArray 9)) :=
  ⟨fun l h => by simp at h, grid_nil _ _, Below.refl _ _⟩
section
variable {w1 : World} {ls : List Bs} {k : Nat} {v : Value} {wr : World}
theorem LRel.cell (h : LRel w1 ls k v wr) {j : Nat} {p : Bs} (hp : ls[j]? = some p) : wr.cell? ⟨w1.heap.size, j, none⟩ = some (str p) := by
  rw [h.2.2.cell (p := ⟨w1.heap.size, j, none⟩) (Nat.lt_succ_self _)]
  simp only [World.cell?, heap_alloc_new]
  simp [hp]
theorem LRel.size (h : LRel w1 ls k v wr) : w1.heap.size + 1 ≤ wr.heap.size := by
  have := h.2.2.size; simpa using this
theorem LRel.ok {l : Bs} (h : LRel w1 ls k v wr) (hl : ls[k]? = some l) (hok : okLine l = true) : ∀ l ∈ ls.take (k + 1), okLine l = true := by
  have := all_take_next (p := okLine) (List.all_eq_true.2 h.1) hl hok
  exact List.all_eq_true.1 this
theorem LRel.has (h : LRel w1 ls k v wr) (hm : HasM w1) : HasM wr :=
  (hm.below ((Below.refl _ _).alloc (Nat.le_refl _) _)).below (h.2.2.mono (by simp)) 
theorem LRel.drop {l : Bs} {w2 : World} (h : LRel w1 ls k v wr) (hl : ls[k]? = some l) (hok : okLine l = true) (hn : wordsL l = []) (hb : Below wr.heap.size wr w2) : LRel w1 ls (k + 1) v w2 :=
  ⟨h.ok hl hok, by rw [goodL_drop hl hn]; exact h.2.1.below hb, h.2.2.trans (hb.mono h.size)⟩
theorem LRel.below {w2 : World} (h : LRel w1 ls k v wr) (hb : Below wr.heap.size wr w2) : LRel w1 ls k v w2 :=
  ⟨h.1, h.2.1.below hb, h.2.2.trans (hb.mono h.size)⟩
theorem LRel.keep {l : Bs} {u v' : Value} {vs : List Value} {w' : World} {o : Obj} (h : LRel w1 ls k v wr) (hl : ls[k]? = some l) (hok : okLine l = true) (hn : wordsL l ≠ [])
    (h1 : vs.length = (goodL (ls.take k)).length) (h2 : wr.ownsRow (w1.heap.size + 1) 22 1 v (goodL (ls.take k)).length vs) (h3 : ∀ (i : Nat) (u : Value) (x : List Bs), vs[i]? = some u → (goodL (ls.take k))[i]? = some x → wr.ownsRow (w1.heap.size + 1) 9 1 u x.length (x.map str))
    (hu : wr.ownsRow (w1.heap.size + 1) 9 1 u (wordsL l).length ((wordsL l).map str)) (ho : w'.ownsRow (w1.heap.size + 1) 22 1 v' ((goodL (ls.take k)).length + 1) (vs ++ [u])) (hg : (wr.alloc o).grownBy w' v.ownBlock) : LRel w1 ls (k + 1) v' w' := by
  refine ⟨h.ok hl hok, by rw [goodL_keep hl hn]; exact Grid.push h1 h2 h3 hu ho hg, ?_⟩
  exact (h.2.2.alloc h.size o).grown hg (by have := h.size; simp; omega) (fun g hg' => ((h2.alloc o).lt g hg').1)
end

/-- What Lines answers. -/
def LinesPost (w : World) (r : List (List Bs) × Nat × Nat) (e : Ending) (w' : World) : Prop :=
  ∃ a c, e = .returned (.tuple #[.slice a r.1.length c, .int .i64 r.2.1, .int .i64 r.2.2]) ∧ Grid w' w.heap.size (.slice a r.1.length c) r.1 ∧ Below w.heap.size w w'

theorem linesPost_err (w w' : World) (n e : Nat) (z : Int) (hz : z = n) (hb : Below w.heap.size w w') : LinesPost w ([], n, e) (.returned (.tuple #[.slice none 0 0, .int .i64 z, .int .i64 e])) w' :=
  ⟨none, 0, by rw [hz]; rfl, grid_nil _ _, hb⟩
theorem linesPost_ok {w wr : World} {ls : List Bs} {v : Value} (h : LRel w ls ls.length v wr) : LinesPost w (goodL ls, 0, 0) (.returned (.tuple #[v, .int .i64 0, .int .i64 0])) wr := by
  have h1 := h.2.1
  rw [List.take_length] at h1
  have hb : Below w.heap.size w wr := ((Below.refl _ _).alloc (Nat.le_refl _) _).trans (h.2.2.mono (by omega))
  have hg := h1.le (show w.heap.size ≤ w.heap.size + 1 by omega)
  obtain ⟨vs, a1, a2, a3⟩ := hg
  rcases ownsRow_forms a2 with ⟨rfl, h0⟩ | ⟨g, cap, rfl⟩
  · refine ⟨none, 0, ?_, ⟨vs, a1, ?_, a3⟩, hb⟩
    · show _ = Ending.returned (.tuple #[.slice none (goodL ls).length 0, _, _]); rw [h0]; rfl
    · show wr.ownsRow w.heap.size 22 1 (.slice none (goodL ls).length 0) (goodL ls).length vs
      rw [h0] at a2 ⊢; exact a2
  · exact ⟨_, cap, rfl, ⟨vs, a1, a2, a3⟩, hb⟩

theorem linesL_bad {s : Bs} {k : Nat} {l : Bs} (hs : s.length ≤ 20000) (h : ∀ x ∈ (splitL 10 s).take k, okLine x = true) (hk : (splitL 10 s)[k]? = some l) (hb : okLine l = false) : linesL s = ([], k + 1, 4) := by
  unfold linesL
  rw [if_neg (by omega), badAt_some 1 k _ l h hk hb, Nat.add_comm]
theorem linesL_good {s : Bs} (hs : s.length ≤ 20000) (h : ∀ x ∈ splitL 10 s, okLine x = true) : linesL s = (goodL (splitL 10 s), 0, 0) := by
  unfold linesL
  rw [if_neg (by omega), badAt_none 1 _ h]

theorem words_short {l : Bs} {n : Nat} (h : l.length ≤ n) (hn : n ≤ 140737488351232) : Short (wordsL l) := by
  intro x hx
  have hm := (List.mem_filter.1 hx).1
  have := splitL_len 32 _ x hm
  have := (List.takeWhile_sublist (fun c : UInt8 => c != 35) (l := l)).length_le
  omega

theorem wordsOf_list (l : Bs) (w : World) (hs : l.length ≤ 20000) (hm : HasM w) : Calls Tryz.prog 44 #[str l] w (OwnS w (wordsL l)) := wordsOf_any ⟨l.toArray⟩ w hs hm
theorem allMayBe_t (v : Value) (xs : List Bs) (w : World) (h : RowAt w v (xs.map str)) (hs : Short xs) (hk : Hid (xs.all mayL = true)) : Calls Tryz.prog 45 #[v] w fun e w' => e = .returned (.bool true) ∧ w = w' :=
  (allMayBe_any v xs w h hs).mono fun e w' ⟨h1, h2⟩ => ⟨by rw [h1, hk.out], h2⟩
theorem allMayBe_f (v : Value) (xs : List Bs) (w : World) (h : RowAt w v (xs.map str)) (hs : Short xs) (hk : Hid (xs.all mayL = false)) : Calls Tryz.prog 45 #[v] w fun e w' => e = .returned (.bool false) ∧ w = w' :=
  (allMayBe_any v xs w h hs).mono fun e w' ⟨h1, h2⟩ => ⟨by rw [h1, hk.out], h2⟩

set_option maxRecDepth 100000 in
theorem lines_big (s : ByteArray) (w : World) (hs : 20000 < s.size) (hmax : s.size ≤ maxLen) : Calls Tryz.prog 27 #[.string s] w (LinesPost w (linesL s.data.toList)) := by
  have e : linesL s.data.toList = ([], 0, 3) := by unfold linesL; rw [if_pos (by rw [len_size]; exact hs)]
  rw [e]
  clear e
  unfold maxLen at hmax
  go_enter Tryz.func27, Tryz.ntmps27
  go_wp2
  go_ret3
  exact linesPost_err w w 0 3 0 rfl (Below.refl _ _)

set_option maxRecDepth 100000 in
set_option maxHeartbeats 4000000 in
theorem lines_walk (s : ByteArray) (w : World) (R : List (List Bs) × Nat × Nat) (ls : List Bs) (i0 : TypeInfo) (hi : Tryz.prog.info? 22 = some i0) (hz0 : i0.zero = some (.slice none 0 0)) (hz1 : i0.size = 1) (hz2 : i0.bytes = 24) (hm : HasM w) (hlen : ls.length ≤ 20001) (HSZ : s.size ≤ 20000)
    (HLS : Hid (∀ l ∈ ls, l.length ≤ 20000)) (HB : Hid (∀ (k : Nat) (l : Bs), (∀ x ∈ ls.take k, okLine x = true) → ls[k]? = some l → okLine l = false → R = ([], k + 1, 4)))
    (HG : Hid ((∀ x ∈ ls, okLine x = true) → R = (goodL ls, 0, 0)))
    (HSP : Calls Tryz.prog 43 #[.string s, .string ⟨#[10]⟩] w fun e w' => e = .returned (.slice (some ⟨w.heap.size, 0, none⟩) ls.length ls.length) ∧ w' = w.alloc (.cells (ls.map str).toArray 9)) :
    Calls Tryz.prog 27 #[.string s] w (LinesPost w R) := by
  go_enter Tryz.func27, Tryz.ntmps27
  go_wp2_with (go_at_call 43; refine HSP.mono ?_; rintro e w2 ⟨rfl, rfl⟩; clear HSP)
  go_loopw [5, 15] (fun v i wr => ∃ k : Nat, k ≤ ls.length ∧ i = .int .i64 k ∧ LRel w ls k v wr) (fun _ i _ => ls.length - (intOf i).toNat)
  case atStart => exact ⟨0, Nat.zero_le _, rfl, lrel_start w ls⟩
  case round =>
    obtain ⟨k, hk, rfl, hr⟩ := hrel
    by_cases hlt : k < ls.length
    · have hx : ls[k]? = some ls[k] := List.getElem?_eq_getElem hlt
      have hcx := hr.cell hx
      have hn := Nat.le_trans (goodL_len (ls.take k)) (List.length_take_le k ls)
      have hl := HLS.out ls[k] (List.getElem_mem hlt)
      generalize hX : ls[k] = l at hx hcx hl
      clear hX
      have HX := Lib.hid hx
      have HMr := hr.has hm
      have hsh := words_short (n := 20000) hl (by omega)
      have hfit : (goodL (ls.take k)).length + 1 ≤ maxLen := by unfold maxLen; omega
      clear hx
      have HW := wordsOf_list l wr hl HMr
      rcases hb : okLine l with _ | _
      · have HO : Hid ((wordsL l).all mayL = false) := Lib.hid hb
        have HR := Lib.hid (HB.out k l hr.1 HX.out hb)
        clear hb
        generalize wordsL l = x at *
        go_wp2_with (first | (go_at_call 44; refine HW.mono ?_; rintro e w3 ⟨a, c, rfl, ho, hb3⟩; have hra := RowAt.of_own ho) | (go_at_call 45; refine (allMayBe_f _ x _ hra hsh HO).mono ?_; rintro e w' ⟨rfl, rfl⟩))
        go_ret3
        rw [HR.out]
        exact linesPost_err w _ (k + 1) 4 _ (by omega) (((Below.refl _ _).alloc (Nat.le_refl _) _).trans ((hr.below hb3).2.2.mono (by omega)))
      · have HO : Hid ((wordsL l).all mayL = true) := Lib.hid hb
        have HOK := Lib.hid hb
        clear hb
        obtain ⟨vs, h1, h2, h3⟩ := hr.2.1
        have HK : Hid (∀ (a : Option Addr) (c : Nat) (w3 w' : World) (v' : Value) (o : Obj), wordsL l ≠ [] → Below wr.heap.size wr w3 → w3.ownsRow wr.heap.size 9 1 (.slice a (wordsL l).length c) (wordsL l).length ((wordsL l).map str) →
            w'.ownsRow (w.heap.size + 1) 22 1 v' ((goodL (ls.take k)).length + 1) (vs ++ [.slice a (wordsL l).length c]) → (w3.alloc o).grownBy w' u5.ownBlock → LRel w ls (k + 1) v' w') :=
          Lib.hid (fun a c w3 w' v' o hne hb3 ho ho' hg => (hr.below hb3).keep HX.out HOK.out hne h1 (own_below h2 hb3) (fun i u x hu hx => own_below (h3 i u x hu hx) hb3) (ownsRow_le ho hr.size) ho' hg)
        have HD : Hid (∀ w3 : World, wordsL l = [] → Below wr.heap.size wr w3 → LRel w ls (k + 1) u5 w3) := Lib.hid (fun w3 hn hb3 => hr.drop HX.out HOK.out hn hb3)
        have H2 := Lib.hid h2
        have hsz := hr.size
        clear h1 h2 h3 HOK
        generalize goodL (ls.take k) = gs at *
        generalize wordsL l = x at *
        rcases hxe : x with _ | ⟨x0, xr⟩
        · subst hxe
          go_wp2_with (first | (go_at_call 44; refine HW.mono ?_; rintro e w3 ⟨a, c, rfl, ho, hb3⟩; have hra := RowAt.of_own ho) | (go_at_call 45; refine (allMayBe_t _ [] _ hra hsh HO).mono ?_; rintro e w' ⟨rfl, rfl⟩))
          go_roundw
          case rel => exact ⟨k + 1, by omega, by go_num, HD.out _ (by trivial) hb3⟩
          case measure => simp [intOf]; omega
        · have HNE : Hid (x ≠ []) := Lib.hid (by rw [hxe]; simp)
          have hpos : 0 < x.length := by rw [hxe]; simp
          clear hxe
          go_wp2_with (first | (go_at_call 44; refine HW.mono ?_; rintro e w3 ⟨a, c, rfl, ho, hb3⟩; have hra := RowAt.of_own ho; have hsz3 := hb3.size) | (go_at_call 45; refine (allMayBe_t _ x _ hra hsh HO).mono ?_; rintro e w' ⟨rfl, rfl⟩) | (at_builtin; refine wpList_append_own _ rfl _ _ 43 rfl (w.heap.size + 1) 22 i0 (.slice none 0 0) 1 24 Tryz.underlying43 hi hz0 hz1 hz2 rfl (by decide) _ _ _ rfl ((own_below H2.out hb3).alloc _) ⟨w3.heap.size, 0, none⟩ 1 1 [.slice a x.length c] rfl rfl ?c1 ?c2 ?c3 ?c4 ?c5 ?_))
          case c1 => exact one_cell w3 _ _
          case c2 => intro u hu; simp at hu; subst hu; rfl
          case c3 => exact hfit
          case c4 => omega
          case c5 => simp; omega
          intro v' w' ho' hg _
          have HN := Lib.hid (HK.out a c w3 w' v' _ HNE.out hb3 ho ho' hg)
          clear ho' hg
          go_wp2
          go_roundw
          case rel => exact ⟨k + 1, by omega, by go_num, HN.out⟩
          case measure => simp [intOf]; omega
    · go_wp2
      go_ret3
      obtain rfl : k = ls.length := by omega
      rw [HG.out (by have := hr.1; rw [List.take_length] at this; exact this)]
      exact linesPost_ok hr

set_option maxRecDepth 100000 in
set_option maxHeartbeats 4000000 in
theorem lines_small (s : Bs) (w : World) (hs : s.length ≤ 20000) (hm : HasM w) : Calls Tryz.prog 27 #[str s] w (LinesPost w (linesL s)) := by
  obtain ⟨i0, hi, hz0, hz1, hz2⟩ := info_parts Tryz.info22
  have hlen : (splitL 10 s).length ≤ 20001 := by rw [splitL_length]; have := List.count_le_length (a := 10) (l := s); omega
  exact lines_walk ⟨s.toArray⟩ w _ _ i0 hi hz0 hz1 hz2 hm hlen hs (Lib.hid (fun l hl => Nat.le_trans (splitL_len 10 s l hl) hs)) (Lib.hid (fun k l => linesL_bad hs)) (Lib.hid (linesL_good hs)) (split_any 10 s w hs hm)
theorem lines_any (s : ByteArray) (w : World) (hmax : s.size ≤ maxLen) (hm : HasM w) : Calls Tryz.prog 27 #[.string s] w (LinesPost w (linesL s.data.toList)) := by
  by_cases hs : 20000 < s.size
  · exact lines_big s w hs hmax
  · exact lines_small s.data.toList w (by rw [len_size]; omega) hm
end Go.Proofs.YtgmpggjikebcdaaGreatDoor
