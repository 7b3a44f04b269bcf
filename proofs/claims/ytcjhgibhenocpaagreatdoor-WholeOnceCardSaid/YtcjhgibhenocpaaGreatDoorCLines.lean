/-
  Lines of words, wherever they lie; the contracts of isPair, types, lettersOf.
-/
import Derived.Test.YtcjhgibhenocpaaGreatDoorCInstr
import Derived.Test.YtcjhgibhenocpaaGreatDoorUAG
namespace Go.Proofs.YtcjhgibhenocpaaGreatDoor
set_option linter.unusedSimpArgs false
set_option linter.unusedVariables false
open Go.RowKit

theorem GridAt.elems {w : World} {v : Value} {xss : List (List Bs)} (h : GridAt w v xss) :
    ∃ a c, v = .slice a xss.length c ∧ xss.length ≤ c ∧ c ≤ maxLen ∧ ∀ k x, xss[k]? = some x → ∃ b o u, a = some ⟨b, o, none⟩ ∧ b < w.heap.size ∧ w.cell? ⟨b, o + k, none⟩ = some u ∧ RowAt w u (x.map str) := by
  obtain ⟨vs, h1, ⟨a, c, rfl, h4, h5, h6⟩, h3⟩ := h
  refine ⟨a, c, by rw [h1], by omega, h5, fun k x hx => ?_⟩
  have hi : k < vs.length := by rw [h1]; exact (List.getElem?_eq_some_iff.1 hx).1
  have hu : vs[k]? = some vs[k] := List.getElem?_eq_getElem hi
  rcases h6 with rfl | ⟨b, o, rfl, hb, hc⟩
  · simp at hi
  · exact ⟨b, o, vs[k], rfl, hb, hc k _ hu, h3 k _ x hu hx⟩
theorem RowAt.drop {w : World} {a : Option Addr} {n c : Nat} {cs : List Value} (h : RowAt w (.slice a n c) cs) (lo : Nat) (hl : lo ≤ n) : RowAt w (.slice (if c = lo then a else a.map (·.add lo)) (n - lo) (c - lo)) (cs.drop lo) := by
  obtain ⟨a', c', e, h1, h2, h3⟩ := h
  simp only [Value.slice.injEq] at e
  obtain ⟨rfl, rfl, rfl⟩ := e
  refine ⟨_, _, by rw [List.length_drop], by rw [List.length_drop]; omega, by omega, ?_⟩
  rcases h3 with rfl | ⟨b, o, rfl, hb, hc⟩
  · left; simp
  · by_cases he : cs.drop lo = []
    · exact .inl he
    · right
      have hlt : lo < cs.length := by
        rcases Nat.lt_or_ge lo cs.length with h | h
        · exact h
        · exact absurd (List.drop_eq_nil_of_le h) he
      refine ⟨b, o + lo, ?_, hb, fun j x hx => ?_⟩
      · rw [if_neg (by omega)]; simp [Addr.add_mid]
      · rw [List.getElem?_drop] at hx
        rw [Nat.add_assoc]; exact hc _ x hx
theorem GridAt.drop {w : World} {a : Option Addr} {n c : Nat} {xss : List (List Bs)} (h : GridAt w (.slice a n c) xss) (lo : Nat) (hl : lo ≤ n) : GridAt w (.slice (if c = lo then a else a.map (·.add lo)) (n - lo) (c - lo)) (xss.drop lo) := by
  obtain ⟨vs, h1, h2, h3⟩ := h
  refine ⟨vs.drop lo, by simp [h1], h2.drop lo hl, fun i u x hu hx => ?_⟩
  rw [List.getElem?_drop] at hu hx
  exact h3 _ u x hu hx
theorem slice_run (a : Option Addr) (n c lo : Nat) (w : World) (hl : lo ≤ n) : (Instr.slice 57 (.slice a n c) (some (.int .i64 lo)) none none).run Tryz.prog w = .ok (.slice (if c = lo then a else a.map (·.add lo)) (n - lo) (c - lo)) w := by
  have hs : (sizeOf 22).run Tryz.prog w = .ok 1 w := by have := Tryz.sizeOf22 w; exact this
  simp [Instr.slice, Instr.sliceBounds, Instr.sliceBound, Sem.run_bind, run_underlying Tryz.underlying57, asIntOf, hl, hs, Result.andThen]

set_option maxRecDepth 100000 in
theorem isPair_any (nm : Bs) (v : Value) (ws : List Bs) (w : World) (h : RowAt w v (ws.map str)) : Calls Tryz.prog 95 #[str nm, v] w fun e w' => e = .returned (.bool (pairL nm ws)) ∧ w = w' := by
  obtain ⟨a, c, rfl, h1, h2, h3⟩ := h.elems
  unfold maxLen at h2
  clear h
  by_cases hl : ws.length = 2
  · obtain ⟨x, y, rfl⟩ := len2 hl
    obtain ⟨b, o, rfl, hb, hc⟩ := h3 0 x rfl
    rw [Nat.add_zero] at hc
    have e : pairL nm [x, y] = (x == nm) := by unfold pairL; simp
    rw [e]
    clear h3 hl e
    simp only [List.length_cons, List.length_nil] at *
    go_enter Tryz.func95, Tryz.ntmps95
    go_wp2
    go_ret
    exact ⟨rfl, rfl⟩
  · have e : pairL nm ws = false := by unfold pairL; simp [hl]
    rw [e]
    have hne : ((ws.length : Int) == 2) = false := by simp only [beq_eq_false_iff_ne]; omega
    clear h3 hl e
    go_enter Tryz.func95, Tryz.ntmps95
    go_wp2
    go_ret
    exact ⟨rfl, rfl⟩
theorem isPair_b (nm : Bs) (v : Value) (ws : List Bs) (b : Bool) (w : World) (h : RowAt w v (ws.map str)) (hb : pairL nm ws = b) : Calls Tryz.prog 95 #[str nm, v] w fun e w' => e = .returned (.bool b) ∧ w = w' := by
  subst hb; exact isPair_any nm v ws w h

theorem isPair_t (v : Value) (ws : List Bs) (b : Bool) (w : World) (h : RowAt w v (ws.map str)) (hb : pairL kType ws = b) : Calls Tryz.prog 95 #[.string ⟨#[116, 121, 112, 101]⟩, v] w fun e w' => e = .returned (.bool b) ∧ w = w' :=
  isPair_b kType v ws b w h hb

def tyOK (ws : List Bs) : Bool := pairL kType ws && typeL (snd ws)
theorem typesL_cons (x : List Bs) (r : List (List Bs)) : typesL (x :: r) = if tyOK x then snd x :: typesL r else [] := rfl
theorem typesL_break : ∀ (xss : List (List Bs)) (k : Nat) (x : List Bs), (∀ y ∈ xss.take k, tyOK y = true) → xss[k]? = some x → tyOK x = false → typesL xss = (xss.take k).map snd
  | [], _, _, _, h, _ => by simp at h
  | y :: r, 0, x, _, h, hx => by
    simp at h; subst h
    rw [typesL_cons, if_neg (by rw [hx]; simp)]; rfl
  | y :: r, k + 1, x, ha, h, hx => by
    rw [typesL_cons, if_pos (ha y (by simp)), typesL_break r k x (fun z hz => ha z (by simp [hz])) (by simpa using h) hx]; rfl
theorem typesL_all : ∀ (xss : List (List Bs)), (∀ y ∈ xss, tyOK y = true) → typesL xss = xss.map snd
  | [], _ => rfl
  | y :: r, ha => by
    rw [typesL_cons, if_pos (ha y (by simp)), typesL_all r (fun z hz => ha z (by simp [hz]))]; rfl
def tcells (xss : List (List Bs)) (k : Nat) : List Value := (xss.take k).map (fun x => str (snd x))
theorem tcells_next {xss : List (List Bs)} {k : Nat} {x : List Bs} (h : xss[k]? = some x) : tcells xss (k + 1) = tcells xss k ++ [str (snd x)] := by
  obtain ⟨hlt, rfl⟩ := List.getElem?_eq_some_iff.1 h
  unfold tcells; rw [List.take_succ_eq_append_getElem hlt, List.map_append]; rfl
structure TyRel (w : World) (xss : List (List Bs)) (k : Nat) (v : Value) (wr : World) : Prop where
  ok : ∀ y ∈ xss.take k, tyOK y = true
  row : wr.ownsRow w.heap.size 9 1 v k (tcells xss k)
  b : Below w.heap.size w wr
theorem tyRel_done {w wr : World} {xss : List (List Bs)} {k : Nat} {v : Value} {r : List Bs} (h : TyRel w xss k v wr) (hk : k ≤ xss.length) (hr : r = (xss.take k).map snd) : OwnS w r (.returned v) wr := by
  have hl : r.length = k := by rw [hr]; simp [hk]
  have hm : r.map str = tcells xss k := by rw [hr, List.map_map]; rfl
  have hrow := h.row
  rcases ownsRow_forms hrow with ⟨rfl, h0⟩ | ⟨g, cap, rfl⟩
  · subst h0
    exact ⟨none, 0, by rw [hl], by rw [hl, hm]; exact hrow, h.b⟩
  · exact ⟨some ⟨g, 0, none⟩, cap, by rw [hl], by rw [hl, hm]; exact hrow, h.b⟩
theorem tyRel_next {w wr w' : World} {xss : List (List Bs)} {k : Nat} {v v' : Value} {x : List Bs} {o : Obj} (h : TyRel w xss k v wr) (hx : xss[k]? = some x) (hok : tyOK x = true)
    (ho : w'.ownsRow w.heap.size 9 1 v' (k + 1) (tcells xss k ++ [str (snd x)])) (hg : (wr.alloc o).grownBy w' v.ownBlock) : TyRel w xss (k + 1) v' w' := by
  refine ⟨?_, by rw [tcells_next hx]; exact ho, ?_⟩
  · obtain ⟨hlt, rfl⟩ := List.getElem?_eq_some_iff.1 hx
    rw [List.take_succ_eq_append_getElem hlt]
    intro y hy
    rcases List.mem_append.1 hy with h' | h'
    · exact h.ok y h'
    · simp at h'; subst h'; exact hok
  · exact (h.b.alloc h.b.size o).grown hg (by have := h.b.size; simp; omega) (fun g hg' => ((h.row.alloc o).lt g hg').1)
theorem pair_parts {nm : Bs} {ws : List Bs} (h : pairL nm ws = true) : ∃ s, ws = [nm, s] := by
  unfold pairL at h
  simp only [Bool.and_eq_true, decide_eq_true_eq] at h
  obtain ⟨x, y, rfl⟩ := len2 h.1
  have : x = nm := by simpa using h.2
  subst this
  exact ⟨y, rfl⟩

set_option maxRecDepth 100000 in
set_option maxHeartbeats 400000 in
theorem types_any (v : Value) (xss : List (List Bs)) (w : World) (h : GridAt w v xss) (hsh : ∀ x ∈ xss, ∀ y ∈ x, y.length ≤ maxLen) (hlen : xss.length ≤ 100000) : Calls Tryz.prog 55 #[v] w (OwnS w (typesL xss)) := by
  obtain ⟨a, c, rfl, h1, h2, h3⟩ := h.elems
  obtain ⟨i9, q0, q1, q2, q3⟩ := info_parts Tryz.info9
  have HG := Lib.hid h3
  have HSH := Lib.hid hsh
  have HBR := Lib.hid (typesL_break xss)
  have HAL := Lib.hid (typesL_all xss)
  generalize typesL xss = R at *
  clear h h3 hsh
  unfold maxLen at h2
  go_enter Tryz.func55, Tryz.ntmps55
  go_wp2
  go_loopw [3, 8] (fun v i wr => ∃ k : Nat, k ≤ xss.length ∧ i = .int .i64 k ∧ TyRel w xss k v wr) (fun _ i _ => xss.length - (intOf i).toNat)
  case atStart => exact ⟨0, Nat.zero_le _, rfl, by simp, World.ownsRow_nil _ _ _ _, Below.refl _ _⟩
  case round =>
    obtain ⟨k, hk, rfl, hr⟩ := hrel
    have HR := Lib.hid hr
    have hrow := Lib.hid hr.row
    have hsz := hr.b.size
    by_cases hlt : k < xss.length
    · obtain ⟨x, hx⟩ : ∃ x, xss[k]? = some x := ⟨_, List.getElem?_eq_getElem hlt⟩
      obtain ⟨b, o, u, rfl, hb, hcl, hra⟩ := HG.out k x hx
      have hcw : wr.cell? ⟨b, o + k, none⟩ = some u := by rw [(bcell hr.b).1 b _ hb]; exact hcl
      have hrw := Lib.hid (hra.below hr.b)
      have HX := Lib.hid hx
      clear hr hx hcl hra
      rcases hp : pairL kType x with _ | _
      · have HP := Lib.hid hp
        have HE := Lib.hid (HBR.out k x HR.out.ok HX.out (by unfold tyOK; rw [HP.out]; rfl))
        clear hp
        go_wp2_with (go_at_call 95; ((with_reducible refine (isPair_t u x false _ hrw.out HP.out).mono ?_); rintro e w' ⟨rfl, rfl⟩))
        go_ret
        exact tyRel_done HR.out hk HE.out
      · obtain ⟨s, rfl⟩ := pair_parts hp
        have HP := Lib.hid hp
        clear hp
        obtain ⟨a', c', rfl, g1, g2, g3⟩ := hrw.out.elems
        obtain ⟨b', o', rfl, hb', hs'⟩ := g3 1 s rfl
        have hsl := HSH.out _ (List.mem_of_getElem? HX.out) s (by simp)
        unfold maxLen at g2
        simp only [List.length_cons, List.length_nil] at *
        clear g3
        rcases ht : typeL s with _ | _
        · have HT := Lib.hid ht
          have HE := Lib.hid (HBR.out k _ HR.out.ok HX.out (by unfold tyOK; rw [HP.out]; exact HT.out))
          clear ht
          go_wp2_with (first
            | (go_at_call 95; ((with_reducible refine (isPair_t _ _ true _ hrw.out HP.out).mono ?_); rintro e w' ⟨rfl, rfl⟩))
            | (go_at_call 41; refine (typeL_b s false _ hsl HT.out).mono ?_; rintro e w' ⟨rfl, rfl⟩))
          go_ret
          exact tyRel_done HR.out hk HE.out
        · have HT := Lib.hid ht
          have HOK := Lib.hid (show tyOK [kType, s] = true by unfold tyOK; rw [HP.out]; exact HT.out)
          clear ht
          go_wp2_with (first
            | (go_at_call 95; ((with_reducible refine (isPair_t _ _ true _ hrw.out HP.out).mono ?_); rintro e w' ⟨rfl, rfl⟩))
            | (go_at_call 41; refine (typeL_b s true _ hsl HT.out).mono ?_; rintro e w' ⟨rfl, rfl⟩)
            | (at_builtin; refine wpList_append_own _ rfl _ _ 22 rfl w.heap.size 9 i9 (.string ByteArray.empty) 1 16 Tryz.underlying22 q0 q1 q2 q3 rfl (by decide) _ _ _ rfl (hrow.out.alloc _) ⟨wr.heap.size, 0, none⟩ 1 1 [str s] rfl rfl ?c1 ?c2 ?c3 ?c4 ?c5 ?_))
          case c1 => exact one_cell wr _ _
          case c2 => exact one_one _
          case c3 => unfold maxLen; omega
          case c4 => omega
          case c5 => simp; omega
          intro v' w' ho hg _
          have HN := Lib.hid (tyRel_next HR.out HX.out HOK.out ho hg)
          clear ho hg
          go_wp2
          go_roundw
          case rel => exact ⟨k + 1, by omega, by go_num, HN.out⟩
          case measure => simp [intOf]; omega
    · obtain rfl : k = xss.length := by omega
      go_wp2
      go_ret
      refine tyRel_done HR.out hk ?_
      rw [List.take_length]
      exact HAL.out (by have := HR.out.ok; rwa [List.take_length] at this)

set_option maxRecDepth 100000 in
set_option maxHeartbeats 400000 in
theorem lettersOf_any (nm : Bs) (v : Value) (xss : List (List Bs)) (w : World) (h : GridAt w v xss) (hsh : ∀ x ∈ xss, ∀ y ∈ x, y.length ≤ maxLen) :
    Calls Tryz.prog 56 #[str nm, v] w fun e w' => e = .returned (.tuple #[str (lettersL nm xss).1, .bool (lettersL nm xss).2]) ∧ w = w' := by
  obtain ⟨a, c, rfl, h1, h2, h3⟩ := h.elems
  unfold maxLen at h2
  clear h
  rcases xss with _ | ⟨x, r⟩
  · simp only [List.length_nil] at *
    go_enter Tryz.func56, Tryz.ntmps56
    go_wp2
    go_ret2
    exact ⟨rfl, rfl⟩
  · obtain ⟨b, o, u, rfl, hb, hcl, hra⟩ := h3 0 x rfl
    rw [Nat.add_zero] at hcl
    have hsx := hsh x (by simp)
    have hpos : (0 : Int) < ((x :: r).length : Int) := by simp
    have hnz : (((x :: r).length : Int) == 0) = false := by simp only [beq_eq_false_iff_ne]; simp; omega
    have el : lettersL nm (x :: r) = if pairL nm x then (if snd x = [45] then ([], true) else (snd x, areL (snd x))) else ([], false) := rfl
    rw [el]
    generalize (x :: r).length = n at *
    have HRA := Lib.hid hra
    clear h3 hsh el hra
    rcases hp : pairL nm x with _ | _
    · have HP := Lib.hid hp
      rw [if_neg (by simp)]
      clear hp
      go_enter Tryz.func56, Tryz.ntmps56
      go_wp2_with (go_at_call 95; refine (isPair_b nm u x false _ HRA.out HP.out).mono ?_; rintro e w' ⟨rfl, rfl⟩)
      go_ret2
      exact ⟨rfl, rfl⟩
    · obtain ⟨s, rfl⟩ := pair_parts hp
      have HP := Lib.hid hp
      clear hp
      rw [if_pos rfl]
      obtain ⟨a', c', rfl, g1, g2, g3⟩ := HRA.out.elems
      obtain ⟨b', o', rfl, hb', hs'⟩ := g3 1 s rfl
      have hsl := hsx s (by simp)
      unfold maxLen at g2
      simp only [List.length_cons, List.length_nil] at *
      have e2 : snd [nm, s] = s := rfl
      rw [e2]
      clear g3 hsx e2
      by_cases hd : s = [45]
      · subst hd
        rw [if_pos rfl]
        go_enter Tryz.func56, Tryz.ntmps56
        go_wp2_with (go_at_call 95; refine (isPair_b nm _ _ true _ HRA.out HP.out).mono ?_; rintro e w' ⟨rfl, rfl⟩)
        go_ret2
        exact ⟨rfl, rfl⟩
      · rw [if_neg hd]
        have hd2 : (s == [45]) = false := by simpa using hd
        clear hd
        rcases hm : areL s with _ | _
        · have HM := Lib.hid hm
          clear hm
          go_enter Tryz.func56, Tryz.ntmps56
          go_wp2_with (first
            | (go_at_call 95; refine (isPair_b nm _ _ true _ HRA.out HP.out).mono ?_; rintro e w' ⟨rfl, rfl⟩)
            | (go_at_call 42; refine (areL_b s false _ hsl HM.out).mono ?_; rintro e w' ⟨rfl, rfl⟩))
          go_ret2
          exact ⟨rfl, rfl⟩
        · have HM := Lib.hid hm
          clear hm
          go_enter Tryz.func56, Tryz.ntmps56
          go_wp2_with (first
            | (go_at_call 95; refine (isPair_b nm _ _ true _ HRA.out HP.out).mono ?_; rintro e w' ⟨rfl, rfl⟩)
            | (go_at_call 42; refine (areL_b s true _ hsl HM.out).mono ?_; rintro e w' ⟨rfl, rfl⟩))
          go_ret2
          exact ⟨rfl, rfl⟩
end Go.Proofs.YtcjhgibhenocpaaGreatDoor
