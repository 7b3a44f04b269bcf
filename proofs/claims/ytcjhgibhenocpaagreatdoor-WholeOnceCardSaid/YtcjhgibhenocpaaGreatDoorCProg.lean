/-
  The contract of program.
-/
import Derived.Test.YtcjhgibhenocpaaGreatDoorCLines
namespace Go.Proofs.YtcjhgibhenocpaaGreatDoor
set_option linter.unusedSimpArgs false
set_option linter.unusedVariables false
open Go.RowKit

def codeCells (is : List PIns) : List Value := is.flatMap (fun i => (insC i).toList)
theorem codeCells_len (is : List PIns) : (codeCells is).length = is.length * 5 := by
  induction is with
  | nil => rfl
  | cons a r ih => unfold codeCells at ih ⊢; rw [List.flatMap_cons, List.length_append, ih]; simp; omega
theorem codeCells_snoc (is : List PIns) (i : PIns) : codeCells (is ++ [i]) = codeCells is ++ (insC i).toList := by unfold codeCells; simp
theorem flat_get : ∀ (is : List PIns) (j : Nat) (i : PIns) (t : Nat) (v : Value), is[j]? = some i → (insC i).toList[t]? = some v → (codeCells is)[j * 5 + t]? = some v
  | [], _, _, _, _, h, _ => by simp at h
  | a :: r, 0, i, t, v, h, hv => by
    simp at h; subst h
    unfold codeCells; rw [List.flatMap_cons, Nat.zero_mul, Nat.zero_add]
    have ht : t < (insC a).toList.length := (List.getElem?_eq_some_iff.1 hv).1
    rw [List.getElem?_append_left ht]; exact hv
  | a :: r, j + 1, i, t, v, h, hv => by
    have ih := flat_get r j i t v (by simpa using h) hv
    unfold codeCells at ih ⊢
    have hl : (insC a).toList.length = 5 := rfl
    rw [List.flatMap_cons, List.getElem?_append_right (by rw [hl]; omega), hl, show (j + 1) * 5 + t - 5 = j * 5 + t by omega]
    exact ih
theorem insRow_own {w : World} {B : Nat} {v : Value} {is : List PIns} (h : w.ownsRow B 60 5 v is.length (codeCells is)) : InsRow w v is := by
  rcases h.2 with ⟨rfl, h0⟩ | ⟨g, cap, cur, rfl, hB, hg, h1, h2, h3, h4⟩
  · have : is = [] := List.length_eq_zero_iff.1 h0
    subst this
    exact ⟨none, 0, rfl, Nat.le_refl _, Nat.zero_le _, fun j i hj => by simp at hj⟩
  · refine ⟨some ⟨g, 0, none⟩, cap, rfl, h1, h2, fun j i hj => ⟨g, 0, rfl, (Array.getElem?_eq_some_iff.1 hg).1, fun t v hv => ?_⟩⟩
    have := flat_get is j i t v hj hv
    rw [← h4, List.getElem?_take] at this
    have hx : cur.toList[j * 5 + t]? = some v := by
      split at this
      · exact this
      · cases this
    simp only [World.cell?, hg, Nat.zero_add]
    simpa using hx

/-- Instructions of lines. -/
theorem codeL_at : ∀ (ls : List (List Bs)) (k0 k : Nat) (is : List PIns) (ws : List Bs), (ls.take k).map instrL = is.map some → k0 + k ≤ 200 → ls[k]? = some ws → (instrL ws = none ∨ 200 ≤ k0 + k) → codeL k0 ls = .error (k0 + k)
  | [], _, _, _, _, _, _, h, _ => by simp at h
  | x :: r, k0, 0, is, ws, _, _, h, hb => by
    simp at h; subst h
    unfold codeL
    rcases hi : instrL x with _ | i
    · rfl
    · rw [hi] at hb
      rcases hb with hb | hb
      · cases hb
      · simp only; rw [if_pos (by omega)]; rfl
  | x :: r, k0, k + 1, is, ws, ha, hk, h, hb => by
    rcases is with _ | ⟨i, is⟩
    · simp at ha
    · simp only [List.take_succ_cons, List.map_cons, List.cons.injEq] at ha
      unfold codeL
      rw [ha.1]
      simp only
      have hb' : instrL ws = none ∨ 200 ≤ k0 + 1 + k := by
        rcases hb with hb | hb
        · exact .inl hb
        · exact .inr (by omega)
      rw [if_neg (by omega), codeL_at r (k0 + 1) k is ws ha.2 (by omega) (by simpa using h) hb']
      show Except.error (k0 + 1 + k) = Except.error (k0 + (k + 1))
      rw [show k0 + 1 + k = k0 + (k + 1) by omega]
theorem codeL_all : ∀ (ls : List (List Bs)) (k0 : Nat) (is : List PIns), ls.map instrL = is.map some → k0 + ls.length ≤ 200 → codeL k0 ls = .ok is
  | [], _, is, h, _ => by
    have : is = [] := by simpa using h.symm
    subst this; rfl
  | x :: r, k0, is, h, hk => by
    rcases is with _ | ⟨i, is⟩
    · simp at h
    · simp only [List.map_cons, List.cons.injEq] at h
      simp only [List.length_cons] at hk
      unfold codeL
      rw [h.1]
      simp only
      rw [if_neg (by omega), codeL_all r (k0 + 1) is h.2 (by omega)]

abbrev zeroP : Array Value := #[.slice none 0 0, .string ⟨#[]⟩, .string ⟨#[]⟩, .slice none 0 0]
/-- A program in rows of the call's own. -/
def ProgOwn (w : World) (B : Nat) (v : Value) (p : PProg) : Prop := ∃ vt vc, v = .agg (progC vt p vc) ∧ w.ownsRow B 9 1 vt p.types.length (p.types.map str) ∧ w.ownsRow B 60 5 vc p.code.length (codeCells p.code)
theorem ProgOwn.at {w : World} {B : Nat} {v : Value} {p : PProg} (h : ProgOwn w B v p) : ProgAt w v p := by
  obtain ⟨vt, vc, rfl, h1, h2⟩ := h
  exact ⟨vt, vc, rfl, RowAt.of_own h1, insRow_own h2⟩
theorem ProgOwn.below {w w' : World} {B : Nat} {v : Value} {p : PProg} (h : ProgOwn w B v p) (hb : Below w.heap.size w w') : ProgOwn w' B v p := by
  obtain ⟨vt, vc, rfl, h1, h2⟩ := h
  exact ⟨vt, vc, rfl, own_below h1 hb, own_below h2 hb⟩
theorem ProgOwn.le {w : World} {B B' : Nat} {v : Value} {p : PProg} (h : ProgOwn w B v p) (hb : B' ≤ B) : ProgOwn w B' v p := by
  obtain ⟨vt, vc, rfl, h1, h2⟩ := h
  exact ⟨vt, vc, rfl, ownsRow_le h1 hb, ownsRow_le h2 hb⟩
theorem ProgOwn.put {w : World} {B b : Nat} {v : Value} {p : PProg} {old cs : Array Value} (h : ProgOwn w B v p) (hb : blk w b old 25) : ProgOwn (putB w b cs 25) B v p := by
  obtain ⟨vt, vc, rfl, h1, h2⟩ := h
  exact ⟨vt, vc, rfl, own_putO h1 hb (fun cur e => by cases e), own_putO h2 hb (fun cur e => by cases e)⟩
def ProgPost (w : World) (r : PProg × Nat × Bool) (e : Ending) (w' : World) : Prop :=
  ∃ pv, e = .returned (.tuple #[pv, .int .i64 r.2.1, .bool r.2.2]) ∧ ProgOwn w' w.heap.size pv r.1 ∧ Below w.heap.size w w'
theorem rowAt_nil (w : World) : RowAt w (.slice none 0 0) [] := ⟨none, 0, rfl, Nat.le_refl _, Nat.zero_le _, .inl rfl⟩
theorem none_own (w : World) (B : Nat) : ProgOwn w B (.agg zeroP) noneP := ⟨.slice none 0 0, .slice none 0 0, rfl, World.ownsRow_nil _ _ _ _, World.ownsRow_nil _ _ _ _⟩
theorem zeroP_one : zeroP.all (·.oneCell') = true := all_oneCell_toArray (cs := zeroP.toList) (by intro v h; simp at h; rcases h with rfl | rfl | rfl <;> rfl)
theorem progPost_none {w w' : World} {z : Int} {n : Nat} (hz : z = n) (hb : Below w.heap.size w w') : ProgPost w (noneP, n, false) (.returned (.tuple #[.agg zeroP, .int .i64 z, .bool false])) w' :=
  ⟨.agg zeroP, by rw [hz], none_own w' _, hb⟩

/-- The program read so far. -/
structure PgRel (w1 : World) (ts : Value) (l g : Bs) (is : List PIns) (vc : Value) (wr : World) : Prop where
  p : blk wr w1.heap.size #[ts, str l, str g, vc] 25
  row : wr.ownsRow (w1.heap.size + 1) 60 5 vc is.length (codeCells is)
  b : Below w1.heap.size w1 wr
theorem PgRel.below {w1 wr w' : World} {ts : Value} {l g : Bs} {is : List PIns} {vc : Value} (h : PgRel w1 ts l g is vc wr) (hb : Below wr.heap.size wr w') : PgRel w1 ts l g is vc w' :=
  ⟨blk_below h.p hb, own_below h.row hb, h.b.trans (hb.mono h.b.size)⟩
theorem PgRel.lt {w1 wr : World} {ts : Value} {l g : Bs} {is : List PIns} {vc : Value} (h : PgRel w1 ts l g is vc wr) : w1.heap.size + 1 ≤ wr.heap.size := blk_lt h.p
theorem PgRel.step {w1 wr w' : World} {ts : Value} {l g : Bs} {is : List PIns} {vc v' : Value} {i : PIns} {o : Obj} (h : PgRel w1 ts l g is vc wr)
    (ho : w'.ownsRow (w1.heap.size + 1) 60 5 v' (is.length + 1) (codeCells is ++ (insC i).toList)) (hg : (wr.alloc o).grownBy w' vc.ownBlock) :
    blk w' w1.heap.size #[ts, str l, str g, vc] 25 ∧ PgRel w1 ts l g (is ++ [i]) v' (w'.setCell ⟨w1.heap.size, 3, none⟩ v') := by
  have hp : blk w' w1.heap.size #[ts, str l, str g, vc] 25 := grown_keep (h.row.alloc o) hg (blk_alloc h.p o) (fun cur e => by cases e)
  refine ⟨hp, ?_⟩
  rw [setCell_putB hp]
  have hrow : w'.ownsRow (w1.heap.size + 1) 60 5 v' (is ++ [i]).length (codeCells (is ++ [i])) := by rw [codeCells_snoc, List.length_append]; exact ho
  refine ⟨putB_at hp _ _, own_putO hrow hp (fun cur e => by cases e), ?_⟩
  have hlt := h.lt
  exact ((h.b.alloc h.b.size o).grown hg (by simp; omega) (fun g hg' => by have := ((h.row.alloc o).lt g hg').1; omega)).trans (putB_below _ (Nat.le_refl _) _ _)

theorem typesL_len (xss : List (List Bs)) : (typesL xss).length ≤ xss.length := by
  induction xss with
  | nil => simp [typesL]
  | cons x r ih => rw [typesL_cons]; split <;> simp <;> omega
theorem prog_l {xss : List (List Bs)} (h : (lettersL kLocals (xss.drop (typesL xss).length)).2 = false) : programL xss = (noneP, (typesL xss).length, false) := by
  unfold programL; simp only; rw [h]; simp
theorem prog_g {xss : List (List Bs)} (h : (lettersL kLocals (xss.drop (typesL xss).length)).2 = true) (h2 : (lettersL kGlobals (xss.drop ((typesL xss).length + 1))).2 = false) : programL xss = (noneP, (typesL xss).length + 1, false) := by
  unfold programL; simp only; rw [h, h2]; simp
theorem prog_c {xss : List (List Bs)} {k : Nat} (h : (lettersL kLocals (xss.drop (typesL xss).length)).2 = true) (h2 : (lettersL kGlobals (xss.drop ((typesL xss).length + 1))).2 = true)
    (h3 : codeL 0 (xss.drop ((typesL xss).length + 2)) = .error k) : programL xss = (noneP, (typesL xss).length + 2 + k, false) := by
  unfold programL; simp only; rw [h, h2, h3]; simp
theorem prog_o {xss : List (List Bs)} {is : List PIns} (h : (lettersL kLocals (xss.drop (typesL xss).length)).2 = true) (h2 : (lettersL kGlobals (xss.drop ((typesL xss).length + 1))).2 = true)
    (h3 : codeL 0 (xss.drop ((typesL xss).length + 2)) = .ok is) : programL xss = (⟨typesL xss, (lettersL kLocals (xss.drop (typesL xss).length)).1, (lettersL kGlobals (xss.drop ((typesL xss).length + 1))).1, is⟩, xss.length, true) := by
  unfold programL; simp only; rw [h, h2, h3]; simp
/-- Letters are of a line that is there. -/
theorem letters_pos {nm : Bs} {xss : List (List Bs)} (h : (lettersL nm xss).2 = true) : 1 ≤ xss.length := by
  cases xss with
  | nil => simp [lettersL] at h
  | cons x r => simp
theorem insRow_zero : (Tryz.prog.info? 60).map (fun i => (i.zero, i.size, i.bytes)) = some (some (.agg zeroC), 5, 16) := by kernel_rfl
theorem letOf_at (nm : Bs) (nmb : ByteArray) (hnm : nmb = ⟨nm.toArray⟩) (v : Value) (xss : List (List Bs)) (w : World) (l : Bs) (b : Bool) (h : GridAt w v xss) (hsh : ∀ x ∈ xss, ∀ y ∈ x, y.length ≤ maxLen) (hl : lettersL nm xss = (l, b)) :
    Calls Tryz.prog 56 #[.string nmb, v] w fun e w' => e = .returned (.tuple #[str l, .bool b]) ∧ w = w' := by
  subst hnm
  have := lettersOf_any nm v xss w h hsh
  rw [hl] at this
  exact this

theorem prog_one {W : World} {B n : Nat} {cs : List Value} (a : Option Addr) (m c : Nat) (ls : Bs × Bs) {vc : Value} (h : W.ownsRow B 60 5 vc n cs) : (#[.slice a m c, str ls.1, str ls.2, vc] : Array Value).all (·.oneCell') = true := by
  have hv : vc.oneCell' = true := by
    rcases ownsRow_forms h with ⟨rfl, _⟩ | ⟨g, cap, rfl⟩ <;> rfl
  refine all_oneCell_toArray (cs := [.slice a m c, str ls.1, str ls.2, vc]) ?_
  intro v hm
  simp at hm
  rcases hm with rfl | rfl | rfl | rfl
  · rfl
  · rfl
  · rfl
  · exact hv

set_option maxRecDepth 100000 in
set_option maxHeartbeats 1000000 in
theorem prog_walk (a : Option Addr) (c : Nat) (xss : List (List Bs)) (w : World) (R : PProg × Nat × Bool) (ts : List Bs) (l g : Bs) (lb gb : Bool) (v1 v2 : Value) (a3 : Option Addr) (c3 : Nat) (rest : List (List Bs)) (hlen : xss.length ≤ 100000) (htl : ts.length ≤ xss.length)
    (hrl : rest.length ≤ 100000) (_hc3 : rest.length ≤ c3) (_hm3 : c3 ≤ 9223372036854775807)
    (HTY : Hid (Calls Tryz.prog 55 #[.slice a xss.length c] (w.alloc (.cells zeroP 25)) (OwnS (w.alloc (.cells zeroP 25)) ts)))
    (HS1 : Hid (∀ W, (Instr.sliceAt 57 (.slice a xss.length c) (some (.int .i64 ts.length)) none none).run Tryz.prog W = .ok v1 W))
    (HS2 : Hid (lb = true → ∀ W, (Instr.sliceAt 57 (.slice a xss.length c) (some (.int .i64 ((ts.length : Int) + 1))) none none).run Tryz.prog W = .ok v2 W))
    (HS3 : Hid (lb = true → gb = true → ∀ W, (Instr.sliceAt 57 (.slice a xss.length c) (some (.int .i64 ((ts.length : Int) + 1 + 1))) none none).run Tryz.prog W = .ok (.slice a3 rest.length c3) W))
    (HL1 : Hid (∀ W, Below w.heap.size w W → Calls Tryz.prog 56 #[.string ⟨#[108, 111, 99, 97, 108, 115]⟩, v1] W fun e w' => e = .returned (.tuple #[str l, .bool lb]) ∧ W = w'))
    (HL2 : Hid (lb = true → ∀ W, Below w.heap.size w W → Calls Tryz.prog 56 #[.string ⟨#[103, 108, 111, 98, 97, 108, 115]⟩, v2] W fun e w' => e = .returned (.tuple #[str g, .bool gb]) ∧ W = w'))
    (HG3 : Hid (∀ k x, rest[k]? = some x → ∃ b o u, a3 = some ⟨b, o, none⟩ ∧ b < w.heap.size ∧ w.cell? ⟨b, o + k, none⟩ = some u ∧ ∀ W, Below w.heap.size w W → Calls Tryz.prog 57 #[u] W (InstrPost W (instrL x))))
    (HRL : Hid (lb = false → R = (noneP, ts.length, false))) (HRG : Hid (lb = true → gb = false → R = (noneP, ts.length + 1, false)))
    (HRC : Hid (lb = true → gb = true → ∀ k, codeL 0 rest = .error k → R = (noneP, ts.length + 2 + k, false))) (HRO : Hid (lb = true → gb = true → ∀ is, codeL 0 rest = .ok is → R = (⟨ts, l, g, is⟩, xss.length, true))) :
    Calls Tryz.prog 24 #[.slice a xss.length c] w (ProgPost w R) := by
  obtain ⟨i40, q0, q1, q2, q3⟩ := info_parts insRow_zero
  have hs1 := HS1.out
  have zone := zeroP_one
  have ZONE := Lib.hid zone
  clear zone
  rcases lb with _ | _
  · go_enter Tryz.func24, Tryz.ntmps24
    go_wp2_with (first
      | (go_at_call 55; refine HTY.out.mono ?_; rintro e w1 ⟨a1, c1, rfl, ho1, hb1⟩; have K1 := Lib.hid (blk_below (blk_new w zeroP 25) hb1); have s1 := hb1.size; rw [World.size_alloc] at s1; have HB1 := Lib.hid (((Below.refl _ _).alloc (Nat.le_refl _) _ : Below w.heap.size w (w.alloc (.cells zeroP 25))).trans (hb1.mono (by simp))); have HO1 := Lib.hid ho1; clear hb1 ho1)
      | (go_at_call 56; refine (HL1.out _ (HB1.out.alloc (by omega) _)).mono ?_; rintro e w' ⟨rfl, rfl⟩; clear HL1)
      | (refine wpList_putB rfl 25 _ _ rfl w.heap.size zeroP rfl rfl 25 _ (blk_alloc K1.out _) prog_info rfl ZONE.out ?_))
    refine bodyPost_ret (v := .tuple #[.agg zeroP, .int .i64 ts.length, .bool false]) ?_ rfl ?_
    · rw [res_cell2 (p := 2) (u := 3) (v := 4) rfl _ _ w.heap.size zeroP 25 _ rfl (putB_at (blk_alloc K1.out _) _ _) Tryz.underlying25 rfl prog_info]; rfl
    · rw [HRL.out (by trivial)]
      exact progPost_none rfl ((HB1.out.alloc (by omega) _).trans (putB_below _ (Nat.le_refl _) _ _))
  · have hs2 := HS2.out rfl
    have HL2' := HL2.out rfl
    rcases gb with _ | _
    · go_enter Tryz.func24, Tryz.ntmps24
      go_wp2_with (first
        | (go_at_call 55; refine HTY.out.mono ?_; rintro e w1 ⟨a1, c1, rfl, ho1, hb1⟩; have K1 := Lib.hid (blk_below (blk_new w zeroP 25) hb1); have s1 := hb1.size; rw [World.size_alloc] at s1; have HB1 := Lib.hid (((Below.refl _ _).alloc (Nat.le_refl _) _ : Below w.heap.size w (w.alloc (.cells zeroP 25))).trans (hb1.mono (by simp))); have HO1 := Lib.hid ho1; clear hb1 ho1)
        | (go_at_call 56; refine (HL1.out _ (HB1.out.alloc (by omega) _)).mono ?_; rintro e w' ⟨rfl, rfl⟩; clear HL1)
        | (go_at_call 56; refine (HL2' _ (HB1.out.alloc (by omega) _)).mono ?_; rintro e w' ⟨rfl, rfl⟩; clear HL2')
        | (refine wpList_putB rfl 25 _ _ rfl w.heap.size zeroP rfl rfl 25 _ (blk_alloc K1.out _) prog_info rfl ZONE.out ?_))
      refine bodyPost_ret (v := .tuple #[.agg zeroP, .int .i64 ((ts.length : Int) + 1), .bool false]) ?_ rfl ?_
      · rw [res_cell2 (p := 2) (u := 3) (v := 4) rfl _ _ w.heap.size zeroP 25 _ rfl (putB_at (blk_alloc K1.out _) _ _) Tryz.underlying25 rfl prog_info]; rfl
      · rw [HRG.out (by trivial) (by trivial)]
        exact progPost_none (by omega) ((HB1.out.alloc (by omega) _).trans (putB_below _ (Nat.le_refl _) _ _))
    · have hs3 := HS3.out rfl rfl
      have HRC' := Lib.hid (HRC.out rfl rfl)
      have HRO' := Lib.hid (HRO.out rfl rfl)
      go_enter Tryz.func24, Tryz.ntmps24
      go_wp2_with (first
        | (go_at_call 55; refine HTY.out.mono ?_; rintro e w1 ⟨a1, c1, rfl, ho1, hb1⟩; have K1 := Lib.hid (blk_below (blk_new w zeroP 25) hb1); have s1 := hb1.size; rw [World.size_alloc] at s1; have HB1 := Lib.hid (((Below.refl _ _).alloc (Nat.le_refl _) _ : Below w.heap.size w (w.alloc (.cells zeroP 25))).trans (hb1.mono (by simp))); have HO1 := Lib.hid ho1; clear hb1 ho1)
        | (go_at_call 56; refine (HL1.out _ (HB1.out.alloc (by omega) _)).mono ?_; rintro e w' ⟨rfl, rfl⟩; clear HL1)
        | (go_at_call 56; refine (HL2' _ (HB1.out.alloc (by omega) _)).mono ?_; rintro e w' ⟨rfl, rfl⟩; clear HL2'))
      have HS := Lib.hid (show PgRel w1 (.slice a1 ts.length c1) l g [] (.slice none 0 0) (w1.alloc (.cells #[.slice a1 ts.length c1, str l, str g, .slice none 0 0] 25)) from
        ⟨blk_new _ _ _, World.ownsRow_nil _ _ _ _, (Below.refl _ _).alloc (Nat.le_refl _) _⟩)
      go_loopw [50] (fun i wr => ∃ (k : Nat) (is : List PIns) (vc : Value), k ≤ rest.length ∧ k ≤ 200 ∧ i = .int .i64 k ∧ is.length = k ∧ Hid ((rest.take k).map instrL = is.map some) ∧ PgRel w1 (.slice a1 ts.length c1) l g is vc wr) (fun i _ => rest.length - (intOf i).toNat)
      case atStart => exact ⟨0, [], _, by omega, by omega, rfl, rfl, Lib.hid rfl, HS.out⟩
      case round =>
        obtain ⟨k, is, vc, hk, hk2, rfl, hil, hok, hr⟩ := hrel
        clear HS
        have HR := Lib.hid hr
        have hrl1 := hr.lt
        clear hr
        by_cases hlt : k < rest.length
        · obtain ⟨x, hx⟩ : ∃ x, rest[k]? = some x := ⟨_, List.getElem?_eq_getElem hlt⟩
          obtain ⟨b, o, u, rfl, hb, hcl, hIN⟩ := HG3.out k x hx
          have HBR := Lib.hid (HB1.out.trans (HR.out.b.mono (by omega)))
          have hcw : wr.cell? ⟨b, o + k, none⟩ = some u := by rw [(bcell HBR.out).1 b _ hb]; exact hcl
          have HIN := Lib.hid (hIN wr HBR.out)
          have HX := Lib.hid hx
          have HBAD : Hid (instrL x = none ∨ 200 ≤ k → codeL 0 rest = .error k) := Lib.hid fun h => by have := codeL_at rest 0 k is x hok.out (by omega) HX.out (by simpa using h); simpa using this
          clear hx hcl hIN hb
          rcases hin : instrL x with _ | i
          · rw [hin] at HIN
            have HE := Lib.hid (HRC'.out k (HBAD.out (.inl hin)))
            clear hin
            go_wp2_with (first
              | (go_at_call 57; refine HIN.out.mono ?_; rintro e w3 ⟨rfl, hb3⟩; have hs4 := hb3.size; have HB3 := Lib.hid hb3; clear hb3)
              | (refine wpList_putB rfl 25 _ _ rfl w.heap.size zeroP rfl rfl 25 _ (blk_alloc (blk_below (blk_below K1.out HR.out.b) HB3.out) _) prog_info rfl ZONE.out ?_))
            refine bodyPost_ret (v := .tuple #[.agg zeroP, .int .i64 ((ts.length : Int) + 1 + 1 + k), .bool false]) ?_ rfl ?_
            · rw [res_cell2 (p := 2) (u := 3) (v := 4) rfl _ _ w.heap.size zeroP 25 _ rfl (putB_at (blk_alloc (blk_below (blk_below K1.out HR.out.b) HB3.out) _) _ _) Tryz.underlying25 rfl prog_info]; rfl
            · rw [HE.out]
              exact progPost_none (by omega) (((HBR.out.trans (HB3.out.mono (by omega))).alloc (by omega) _).trans (putB_below _ (Nat.le_refl _) _ _))
          · rw [hin] at HIN
            by_cases h200 : 200 ≤ k
            · have HE := Lib.hid (HRC'.out k (HBAD.out (.inr h200)))
              clear hin
              go_wp2_with (first
                | (go_at_call 57; refine HIN.out.mono ?_; rintro e w3 ⟨rfl, hb3⟩; have hs4 := hb3.size; have HB3 := Lib.hid hb3; clear hb3)
                | (refine wpList_putB rfl 25 _ _ rfl w.heap.size zeroP rfl rfl 25 _ (blk_alloc (blk_below (blk_below K1.out HR.out.b) HB3.out) _) prog_info rfl ZONE.out ?_))
              refine bodyPost_ret (v := .tuple #[.agg zeroP, .int .i64 ((ts.length : Int) + 1 + 1 + k), .bool false]) ?_ rfl ?_
              · rw [res_cell2 (p := 2) (u := 3) (v := 4) rfl _ _ w.heap.size zeroP 25 _ rfl (putB_at (blk_alloc (blk_below (blk_below K1.out HR.out.b) HB3.out) _) _ _) Tryz.underlying25 rfl prog_info]; rfl
              · rw [HE.out]
                exact progPost_none (by omega) (((HBR.out.trans (HB3.out.mono (by omega))).alloc (by omega) _).trans (putB_below _ (Nat.le_refl _) _ _))
            · have hIS := Lib.hid (show (rest.take (k + 1)).map instrL = (is ++ [i]).map some by
                obtain ⟨h1, h2⟩ := List.getElem?_eq_some_iff.1 HX.out
                rw [List.take_succ_eq_append_getElem h1, List.map_append, hok.out, h2, List.map_append]
                simp [hin])
              clear hin
              go_wp2_with (first
                | (go_at_call 57; refine HIN.out.mono ?_; rintro e w3 ⟨rfl, hb3⟩; have hs4 := hb3.size; have hp3 := (HR.out.below hb3).below ((Below.refl _ _).alloc (Nat.le_refl _) (.cells (insC i) 60)); have kc3 := blk_cell hp3.p 3 _ rfl; have HP3 := Lib.hid hp3; have HB3 := Lib.hid hb3; clear hb3 hp3)
                | (at_builtin; refine wpList_append_own _ rfl _ _ 23 rfl (w1.heap.size + 1) 60 i40 (.agg zeroC) 5 16 Tryz.underlying23 q0 q1 q2 q3 rfl (by decide) _ is.length (codeCells is) rfl (HP3.out.row.alloc _) ⟨w3.heap.size + 1, 0, none⟩ 1 1 (insC i).toList rfl rfl ?c1 ?c2 ?c3 ?c4 ?c5 ?_))
              try (case c1 =>
                have h1 := heap_alloc_new (w3.alloc (.cells (insC i) 60)) (.cells (insC i) 60)
                rw [World.size_alloc] at h1
                exact World.news_of_block h1)
              case c2 => exact ⟨rfl, rfl, rfl, rfl, rfl⟩
              case c3 => unfold maxLen; omega
              case c4 => omega
              case c5 => simp; omega
              intro v' w' ho hg _
              obtain ⟨g', cap', rfl⟩ : ∃ g' cap', v' = .slice (some ⟨g', 0, none⟩) (k + 1) cap' := by
                rcases ownsRow_forms ho with ⟨_, h0⟩ | h
                · omega
                · exact h
              obtain ⟨hpw, hnx⟩ := HP3.out.step (i := i) (by rw [hil]; exact ho) hg
              have kc4 := blk_cell hpw 3 _ rfl
              have kf4 := blk_frozen hpw 3
              have HNX := Lib.hid hnx
              clear ho hg hpw hnx kc3
              go_wp2
              go_roundw
              case rel => exact ⟨k + 1, is ++ [i], _, by omega, by omega, by go_num, by simp [hil], Lib.hid hIS.out, HNX.out⟩
              case measure => simp [intOf]; omega
        · obtain rfl : k = rest.length := by omega
          have HOKL := Lib.hid (HRO'.out is (by have := codeL_all rest 0 is (by have := hok.out; rwa [List.take_length] at this) (by omega); exact this))
          have KW := Lib.hid (blk_below K1.out HR.out.b)
          have HROW := Lib.hid (own_putO (o := .cells #[.slice a1 ts.length c1, str l, str g, vc] 25) (own_below HO1.out HR.out.b) KW.out (fun cur e => by cases e))
          have HROW2 := Lib.hid (own_putO (o := .cells #[.slice a1 ts.length c1, str l, str g, vc] 25) HR.out.row KW.out (fun cur e => by cases e))
          go_wp2_with (first
            | (refine wpList_loadB rfl 25 _ rfl w1.heap.size #[.slice a1 ts.length c1, str l, str g, vc] rfl 25 HR.out.p _ Tryz.underlying25 rfl prog_info ?_)
            | (refine wpList_putB rfl 25 _ _ rfl w.heap.size #[.slice a1 ts.length c1, str l, str g, vc] rfl rfl 25 _ KW.out prog_info rfl (prog_one _ _ _ (l, g) HROW2.out) ?_))
          refine bodyPost_ret (v := .tuple #[.agg #[.slice a1 ts.length c1, str l, str g, vc], .int .i64 xss.length, .bool true]) ?_ rfl ?_
          · rw [res_cell2 (p := 2) (u := 3) (v := 4) rfl _ _ w.heap.size #[.slice a1 ts.length c1, str l, str g, vc] 25 _ rfl (putB_at KW.out _ _) Tryz.underlying25 rfl prog_info]; rfl
          · rw [HOKL.out]
            refine ⟨_, rfl, ⟨_, _, rfl, ownsRow_le HROW.out (by simp), ownsRow_le HROW2.out (by omega)⟩, ?_⟩
            exact (HB1.out.trans (HR.out.b.mono (by omega))).trans (putB_below _ (Nat.le_refl _) _ _)
end Go.Proofs.YtcjhgibhenocpaaGreatDoor
