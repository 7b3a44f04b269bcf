/-
  The contract of the document's Parse.
-/
import Derived.Test.YtgmpggjikebcdaaGreatDoorZNamed
import Derived.Test.YtgmpggjikebcdaaGreatDoorRSame
import Derived.Test.YtgmpggjikebcdaaGreatDoorCBackP
import Derived.Deep.CutBlock
namespace Go.Proofs.YtgmpggjikebcdaaGreatDoor
open Go.RowKit

theorem same_any (v u : Value) (p q : PProg) (b : Bool) (w : World) (h : ProgAt w v p) (h' : ProgAt w u q) (hb : b = true ↔ p = q) : Calls Tryz.prog 13 #[v, u] w (AggPost w (.bool b)) := by
  obtain ⟨vt, vc, rfl, ht, hc⟩ := h
  obtain ⟨ut, uc, rfl, ht', hc'⟩ := h'
  obtain ⟨a, c, rfl, h1, h2, h3⟩ := ht.elems
  obtain ⟨a', c', rfl, g1, g2, g3⟩ := hc
  obtain ⟨d, f, rfl, k1, k2, k3⟩ := ht'.elems
  obtain ⟨d', f', rfl, m1, m2, m3⟩ := hc'
  unfold maxLen at h2 g2 k2 m2
  exact same_walk a a' d d' c c' f f' p q b w ⟨h1, by omega⟩ ⟨g1, by omega⟩ ⟨k1, by omega⟩ ⟨m1, by omega⟩ (Lib.hid h3) (Lib.hid k3) (Lib.hid g3) (Lib.hid m3) (Lib.hid hb)

/-- What a text is parsed as, out of its rows. -/
def RdPost (w : World) (p : PProg) (n e : Int) (x : Ending) (w' : World) : Prop := ∃ vt vc, x = .returned (.tuple #[.agg #[vt, str p.locals, str p.globs, vc], .int .i64 n, .int .i64 e]) ∧
  Hid (ProgAt w' (.agg #[vt, str p.locals, str p.globs, vc]) p ∧ (#[vt, str p.locals, str p.globs, vc] : Array Value).all (·.oneCell') = true) ∧ Hid (Below w.heap.size w w')
theorem parse_str (x : Bs) (r : PProg × Nat × Nat) (w : World) (hA : HasAll w) (hx : x.length ≤ 140737488355328) (h : parseL x = r) : Calls Tryz.prog 11 #[str x] w (RdPost w r.1 r.2.1 r.2.2) := by
  have hp := parse_any ⟨x.toArray⟩ w (by show x.toArray.size ≤ _; unfold maxLen; simp; omega) hA.m hA.o hA.e
  rw [show (⟨x.toArray⟩ : ByteArray).data.toList = x from rfl, h] at hp
  refine hp.mono ?_
  rintro e w' ⟨pv, rfl, ⟨vt, vc, rfl, h1, h2⟩, hb⟩
  exact ⟨vt, vc, rfl, Lib.hid ⟨⟨vt, vc, rfl, RowAt.of_own h1, insRow_own h2⟩, progC_one (P := r.1) h1 h2⟩, Lib.hid hb⟩
theorem GridAt.elems' {w : World} {a : Option Addr} {n c : Nat} {xss : List (List Bs)} (h : GridAt w (.slice a n c) xss) : n = xss.length ∧ xss.length ≤ c ∧ c ≤ 9223372036854775807 ∧
    ∀ k x, xss[k]? = some x → ∃ b o u, a = some ⟨b, o, none⟩ ∧ b < w.heap.size ∧ w.cell? ⟨b, o + k, none⟩ = some u ∧ RowAt w u (x.map str) := by
  obtain ⟨a', c', e, h1, h2, h3⟩ := h.elems
  simp only [Value.slice.injEq] at e
  obtain ⟨rfl, rfl, rfl⟩ := e
  exact ⟨rfl, h1, by unfold maxLen at h2; omega, h3⟩
theorem own_apart2 {w : World} {B B' n m : Nat} {u v : Value} {xs ys : List Value} (hu : w.ownsRow B 9 1 u n xs) (hv : w.ownsRow B' 27 5 v m ys) : u.ownBlock = none ∨ u.ownBlock ≠ v.ownBlock := by
  rcases hu.2 with ⟨rfl, _⟩ | ⟨g, cap, cur, rfl, _, hg, _⟩
  · exact .inl rfl
  · rcases hv.2 with ⟨rfl, _⟩ | ⟨g', cap', cur', rfl, _, hg', _⟩
    · right; simp [Value.ownBlock]
    · right
      intro h
      simp [Value.ownBlock] at h
      subst h
      rw [hg] at hg'
      simp at hg'

/-- The program read so far, its types in a row that was made behind its block. -/
structure PqRel (w1 : World) (ts : List Bs) (vt : Value) (l g : Bs) (is : List PIns) (vc : Value) (wr : World) : Prop where
  q : PgRel w1 vt l g is vc wr
  trow : wr.ownsRow (w1.heap.size + 1) 9 1 vt ts.length (ts.map str)
section
variable {w1 wr w' : World} {ts : List Bs} {l g : Bs} {is : List PIns} {vt vc v' : Value} {o : Obj} {G : List (List Bs)} {k : Nat}
theorem PqRel.below (h : PqRel w1 ts vt l g is vc wr) (hb : Below wr.heap.size wr w') : PqRel w1 ts vt l g is vc w' := ⟨h.q.below hb, own_below h.trow hb⟩
theorem PqRel.step {i : PIns} (h : PqRel w1 ts vt l g is vc wr) (ho : w'.ownsRow (w1.heap.size + 1) 27 5 v' (is.length + 1) (codeCells is ++ (insC i).toList)) (hg : (wr.alloc o).grownBy w' vc.ownBlock) :
    blk w' w1.heap.size #[vt, str l, str g, vc] 25 ∧ PqRel w1 ts vt l g (is ++ [i]) v' (w'.setCell ⟨w1.heap.size, 3, none⟩ v') := by
  obtain ⟨hp, hn⟩ := h.q.step (i := i) ho hg
  refine ⟨hp, hn, ?_⟩
  rw [setCell_putB hp]
  exact own_putO ((h.trow.alloc o).kept hg (own_apart2 (h.trow.alloc o) (h.q.row.alloc o))) hp (fun cur e => by cases e)
theorem PqRel.setL (h : PqRel w1 ts vt l g is vc wr) (l' : Bs) : PqRel w1 ts vt l' g is vc (wr.setCell ⟨w1.heap.size, 1, none⟩ (str l')) := by
  rw [setCell_putB h.q.p]
  exact ⟨⟨putB_at h.q.p _ _, own_putO h.q.row h.q.p (fun cur e => by cases e), h.q.b.trans (putB_below _ (Nat.le_refl _) _ _)⟩, own_putO h.trow h.q.p (fun cur e => by cases e)⟩
theorem PqRel.setG (h : PqRel w1 ts vt l g is vc wr) (g' : Bs) : PqRel w1 ts vt l g' is vc (wr.setCell ⟨w1.heap.size, 2, none⟩ (str g')) := by
  rw [setCell_putB h.q.p]
  exact ⟨⟨putB_at h.q.p _ _, own_putO h.q.row h.q.p (fun cur e => by cases e), h.q.b.trans (putB_below _ (Nat.le_refl _) _ _)⟩, own_putO h.trow h.q.p (fun cur e => by cases e)⟩
theorem pt_row (hk : k ≤ G.length) (h : PqRel w1 ((G.take k).map snd) vt l g is vc wr) : wr.ownsRow (w1.heap.size + 1) 9 1 vt k (tcells G k) := by
  have h1 := h.trow
  rw [List.length_map, List.length_take, Nat.min_eq_left hk, List.map_map] at h1
  exact h1
theorem pt_next {x : List Bs} (h : PqRel w1 ((G.take k).map snd) vt [] [] [] (.slice none 0 0) wr) (hx : G[k]? = some x) (ho : w'.ownsRow (w1.heap.size + 1) 9 1 v' (k + 1) (tcells G k ++ [str (snd x)])) (hg : (wr.alloc o).grownBy w' vt.ownBlock) :
    blk w' w1.heap.size #[vt, str [], str [], .slice none 0 0] 25 ∧ PqRel w1 ((G.take (k + 1)).map snd) v' [] [] [] (.slice none 0 0) (w'.setCell ⟨w1.heap.size, 0, none⟩ v') := by
  have hlt := (List.getElem?_eq_some_iff.1 hx).1
  have hr := pt_row (by omega) h
  have hp : blk w' w1.heap.size #[vt, str [], str [], .slice none 0 0] 25 := grown_keep (hr.alloc o) hg (blk_alloc h.q.p o) (fun cur e => by cases e)
  have hl := h.q.lt
  refine ⟨hp, ⟨?_, World.ownsRow_nil _ _ _ _, ?_⟩, ?_⟩
  · rw [setCell_putB hp]; exact putB_at hp _ _
  · rw [setCell_putB hp]
    exact ((h.q.b.alloc h.q.b.size o).grown hg (by simp; omega) (fun g hg' => by have := ((hr.alloc o).lt g hg').1; omega)).trans (putB_below _ (Nat.le_refl _) _ _)
  · rw [setCell_putB hp]
    have h2 : w'.ownsRow (w1.heap.size + 1) 9 1 v' ((G.take (k + 1)).map snd).length (((G.take (k + 1)).map snd).map str) := by
      rw [List.length_map, List.length_take, Nat.min_eq_left (by omega), List.map_map]
      have : (G.take (k + 1)).map (str ∘ snd) = tcells G (k + 1) := rfl
      rw [this, tcells_next hx]; exact ho
    exact own_putO h2 hp (fun cur e => by cases e)
end

/-! ### What the lines tell -/
theorem ty_bad {G : List (List Bs)} {k : Nat} {xr : List Bs} (hok : ∀ y ∈ G.take k, tyOK y = true) (hx : G[k]? = some ([116, 121, 112, 101] :: xr)) (hb : (namedL kType false (G.drop k)).2 = false) : programL G = (noneP, k, false) := by
  have hlt := (List.getElem?_eq_some_iff.1 hx).1
  rw [namedL_at hx] at hb
  have hno : tyOK ([116, 121, 112, 101] :: xr) = false := by
    unfold tyOK
    by_cases hp : pairL kType ([116, 121, 112, 101] :: xr) = true
    · rw [if_pos hp, if_neg (by simp)] at hb
      unfold typeL
      rw [show areL (snd ([116, 121, 112, 101] :: xr)) = false from hb]; simp
    · rw [Bool.eq_false_iff.2 hp]; rfl
  have hts := typesL_break G k _ hok hx hno
  have hl : (typesL G).length = k := by rw [hts]; simp; omega
  have := prog_l (xss := G) (by
    rw [hl]
    obtain ⟨h1, h2⟩ := List.getElem?_eq_some_iff.1 hx
    rw [List.drop_eq_getElem_cons h1, h2]
    have e : pairL kLocals ([116, 121, 112, 101] :: xr) = false := by unfold pairL; simp [kLocals]
    show (if pairL kLocals ([116, 121, 112, 101] :: xr) then _ else (([] : Bs), false)).2 = false
    rw [e]; rfl)
  rw [hl] at this; exact this
theorem ty_good {G : List (List Bs)} {k : Nat} {x : List Bs} (hne : ∀ y ∈ x, y ≠ []) (hx : G[k]? = some x) (hb : (namedL kType false (G.drop k)).2 = true) : tyOK x = true ∧ (namedL kType false (G.drop k)).1 = snd x := by
  rw [namedL_at hx] at hb ⊢
  by_cases hp : pairL kType x = true
  · rw [if_pos hp, if_neg (by simp)] at hb ⊢
    refine ⟨?_, rfl⟩
    obtain ⟨s, rfl⟩ := pair_parts hp
    have hs := hne s (by simp)
    unfold tyOK typeL
    rw [hp]
    have e : snd [kType, s] = s := rfl
    rw [e] at hb ⊢
    simp only at hb
    rw [hb]
    cases s with
    | nil => exact absurd rfl hs
    | cons => rfl
  · rw [if_neg hp] at hb; cases hb
theorem ty_exit {G : List (List Bs)} {k : Nat} (hok : ∀ y ∈ G.take k, tyOK y = true) (h : G.length ≤ k ∨ ∃ x0 xr, G[k]? = some (x0 :: xr) ∧ x0 ≠ [116, 121, 112, 101]) : typesL G = (G.take k).map snd := by
  rcases h with h | ⟨x0, xr, hx, hn⟩
  · rw [List.take_of_length_le h] at hok ⊢
    exact typesL_all G hok
  · refine typesL_break G k _ hok hx ?_
    have e : pairL kType (x0 :: xr) = false := by
      unfold pairL
      have : (x0 == kType) = false := by simpa [kType] using hn
      simp [this]
    unfold tyOK; rw [e]; rfl

theorem rparse_named (nm : Bs) (nmb : ByteArray) (hnm : nmb = ⟨nm.toArray⟩) (dash : Bool) (k : Nat) (z : Int) (hz : z = k) (v : Value) (G : List (List Bs)) (w : World) (t : Bs) (b : Bool) (h : GridAt w v G) (hsh : ∀ x ∈ G, ∀ y ∈ x, y.length ≤ maxLen) (hk : k ≤ 200000) (hn : namedL nm dash (G.drop k) = (t, b)) :
    Calls Tryz.prog 30 #[v, .int .i64 z, .string nmb, .bool dash] w fun e w' => e = .returned (.tuple #[str t, .bool b]) ∧ w = w' := by
  subst hnm hz
  have := named_any nm dash k v G w h hsh hk
  rw [hn] at this
  exact this

def finL (R : PProg × Nat × Bool) : PProg × Nat × Nat := if R.2.2 then (R.1, 0, 0) else (noneP, R.2.1 + 1, 4)
theorem fin_bad {w w' : World} {n : Nat} {z : Int} (hz : z = (n : Int) + 1) (hb : Below w.heap.size w w') : ParsePost w (finL (noneP, n, false)) (.returned (.tuple #[.agg zeroP, .int .i64 z, .int .i64 4])) w' :=
  ⟨.agg zeroP, by subst hz; rfl, none_own w' _, hb⟩

set_option maxRecDepth 100000 in
set_option maxHeartbeats 1000000 in
theorem rparse_err (s : ByteArray) (w : World) (G : List (List Bs)) (n e : Nat) (he : e ≠ 0)
    (HL : Hid (Calls Tryz.prog 29 #[.string s] (w.alloc (.cells zeroP 25)) (LinesPost (w.alloc (.cells zeroP 25)) (G, n, e)))) : Calls Tryz.prog 12 #[.string s] w (ParsePost w (noneP, n, e)) := by
  have hne : (((e : Nat) : Int) != 0) = true := by simp [he]
  have hne2 : (((e : Nat) : Int) == 0) = false := by simp [he]
  have ZONE := Lib.hid zeroP_one
  clear he
  go_enter Tryz.func12, Tryz.ntmps12
  go_wp2_with (first
    | (go_at_call 29; refine HL.out.mono ?_; rintro e w1 ⟨a1, c1, rfl, hg1, hb1⟩; have K1 := Lib.hid (blk_below (blk_new w zeroP 25) hb1); have HB1 := Lib.hid (((Below.refl _ _).alloc (Nat.le_refl _) _ : Below w.heap.size w (w.alloc (.cells zeroP 25))).trans (hb1.mono (by simp))); clear hb1 hg1)
    | (refine wpList_putB rfl 25 _ _ rfl w.heap.size zeroP rfl rfl 25 _ K1.out prog_info rfl ZONE.out ?_))
  refine bodyPost_ret (v := .tuple #[.agg zeroP, .int .i64 n, .int .i64 e]) ?_ rfl ?_
  · rw [res_cell2 (p := 2) (u := 3) (v := 4) rfl _ _ w.heap.size zeroP 25 _ rfl (putB_at K1.out _ _) Tryz.underlying25 rfl prog_info]; rfl
  · exact ⟨_, rfl, none_own _ _, HB1.out.trans (putB_below _ (Nat.le_refl _) _ _)⟩

set_option maxRecDepth 100000 in
set_option maxHeartbeats 1500000 in
theorem rparse_walk (s : ByteArray) (w : World) (G : List (List Bs)) (R : PProg × Nat × Bool) (ts : List Bs) (l g : Bs) (lb gb : Bool) (rest : List (List Bs)) (hlen : G.length ≤ 20001) (htl : ts.length ≤ G.length)
    (HLE : Hid (lb = true → gb = true → rest.length + (ts.length + 2) = G.length))
    (HL : Hid (Calls Tryz.prog 29 #[.string s] (w.alloc (.cells zeroP 25)) (LinesPost (w.alloc (.cells zeroP 25)) (G, 0, 0))))
    (HNE : Hid (∀ (k : Nat) x, G[k]? = some x → ∃ x0 xr, x = x0 :: xr))
    (HT : Hid (∀ (k : Nat) t b, k ≤ G.length → namedL kType false (G.drop k) = (t, b) → ∀ W v, GridAt W v G → Calls Tryz.prog 30 #[v, .int .i64 k, .string ⟨#[116, 121, 112, 101]⟩, .bool false] W fun e w' => e = .returned (.tuple #[str t, .bool b]) ∧ W = w'))
    (HT0 : Hid (∀ (k : Nat) xr, (∀ y ∈ G.take k, tyOK y = true) → G[k]? = some ([116, 121, 112, 101] :: xr) → (namedL kType false (G.drop k)).2 = false → R = (noneP, k, false)))
    (HT1 : Hid (∀ (k : Nat) x, G[k]? = some x → (namedL kType false (G.drop k)).2 = true → tyOK x = true ∧ (namedL kType false (G.drop k)).1 = snd x))
    (HTX : Hid (∀ k : Nat, (∀ y ∈ G.take k, tyOK y = true) → (G.length ≤ k ∨ ∃ x0 xr, G[k]? = some (x0 :: xr) ∧ x0 ≠ [116, 121, 112, 101]) → ts = (G.take k).map snd))
    (HNL : Hid (∀ W v, GridAt W v G → Calls Tryz.prog 30 #[v, .int .i64 ts.length, .string ⟨#[108, 111, 99, 97, 108, 115]⟩, .bool true] W fun e w' => e = .returned (.tuple #[str l, .bool lb]) ∧ W = w'))
    (HNG : Hid (∀ W v, GridAt W v G → Calls Tryz.prog 30 #[v, .int .i64 ((ts.length : Int) + 1), .string ⟨#[103, 108, 111, 98, 97, 108, 115]⟩, .bool true] W fun e w' => e = .returned (.tuple #[str g, .bool gb]) ∧ W = w'))
    (HRD : Hid (∀ (k : Nat) x W u, rest[k]? = some x → RowAt W u (x.map str) → Calls Tryz.prog 26 #[u] W (InstrPost W (instrL x))))
    (HGR : Hid (∀ (j : Nat) x, rest[j]? = some x → G[ts.length + 2 + j]? = some x))
    (HRL : Hid (lb = false → R = (noneP, ts.length, false))) (HRG : Hid (lb = true → gb = false → R = (noneP, ts.length + 1, false)))
    (HRC : Hid (lb = true → gb = true → ∀ k, codeL 0 rest = .error k → R = (noneP, ts.length + 2 + k, false))) (HRO : Hid (lb = true → gb = true → ∀ is, codeL 0 rest = .ok is → R = (⟨ts, l, g, is⟩, G.length, true))) :
    Calls Tryz.prog 12 #[.string s] w (ParsePost w (finL R)) := by
  obtain ⟨i9, q0, q1, q2, q3⟩ := info_parts Tryz.info9
  obtain ⟨i40, p0, p1, p2, p3⟩ := info_parts insRow_zero
  have ZONE := Lib.hid zeroP_one
  go_enter Tryz.func12, Tryz.ntmps12
  go_upto_block 0 with (first
    | (go_at_call 29; refine HL.out.mono ?_; rintro e w1 ⟨a1, c1, rfl, hg1, hb1⟩; have s1 := hb1.size; rw [World.size_alloc] at s1; have K1 := Lib.hid (blk_below (blk_new w zeroP 25) hb1); have HB1 := Lib.hid (((Below.refl _ _).alloc (Nat.le_refl _) _ : Below w.heap.size w (w.alloc (.cells zeroP 25))).trans (hb1.mono (by simp))); have HG1 := Lib.hid hg1.at; clear hb1 hg1 HL))
  have HS := Lib.hid (show PqRel w1 [] (.slice none 0 0) [] [] [] (.slice none 0 0) (w1.alloc (.cells zeroP 25)) from
    ⟨⟨blk_new _ _ _, World.ownsRow_nil _ _ _ _, (Below.refl _ _).alloc (Nat.le_refl _) _⟩, World.ownsRow_nil _ _ _ _⟩)
  go_cut [9] from 30 to 61 (fun v9 wx => ∃ vt, v9 = .int .i64 ts.length ∧ PqRel w1 ts vt [] [] [] (.slice none 0 0) wx)
  case first =>
    go_wp2_with fail
    go_loopw [9] (fun v9 wr => ∃ (k : Nat) (vt : Value), k ≤ G.length ∧ v9 = .int .i64 k ∧ Hid (∀ y ∈ G.take k, tyOK y = true) ∧ PqRel w1 ((G.take k).map snd) vt [] [] [] (.slice none 0 0) wr) (fun v9 _ => G.length - (intOf v9).toNat)
    case atStart => exact ⟨0, _, Nat.zero_le _, rfl, Lib.hid (by simp), HS.out⟩
    case round =>
      obtain ⟨k, vt, hk, rfl, hok, hr⟩ := hrel
      clear HS
      have HR := Lib.hid hr
      have hrl1 := hr.q.lt
      clear hr
      by_cases hlt : k < G.length
      · obtain ⟨x, hx⟩ : ∃ x, G[k]? = some x := ⟨_, List.getElem?_eq_getElem hlt⟩
        obtain ⟨-, gc1, gc2, gel⟩ := HG1.out.elems'
        obtain ⟨b, o, u, rfl, hb, hcl, hra⟩ := gel k x hx
        obtain ⟨x0, xr, rfl⟩ := HNE.out k x hx
        obtain ⟨a', c', rfl, g1, g2, g3⟩ := (hra.below HR.out.q.b).elems
        obtain ⟨b', o', rfl, hb', hc0⟩ := g3 0 x0 rfl
        rw [Nat.add_zero] at hc0
        unfold maxLen at g2
        have hcw : wr.cell? ⟨b, o + k, none⟩ = some (.slice (some ⟨b', o', none⟩) (x0 :: xr).length c') := by rw [(bcell HR.out.q.b).1 b _ hb]; exact hcl
        have hpos : (0 : Int) < ((x0 :: xr).length : Int) := by simp
        have HGW := Lib.hid (HG1.out.below HR.out.q.b)
        have HX := Lib.hid hx
        have HKW := Lib.hid (blk_below K1.out HR.out.q.b)
        clear gel hcl hra g3 hx
        generalize (x0 :: xr).length = nx at *
        by_cases h0 : x0 = [116, 121, 112, 101]
        · obtain rfl : x0 = [116, 121, 112, 101] := h0
          rcases hnm : namedL kType false (G.drop k) with ⟨t, tb⟩
          have HC := Lib.hid (HT.out k t tb hk hnm)
          rcases tb with _ | _
          · have HE := Lib.hid (HT0.out k xr hok.out HX.out (by rw [hnm]))
            clear hnm
            go_wp2_with (first
              | (go_at_call 30; refine (HC.out _ _ HGW.out).mono ?_; rintro e w' ⟨rfl, rfl⟩)
              | (refine wpList_putB rfl 25 _ _ rfl w.heap.size zeroP rfl rfl 25 _ HKW.out prog_info rfl ZONE.out ?_))
            refine bodyPost_ret (v := .tuple #[.agg zeroP, .int .i64 ((k : Int) + 1), .int .i64 4]) ?_ rfl ?_
            · rw [res_cell2 (p := 2) (u := 3) (v := 4) rfl _ _ w.heap.size zeroP 25 _ rfl (putB_at HKW.out _ _) Tryz.underlying25 rfl prog_info]; rfl
            · rw [HE.out]
              exact fin_bad rfl ((HB1.out.trans (HR.out.q.b.mono (by omega))).trans (putB_below _ (Nat.le_refl _) _ _))
          · obtain ⟨hty, hts⟩ := HT1.out k _ HX.out (by rw [hnm])
            rw [hnm] at hts
            simp only at hts
            have HTY := Lib.hid hty
            have HTS := Lib.hid hts
            have HROW := Lib.hid (pt_row hk HR.out)
            have kc0 := blk_cell HR.out.q.p 0 _ rfl
            clear hnm hty hts
            go_wp2_with (first
              | (go_at_call 30; refine (HC.out _ _ HGW.out).mono ?_; rintro e w' ⟨rfl, rfl⟩)
              | (at_builtin; refine wpList_append_own _ rfl _ _ 22 rfl (w1.heap.size + 1) 9 i9 (.string ByteArray.empty) 1 16 Tryz.underlying22 q0 q1 q2 q3 rfl (by decide) _ _ _ rfl (HROW.out.alloc _) ⟨wr.heap.size, 0, none⟩ 1 1 [str t] rfl rfl ?c1 ?c2 ?c3 ?c4 ?c5 ?_))
            case c1 => exact one_cell wr _ _
            case c2 => exact one_one _
            case c3 => unfold maxLen; omega
            case c4 => omega
            case c5 => simp; omega
            intro v' w' ho hg _
            obtain ⟨g', cap', rfl⟩ : ∃ g' cap', v' = .slice (some ⟨g', 0, none⟩) (k + 1) cap' := by
              rcases ownsRow_forms ho with ⟨_, h0⟩ | h
              · omega
              · exact h
            obtain ⟨hpw, hnx⟩ := pt_next HR.out HX.out (by rw [← HTS.out]; exact ho) hg
            have kc4 := blk_cell hpw 0 _ rfl
            have kf4 := blk_frozen hpw 0
            have HNX := Lib.hid hnx
            have HOK := Lib.hid (List.all_eq_true.1 (all_take_next (p := tyOK) (List.all_eq_true.2 hok.out) HX.out HTY.out))
            clear ho hg hpw hnx kc0
            go_wp2
            go_roundw
            case rel => exact ⟨k + 1, _, by omega, by go_num, HOK, HNX.out⟩
            case measure => simp [intOf]; omega
        · have e1 : (x0 == [116, 121, 112, 101]) = false := by simpa using h0
          have HE := Lib.hid (HTX.out k hok.out (.inr ⟨x0, xr, HX.out, h0⟩))
          clear h0
          go_wp2
          go_meet
          exact ⟨vt, by rw [HE.out, List.length_map, List.length_take, Nat.min_eq_left hk], by rw [HE.out]; exact HR.out⟩
      · obtain rfl : k = G.length := by omega
        have HE := Lib.hid (HTX.out G.length hok.out (.inl (Nat.le_refl _)))
        go_wp2
        go_meet
        exact ⟨vt, by rw [HE.out, List.length_map, List.length_take, Nat.min_eq_left hk], by rw [HE.out]; exact HR.out⟩
  case rest =>
    obtain ⟨vt, rfl, hr⟩ := hcut
    have HR := Lib.hid hr
    have hrl1 := hr.q.lt
    clear hr HS HT HT0 HT1 HTX
    have HGW := Lib.hid (HG1.out.below HR.out.q.b)
    have HKW := Lib.hid (blk_below K1.out HR.out.q.b)
    rcases lb with _ | _
    · go_wp2_with (first
        | (go_at_call 30; refine (HNL.out _ _ HGW.out).mono ?_; rintro e w' ⟨rfl, rfl⟩)
        | (refine wpList_putB rfl 25 _ _ rfl w.heap.size zeroP rfl rfl 25 _ HKW.out prog_info rfl ZONE.out ?_))
      refine bodyPost_ret (v := .tuple #[.agg zeroP, .int .i64 ((ts.length : Int) + 1), .int .i64 4]) ?_ rfl ?_
      · rw [res_cell2 (p := 2) (u := 3) (v := 4) rfl _ _ w.heap.size zeroP 25 _ rfl (putB_at HKW.out _ _) Tryz.underlying25 rfl prog_info]; rfl
      · rw [HRL.out (by trivial)]
        exact fin_bad rfl ((HB1.out.trans (HR.out.q.b.mono (by omega))).trans (putB_below _ (Nat.le_refl _) _ _))
    · rcases gb with _ | _
      · go_wp2_with (first
          | (go_at_call 30; ((with_reducible refine (HNL.out _ _ HGW.out).mono ?_); rintro e w' ⟨rfl, rfl⟩); clear HNL)
          | (go_at_call 30; ((with_reducible refine (HNG.out _ _ HGW.out).mono ?_); rintro e w' ⟨rfl, rfl⟩))
          | (refine wpList_putB rfl 25 _ _ rfl w.heap.size zeroP rfl rfl 25 _ HKW.out prog_info rfl ZONE.out ?_))
        refine bodyPost_ret (v := .tuple #[.agg zeroP, .int .i64 ((ts.length : Int) + 2), .int .i64 4]) ?_ rfl ?_
        · rw [res_cell2 (p := 2) (u := 3) (v := 4) rfl _ _ w.heap.size zeroP 25 _ rfl (putB_at HKW.out _ _) Tryz.underlying25 rfl prog_info]; rfl
        · rw [HRG.out (by trivial) (by trivial)]
          exact fin_bad (by omega) ((HB1.out.trans (HR.out.q.b.mono (by omega))).trans (putB_below _ (Nat.le_refl _) _ _))
      · have hle := HLE.out rfl rfl
        have HRC' := Lib.hid (HRC.out rfl rfl)
        have HRO' := Lib.hid (HRO.out rfl rfl)
        have hkp := HR.out.q.p
        have kc1 := blk_cell hkp 1 _ rfl
        have kf1 := blk_frozen hkp 1
        have hkp2 := (HR.out.setL l).q.p
        have kc2 := blk_cell hkp2 2 _ rfl
        have kf2 := blk_frozen hkp2 2
        have HN := Lib.hid ((HR.out.setL l).setG g)
        clear hkp hkp2 HLE HRC HRO HRL HRG
        have hrest : rest.length + (ts.length + 2) ≤ G.length := by omega
        have hrest2 : G.length ≤ rest.length + (ts.length + 2) := by omega
        clear hle
        go_wp2_with (first
          | (go_at_call 30; ((with_reducible refine (HNL.out _ _ HGW.out).mono ?_); rintro e w' ⟨rfl, rfl⟩); clear HNL)
          | (go_at_call 30; ((with_reducible refine (HNG.out _ _ HGW.out).mono ?_); rintro e w' ⟨rfl, rfl⟩)))
        clear kc1 kf1 kc2 kf2
        go_loopw [16] (fun v16 wr => ∃ (m j : Nat) (is : List PIns) (vc : Value), j ≤ rest.length ∧ j ≤ 200 ∧ v16 = .int .i64 m ∧ Hid (m = ts.length + 2 + j) ∧ is.length = j ∧ Hid ((rest.take j).map instrL = is.map some) ∧ PqRel w1 ts vt l g is vc wr) (fun v16 _ => G.length - (intOf v16).toNat)
        case atStart => exact ⟨ts.length + 2, 0, [], _, by omega, by omega, by go_num, Lib.hid rfl, rfl, Lib.hid rfl, HN.out⟩
        case round =>
          obtain ⟨m, j, is, vc, hj, hj2, rfl, hm, hil, hok, hr⟩ := hrel
          have hm1 : m ≤ ts.length + 2 + j := by have := hm.out; omega
          have hm2 : ts.length + 2 + j ≤ m := by have := hm.out; omega
          clear HR HN HGW HKW
          have HR := Lib.hid hr
          have hrl2 := hr.q.lt
          clear hr
          have HKW := Lib.hid (blk_below K1.out HR.out.q.b)
          by_cases hlt : m < G.length
          · obtain ⟨x, hx⟩ : ∃ x, rest[j]? = some x := ⟨_, List.getElem?_eq_getElem (by omega)⟩
            obtain ⟨-, gc1, gc2, gel⟩ := HG1.out.elems'
            obtain ⟨b, o, u, rfl, hb, hcl, hra⟩ := gel m x (by rw [hm.out]; exact HGR.out j x hx)
            have hcw : wr.cell? ⟨b, o + m, none⟩ = some u := by rw [(bcell HR.out.q.b).1 b _ hb]; exact hcl
            have HIN := Lib.hid (HRD.out j x wr u hx (hra.below HR.out.q.b))
            have HX := Lib.hid hx
            have HBAD : Hid (instrL x = none ∨ 200 ≤ j → codeL 0 rest = .error j) := Lib.hid fun h => by have := codeL_at rest 0 j is x hok.out (by omega) HX.out (by simpa using h); simpa using this
            clear hx hcl hra gel hb
            rcases hin : instrL x with _ | i
            · rw [hin] at HIN
              have HE := Lib.hid (HRC'.out j (HBAD.out (.inl hin)))
              clear hin
              go_wp2_with (first
                | (go_at_call 26; refine HIN.out.mono ?_; rintro e w3 ⟨rfl, hb3⟩; have hs4 := hb3.size; have HB3 := Lib.hid hb3; clear hb3)
                | (refine wpList_putB rfl 25 _ _ rfl w.heap.size zeroP rfl rfl 25 _ (blk_alloc (blk_below HKW.out HB3.out) _) prog_info rfl ZONE.out ?_))
              refine bodyPost_ret (v := .tuple #[.agg zeroP, .int .i64 ((m : Int) + 1), .int .i64 4]) ?_ rfl ?_
              · rw [res_cell2 (p := 2) (u := 3) (v := 4) rfl _ _ w.heap.size zeroP 25 _ rfl (putB_at (blk_alloc (blk_below HKW.out HB3.out) _) _ _) Tryz.underlying25 rfl prog_info]; rfl
              · rw [HE.out]
                exact fin_bad (by omega) ((((HB1.out.trans (HR.out.q.b.mono (by omega))).trans (HB3.out.mono (by omega))).alloc (by omega) _).trans (putB_below _ (Nat.le_refl _) _ _))
            · rw [hin] at HIN
              obtain ⟨ac, cc, rfl⟩ : ∃ ac cc, vc = .slice ac j cc := by
                rcases ownsRow_forms HR.out.q.row with ⟨rfl, h0⟩ | ⟨g, cap, rfl⟩
                · exact ⟨none, 0, by rw [← hil, h0]⟩
                · exact ⟨_, cap, by rw [← hil]⟩
              have hccm : cc ≤ 9223372036854775807 := by
                rcases HR.out.q.row.2 with ⟨h, _⟩ | ⟨_, cap, cur, h, _, _, h1, h2, _⟩
                · simp only [Value.slice.injEq] at h; omega
                · simp only [Value.slice.injEq] at h; unfold maxLen at h2; omega
              have hccj : j ≤ cc := by
                rcases HR.out.q.row.2 with ⟨h, _⟩ | ⟨_, cap, cur, h, _, _, h1, h2, _⟩
                · simp only [Value.slice.injEq] at h; omega
                · simp only [Value.slice.injEq] at h; omega
              by_cases h200 : 200 ≤ j
              · have HE := Lib.hid (HRC'.out j (HBAD.out (.inr h200)))
                clear hin
                go_wp2_with (first
                  | (go_at_call 26; refine HIN.out.mono ?_; rintro e w3 ⟨rfl, hb3⟩; have hs4 := hb3.size; have hp3 := (HR.out.q.below hb3).below ((Below.refl _ _).alloc (Nat.le_refl _) (.cells (insC i) 27)); have kc3 := blk_cell hp3.p 3 _ rfl; have HB3 := Lib.hid hb3; clear hb3 hp3)
                  | (refine wpList_putB rfl 25 _ _ rfl w.heap.size zeroP rfl rfl 25 _ (blk_alloc (blk_below HKW.out HB3.out) _) prog_info rfl ZONE.out ?_))
                refine bodyPost_ret (v := .tuple #[.agg zeroP, .int .i64 ((m : Int) + 1), .int .i64 4]) ?_ rfl ?_
                · rw [res_cell2 (p := 2) (u := 3) (v := 4) rfl _ _ w.heap.size zeroP 25 _ rfl (putB_at (blk_alloc (blk_below HKW.out HB3.out) _) _ _) Tryz.underlying25 rfl prog_info]; rfl
                · rw [HE.out]
                  exact fin_bad (by omega) ((((HB1.out.trans (HR.out.q.b.mono (by omega))).trans (HB3.out.mono (by omega))).alloc (by omega) _).trans (putB_below _ (Nat.le_refl _) _ _))
              · have hIS := Lib.hid (show (rest.take (j + 1)).map instrL = (is ++ [i]).map some by
                  obtain ⟨h1, h2⟩ := List.getElem?_eq_some_iff.1 HX.out
                  rw [List.take_succ_eq_append_getElem h1, List.map_append, hok.out, h2, List.map_append]
                  simp [hin])
                clear hin
                go_wp2_with (first
                  | (go_at_call 26; refine HIN.out.mono ?_; rintro e w3 ⟨rfl, hb3⟩; have hs4 := hb3.size; have hp3 := (HR.out.below hb3).below ((Below.refl _ _).alloc (Nat.le_refl _) (.cells (insC i) 27)); have kc3 := blk_cell hp3.q.p 3 _ rfl; have HP3 := Lib.hid hp3; have HB3 := Lib.hid hb3; clear hb3 hp3)
                  | (at_builtin; refine wpList_append_own _ rfl _ _ 23 rfl (w1.heap.size + 1) 27 i40 (.agg zeroC) 5 16 Tryz.underlying23 p0 p1 p2 p3 rfl (by decide) _ is.length (codeCells is) rfl (HP3.out.q.row.alloc _) ⟨w3.heap.size + 1, 0, none⟩ 1 1 (insC i).toList rfl rfl ?d1 ?d2 ?d3 ?d4 ?d5 ?_))
                try (case d1 =>
                  have h1 := heap_alloc_new (w3.alloc (.cells (insC i) 27)) (.cells (insC i) 27)
                  rw [World.size_alloc] at h1
                  exact World.news_of_block h1)
                case d2 => exact ⟨rfl, rfl, rfl, rfl, rfl⟩
                case d3 => unfold maxLen; omega
                case d4 => omega
                case d5 => simp; omega
                intro v' w' ho hg _
                obtain ⟨g', cap', rfl⟩ : ∃ g' cap', v' = .slice (some ⟨g', 0, none⟩) (j + 1) cap' := by
                  rcases ownsRow_forms ho with ⟨_, h0⟩ | h
                  · omega
                  · exact h
                obtain ⟨hpw, hnx⟩ := HP3.out.step (i := i) (by rw [hil]; exact ho) hg
                have kc4 := blk_cell hpw 3 _ rfl
                have kf4 := blk_frozen hpw 3
                have HNX := Lib.hid hnx
                clear ho hg hpw hnx kc3
                go_wp2
                go_roundw
                case rel => exact ⟨m + 1, j + 1, is ++ [i], _, by omega, by omega, by go_num, Lib.hid (by have := hm.out; omega), by simp [hil], Lib.hid hIS.out, HNX.out⟩
                case measure => simp [intOf]; omega
          · obtain rfl : j = rest.length := by omega
            have HOKL := Lib.hid (HRO'.out is (by have := codeL_all rest 0 is (by have := hok.out; rwa [List.take_length] at this) (by omega); exact this))
            have ONE := Lib.hid (progC_one (P := ⟨ts, l, g, is⟩) HR.out.trow HR.out.q.row)
            have HR1 := Lib.hid (own_putO (o := .cells #[vt, str l, str g, vc] 25 (0, 0)) HR.out.trow HKW.out (fun cur e => by cases e))
            have HR2 := Lib.hid (own_putO (o := .cells #[vt, str l, str g, vc] 25 (0, 0)) HR.out.q.row HKW.out (fun cur e => by cases e))
            go_wp2_with (first
              | (refine wpList_loadB rfl 25 _ rfl w1.heap.size #[vt, str l, str g, vc] rfl 25 HR.out.q.p _ Tryz.underlying25 rfl prog_info ?_)
              | (refine wpList_putB rfl 25 _ _ rfl w.heap.size #[vt, str l, str g, vc] rfl rfl 25 _ HKW.out prog_info rfl ONE.out ?_))
            refine bodyPost_ret (v := .tuple #[.agg #[vt, str l, str g, vc], .int .i64 0, .int .i64 0]) ?_ rfl ?_
            · rw [res_cell2 (p := 2) (u := 3) (v := 4) rfl _ _ w.heap.size #[vt, str l, str g, vc] 25 _ rfl (putB_at HKW.out _ _) Tryz.underlying25 rfl prog_info]; rfl
            · rw [HOKL.out]
              refine ⟨_, rfl, ⟨_, _, rfl, ownsRow_le HR1.out (by omega), ownsRow_le HR2.out (by omega)⟩, ?_⟩
              exact (HB1.out.trans (HR.out.q.b.mono (by omega))).trans (putB_below _ (Nat.le_refl _) _ _)
theorem rparse_any (s : ByteArray) (w : World) (hs : s.size ≤ maxLen) : Calls Tryz.prog 12 #[.string s] w (ParsePost w (parseL s.data.toList)) := by
  have HL := linesR_any s (w.alloc (.cells zeroP 25)) hs
  rcases hr : linesL s.data.toList with ⟨G, n, e⟩
  rw [hr] at HL
  by_cases he : e = 0
  · rcases linesL_err hr with ⟨_, rfl⟩ | ⟨h, _⟩
    · subst he
      obtain ⟨h1, h2⟩ := goodL_rows hr
      have e1 : parseL s.data.toList = finL (programL G) := by
        unfold parseL finL; rw [hr]; simp
      rw [e1]
      have hsh : ∀ x ∈ G, ∀ y ∈ x, y.length ≤ maxLen := fun x hx y hy => by have := mayL_len ((h1 x hx).2 y hy).2; unfold maxLen; omega
      have htl := typesL_len G
      have hpl : (lettersL kLocals (G.drop (typesL G).length)).2 = true → (typesL G).length + 1 ≤ G.length := fun hh => by
        have := letters_pos hh; rw [List.length_drop] at this; omega
      have hpg : (lettersL kGlobals (G.drop ((typesL G).length + 1))).2 = true → (typesL G).length + 2 ≤ G.length := fun hh => by
        have := letters_pos hh; rw [List.length_drop] at this; omega
      rcases hl : lettersL kLocals (G.drop (typesL G).length) with ⟨l, lb⟩
      rcases hg : lettersL kGlobals (G.drop ((typesL G).length + 1)) with ⟨g, gb⟩
      rw [hl] at hpl
      rw [hg] at hpg
      simp only at hpl hpg
      refine rparse_walk s w G (programL G) (typesL G) l g lb gb (G.drop ((typesL G).length + 2)) (by omega) htl (Lib.hid fun _ hb => by have := hpg hb; rw [List.length_drop]; omega) (Lib.hid HL)
        (Lib.hid fun k x hx => by
          have := (h1 x (List.mem_of_getElem? hx)).1
          cases x with
          | nil => exact absurd rfl this
          | cons a r => exact ⟨a, r, rfl⟩)
        (Lib.hid fun k t b hk hn W v hv => rparse_named kType _ rfl false k _ rfl v G W t b hv hsh (by omega) hn)
        (Lib.hid fun k xr hok hx hb => ty_bad hok hx hb)
        (Lib.hid fun k x hx hb => ty_good (fun y hy => ((h1 x (List.mem_of_getElem? hx)).2 y hy).1) hx hb)
        (Lib.hid fun k hok h => ty_exit hok h)
        (Lib.hid fun W v hv => rparse_named kLocals _ rfl true _ _ rfl v G W l lb hv hsh (by omega) (by rw [namedL_true]; exact hl))
        (Lib.hid fun W v hv => rparse_named kGlobals _ rfl true ((typesL G).length + 1) _ (by omega) v G W g gb hv hsh (by omega) (by rw [namedL_true]; exact hg))
        (Lib.hid fun k x W u hx hu => read_any u x W hu (h1 x (List.mem_of_mem_drop (List.mem_of_getElem? hx))).1 (fun y hy => by have := mayL_len ((h1 x (List.mem_of_mem_drop (List.mem_of_getElem? hx))).2 y hy).2; omega))
        (Lib.hid fun j x hx => by rw [List.getElem?_drop] at hx; exact hx)
        (Lib.hid fun hb => prog_l (by rw [hl]; exact hb)) (Lib.hid fun hb hb2 => prog_g (by rw [hl]; exact hb) (by rw [hg]; exact hb2))
        (Lib.hid fun hb hb2 k hk => prog_c (by rw [hl]; exact hb) (by rw [hg]; exact hb2) hk)
        (Lib.hid fun hb hb2 is hk => by
          have := prog_o (by rw [hl]; exact hb) (by rw [hg]; exact hb2) hk
          rw [hl, hg] at this; exact this)
    · exact absurd he h
  · have e1 : parseL s.data.toList = (noneP, n, e) := by
      unfold parseL; rw [hr]; simp [he]
    rw [e1]
    exact rparse_err s w G n e he (Lib.hid HL)
theorem rparse_str (x : Bs) (r : PProg × Nat × Nat) (w : World) (hx : x.length ≤ 140737488355328) (h : parseL x = r) : Calls Tryz.prog 12 #[str x] w (RdPost w r.1 r.2.1 r.2.2) := by
  have hp := rparse_any ⟨x.toArray⟩ w (by show x.toArray.size ≤ _; unfold maxLen; simp; omega)
  rw [show (⟨x.toArray⟩ : ByteArray).data.toList = x from rfl, h] at hp
  refine hp.mono ?_
  rintro e w' ⟨pv, rfl, ⟨vt, vc, rfl, h1, h2⟩, hb⟩
  exact ⟨vt, vc, rfl, Lib.hid ⟨⟨vt, vc, rfl, RowAt.of_own h1, insRow_own h2⟩, progC_one (P := r.1) h1 h2⟩, Lib.hid hb⟩
end Go.Proofs.YtgmpggjikebcdaaGreatDoor
