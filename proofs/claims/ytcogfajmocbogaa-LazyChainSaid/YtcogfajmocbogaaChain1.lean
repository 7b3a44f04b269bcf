/-
  LazyChain, its parts: values that are made of other ones: what a Get of the j-th does, by induction.
-/
import Derived.Test.YtcogfajmocbogaaMany1
namespace Go.Proofs.Ytcogfajmocbogaa
open Go.RowKit

/-- w is a but for the blocks of S. -/
structure OnlyS (S : Nat → Prop) (a w : World) : Prop where
  os : w.os = a.os
  tape : w.tape = a.tape
  output : w.output = a.output
  size : w.heap.size = a.heap.size
  block : ∀ i, ¬ S i → w.heap[i]? = a.heap[i]?

theorem OnlyS.of {b : Nat} {S : Nat → Prop} {a w : World} (h : Only b a w) (hb : S b) : OnlyS S a w := ⟨h.os, h.tape, h.output, h.size, fun i hi => h.block i (fun e => hi (e ▸ hb))⟩
theorem OnlyS.mono {S T : Nat → Prop} {a w : World} (h : OnlyS S a w) (hST : ∀ i, S i → T i) : OnlyS T a w := ⟨h.os, h.tape, h.output, h.size, fun i hi => h.block i (fun e => hi (hST i e))⟩
theorem OnlyS.trans {S : Nat → Prop} {a w u : World} (h : OnlyS S a w) (k : OnlyS S w u) : OnlyS S a u :=
  ⟨k.os.trans h.os, k.tape.trans h.tape, k.output.trans h.output, k.size.trans h.size, fun i hi => (k.block i hi).trans (h.block i hi)⟩
theorem OnlyS.below {S : Nat → Prop} {B : Nat} {a w : World} (h : OnlyS S a w) (hS : ∀ i, S i → B ≤ i) : Below B a w :=
  ⟨h.os, h.tape, h.output, by rw [h.size]; exact Nat.le_refl _, fun k hk => h.block k (fun e => by have := hS k e; omega)⟩
theorem OnlyS.keep {S : Nat → Prop} {a w : World} (h : OnlyS S a w) {b : Nat} {o : Obj} (hb : a.heap[b]? = some o) (hS : ¬ S b) : w.heap[b]? = some o := by rw [h.block b hS]; exact hb

/-- What the sums come to, with their wraps: W k is that of the first k numbers. -/
def sums (x : Nat → Int) : Nat → Int
  | 0 => 0
  | k + 1 => wrap64 (sums x k + x k)

abbrev chainFv (CC N I VV : Nat) : Value := .func (.func 29) #[] #[.pointer (some ⟨CC, 0, none⟩), .pointer (some ⟨N, 0, none⟩), .pointer (some ⟨I, 0, none⟩), .pointer (some ⟨VV, 0, none⟩)]

/-- The variables of the rounds, 'vs', and the row behind it: none of these turns while values are made. -/
structure ChainEnv (VV G m cap : Nat) (N I V : Nat → Nat) (x : Nat → Int) (wr : World) : Prop where
  hVV : wr.heap[VV]? = some (.cells #[.slice (some ⟨G, 0, none⟩) m cap] 80 (0, 0))
  hG : ∃ cur, wr.heap[G]? = some (.cells cur 39 (0, 0)) ∧ ∀ t, t < m → cur[t]? = some (.pointer (some ⟨V t, 0, none⟩))
  hN : ∀ t, t < m → wr.heap[N t]? = some (.cells #[.int .i8 (x t)] 81 (0, 0))
  hI : ∀ t, t < m → wr.heap[I t]? = some (.cells #[.int .i64 t] 3 (0, 0))

theorem ChainEnv.keep {VV G m cap : Nat} {N I V : Nat → Nat} {x : Nat → Int} {wr w' : World} (h : ChainEnv VV G m cap N I V x wr)
    (k : ∀ {b : Nat} {c : Array Value} {t : TypeId}, t ≠ 30 → t ≠ 92 → wr.heap[b]? = some (.cells c t (0, 0)) → w'.heap[b]? = some (.cells c t (0, 0))) : ChainEnv VV G m cap N I V x w' := by
  obtain ⟨cur, h1, h2⟩ := h.hG
  exact ⟨k (by decide) (by decide) h.hVV, ⟨cur, k (by decide) (by decide) h1, h2⟩, fun t ht => k (by decide) (by decide) (h.hN t ht), fun t ht => k (by decide) (by decide) (h.hI t ht)⟩

/-- The function that makes the first value. -/
theorem chainF0 (CC N I VV : Nat) (c x : Int) (w : World) (hx : -128 ≤ x ∧ x ≤ 127) (hc : w.heap[CC]? = some (.cells #[.int .i64 c] 30 (0, 0)))
    (hN : w.cell? ⟨N, 0, none⟩ = some (.int .i8 x)) (hI : w.cell? ⟨I, 0, none⟩ = some (.int .i64 0)) (hCN : CC ≠ N) (hCI : CC ≠ I) :
    Calls Try.prog 29 #[.pointer (some ⟨CC, 0, none⟩), .pointer (some ⟨N, 0, none⟩), .pointer (some ⟨I, 0, none⟩), .pointer (some ⟨VV, 0, none⟩)] w fun e w' => e = .returned (.int .i64 x) ∧ w' = w.setCell ⟨CC, 0, none⟩ (.int .i64 (wrap64 (c + 1))) := by
  obtain ⟨hx1, hx2⟩ := hx
  have n1 : (w.setCell ⟨CC, 0, none⟩ (.int .i64 (wrap64 (c + 1)))).cell? ⟨N, 0, none⟩ = some (.int .i8 x) := (World.cell?_setCell_other _ ⟨CC, 0, none⟩ ⟨N, 0, none⟩ _ (fun e => hCN (by injection e))).trans hN
  have i1 : (w.setCell ⟨CC, 0, none⟩ (.int .i64 (wrap64 (c + 1)))).cell? ⟨I, 0, none⟩ = some (.int .i64 0) := (World.cell?_setCell_other _ ⟨CC, 0, none⟩ ⟨I, 0, none⟩ _ (fun e => hCI (by injection e))).trans hI
  have HC := Lib.hid hc
  clear hc hN hI hCN hCI
  go_enter Try.func29, Try.ntmps29
  go_wp2_with (go_at_call 14; refine (cadd ⟨CC, 0, none⟩ c 1 w (blk_cell HC.out rfl) (blk_free HC.out)).mono ?_; rintro e w' ⟨rfl, rfl⟩)
  go_ret
  exact ⟨rfl, rfl⟩

/-- The function that makes any other value: it asks for the one ahead of it. -/
theorem chainFs (CC N I VV G m cap V j : Nat) (c x y : Int) (P : World → Prop) (w : World) (hx : -128 ≤ x ∧ x ≤ 127) (hj : j < m) (hm : m ≤ cap) (hcap : cap ≤ 9223372036854775807) (hc : w.heap[CC]? = some (.cells #[.int .i64 c] 30 (0, 0)))
    (hN : w.cell? ⟨N, 0, none⟩ = some (.int .i8 x)) (hI : w.cell? ⟨I, 0, none⟩ = some (.int .i64 ((j : Int) + 1))) (hV : w.cell? ⟨VV, 0, none⟩ = some (.slice (some ⟨G, 0, none⟩) m cap)) (hG : w.cell? ⟨G, j, none⟩ = some (.pointer (some ⟨V, 0, none⟩)))
    (hCN : CC ≠ N) (hCI : CC ≠ I) (hCV : CC ≠ VV) (hCG : CC ≠ G)
    (hget : Calls Try.prog 22 #[.pointer (some ⟨V, 0, none⟩)] (w.setCell ⟨CC, 0, none⟩ (.int .i64 (wrap64 (c + 1)))) fun e w' => e = .returned (.tuple #[.int .i64 y, .bool true]) ∧ P w') :
    Calls Try.prog 29 #[.pointer (some ⟨CC, 0, none⟩), .pointer (some ⟨N, 0, none⟩), .pointer (some ⟨I, 0, none⟩), .pointer (some ⟨VV, 0, none⟩)] w fun e w' => e = .returned (.int .i64 (wrap64 (x + y))) ∧ P w' := by
  obtain ⟨hx1, hx2⟩ := hx
  have n1 : (w.setCell ⟨CC, 0, none⟩ (.int .i64 (wrap64 (c + 1)))).cell? ⟨N, 0, none⟩ = some (.int .i8 x) := (World.cell?_setCell_other _ ⟨CC, 0, none⟩ ⟨N, 0, none⟩ _ (fun e => hCN (by injection e))).trans hN
  have i1 : (w.setCell ⟨CC, 0, none⟩ (.int .i64 (wrap64 (c + 1)))).cell? ⟨I, 0, none⟩ = some (.int .i64 ((j : Int) + 1)) := (World.cell?_setCell_other _ ⟨CC, 0, none⟩ ⟨I, 0, none⟩ _ (fun e => hCI (by injection e))).trans hI
  have v1 : (w.setCell ⟨CC, 0, none⟩ (.int .i64 (wrap64 (c + 1)))).cell? ⟨VV, 0, none⟩ = some (.slice (some ⟨G, 0, none⟩) m cap) := (World.cell?_setCell_other _ ⟨CC, 0, none⟩ ⟨VV, 0, none⟩ _ (fun e => hCV (by injection e))).trans hV
  have g1 : (w.setCell ⟨CC, 0, none⟩ (.int .i64 (wrap64 (c + 1)))).cell? ⟨G, j, none⟩ = some (.pointer (some ⟨V, 0, none⟩)) := (World.cell?_setCell_other _ ⟨CC, 0, none⟩ ⟨G, j, none⟩ _ (fun e => hCG (by injection e))).trans hG
  have HC := Lib.hid hc
  have HG := Lib.hid hget
  clear hc hN hI hV hG hCN hCI hCV hCG hget
  go_enter Try.func29, Try.ntmps29
  go_wp2_with (first
    | (go_at_call 14; refine (cadd ⟨CC, 0, none⟩ c 1 w (blk_cell HC.out rfl) (blk_free HC.out)).mono ?_; rintro e w' ⟨rfl, rfl⟩)
    | (go_at_call 22; refine HG.out.mono ?_; rintro e w2 ⟨rfl, hp⟩; have HP := Lib.hid hp; clear hp))
  go_ret
  exact ⟨rfl, HP.out⟩

/-- The blocks that a Get of value j turns. -/
def Turns (CC : Nat) (V : Nat → Nat) (j b : Nat) : Prop := b = CC ∨ ∃ t, t ≤ j ∧ b = V t

theorem wrap_succ (c : Nat) (h : c ≤ 1000) : wrap64 ((c : Int) + 1) = ((c + 1 : Nat) : Int) := by unfold wrap64; omega

theorem chain_get (CC VV G m cap : Nat) (N I V : Nat → Nat) (x : Nat → Int) (hm : m ≤ cap) (hcap : cap ≤ 9223372036854775807) (hx : ∀ t, t < m → -128 ≤ x t ∧ x t ≤ 127) :
    ∀ (j : Nat), j < m → ∀ (c : Nat) (wr : World), c + j ≤ 1000 → ChainEnv VV G m cap N I V x wr → wr.heap[CC]? = some (.cells #[.int .i64 c] 30 (0, 0)) →
      (∀ t, t ≤ j → wr.heap[V t]? = some (.cells (fresh (chainFv CC (N t) (I t) VV) (.int .i64 0)) 92 (0, 0))) →
      Calls Try.prog 22 #[.pointer (some ⟨V j, 0, none⟩)] wr fun e w' => e = .returned (.tuple #[.int .i64 (sums x (j + 1)), .bool true]) ∧ OnlyS (Turns CC V j) wr w' ∧
        w'.heap[CC]? = some (.cells #[.int .i64 ((c + (j + 1) : Nat) : Int)] 30 (0, 0)) ∧ ∀ t, t ≤ j → w'.heap[V t]? = some (.cells (made (.int .i64 (sums x (t + 1)))) 92 (0, 0)) := by
  intro j
  induction j with
  | zero =>
    intro hj c wr hcb henv hCC hfr
    have hV0 := hfr 0 (Nat.le_refl _)
    have hne : ∀ {b : Nat} {c : Array Value} {t : TypeId}, t ≠ 92 → wr.heap[b]? = some (.cells c t (0, 0)) → b ≠ V 0 := fun ht hb => blk_ne hb hV0 (tag_ne ht)
    have hCV := hne (by decide) hCC
    have hCC1 : (wr.setCell ⟨V 0, 2, none⟩ (.int .i32 1)).heap[CC]? = some (.cells #[.int .i64 c] 30 (0, 0)) := blk_other hCC hCV _
    have hN1 : (wr.setCell ⟨V 0, 2, none⟩ (.int .i32 1)).heap[N 0]? = some (.cells #[.int .i8 (x 0)] 81 (0, 0)) := blk_other (henv.hN 0 hj) (hne (by decide) (henv.hN 0 hj)) _
    have hI1 : (wr.setCell ⟨V 0, 2, none⟩ (.int .i32 1)).heap[I 0]? = some (.cells #[.int .i64 ((0 : Nat) : Int)] 3 (0, 0)) := blk_other (henv.hI 0 hj) (hne (by decide) (henv.hI 0 hj)) _
    have hs : sums x (0 + 1) = x 0 := by
      have := hx 0 hj
      show wrap64 (0 + x 0) = x 0
      unfold wrap64
      omega
    refine (getExact64 (V 0) 29 _ (fun v w2 => v = sums x (0 + 1) ∧ w2 = (wr.setCell ⟨V 0, 2, none⟩ (.int .i32 1)).setCell ⟨CC, 0, none⟩ (.int .i64 ((c + 1 : Nat) : Int))) wr (.int .i64 0)
      (enters Try.func29 (by kernel_rfl) (by kernel_rfl) _) hV0
      ((chainF0 CC (N 0) (I 0) VV c (x 0) _ (hx 0 hj) hCC1 (blk_cell hN1 rfl) (blk_cell hI1 rfl) (blk_ne hCC1 hN1 (tag_ne (by decide))) (blk_ne hCC1 hI1 (tag_ne (by decide)))).mono fun _ _ ⟨he, hw⟩ => ⟨_, he, hs.symm, by rw [hw, wrap_succ c (by omega)]⟩) ?_).mono ?_
    · rintro v w2 ⟨rfl, rfl⟩
      exact blk_other (blk_set (i := 2) _ hV0) (fun e => hCV e.symm) _
    · rintro e w' ⟨v, w2, rfl, ⟨rfl, rfl⟩, ho, hmd⟩
      have tV : Turns CC V 0 (V 0) := .inr ⟨0, Nat.le_refl _, rfl⟩
      refine ⟨rfl, ?_, blk_only (blk_set (i := 0) _ hCC1) ho hCV, ?_⟩
      · exact ((OnlyS.of ((Only.refl _ _).setCell 2 _) tV).trans (OnlyS.of ((Only.refl _ _).setCell 0 _) (.inl rfl))).trans (OnlyS.of ho tV)
      · intro t ht
        obtain rfl : t = 0 := by omega
        exact hmd
  | succ j ih =>
    intro hj c wr hcb henv hCC hfr
    have hVj := hfr (j + 1) (Nat.le_refl _)
    have hne : ∀ {b : Nat} {c : Array Value} {t : TypeId}, t ≠ 92 → wr.heap[b]? = some (.cells c t (0, 0)) → b ≠ V (j + 1) := fun ht hb => blk_ne hb hVj (tag_ne ht)
    have hCV := hne (by decide) hCC
    have hVV : ∀ t, t ≤ j → V t ≠ V (j + 1) := fun t ht => by
      refine blk_ne (hfr t (by omega)) hVj ?_
      intro e
      have e' : fresh (chainFv CC (N t) (I t) VV) (.int .i64 0) = fresh (chainFv CC (N (j + 1)) (I (j + 1)) VV) (.int .i64 0) := by injection e
      have e2 := fresh_inj e'
      have e3 : I t = I (j + 1) := by
        simp [chainFv] at e2
        exact e2.2
      have h1 := henv.hI t (by omega)
      rw [e3, henv.hI (j + 1) hj] at h1
      simp at h1
      omega
    -- the world in which the function is called; behind its Add
    have keep1 : ∀ {b : Nat} {o : Obj}, b ≠ V (j + 1) → wr.heap[b]? = some o → (wr.setCell ⟨V (j + 1), 2, none⟩ (.int .i32 1)).heap[b]? = some o := fun hb h => blk_other h hb _
    have hCC1 := keep1 hCV hCC
    have henv1 : ChainEnv VV G m cap N I V x (wr.setCell ⟨V (j + 1), 2, none⟩ (.int .i32 1)) := henv.keep fun _ h2 hb => keep1 (hne h2 hb) hb
    have hV1 : ∀ t, t ≤ j → (wr.setCell ⟨V (j + 1), 2, none⟩ (.int .i32 1)).heap[V t]? = some (.cells (fresh (chainFv CC (N t) (I t) VV) (.int .i64 0)) 92 (0, 0)) := fun t ht => keep1 (hVV t ht) (hfr t (by omega))
    have hVm := blk_set (i := 2) (.int .i32 1) hVj
    generalize hu1 : wr.setCell ⟨V (j + 1), 2, none⟩ (.int .i32 1) = u1 at hCC1 henv1 hV1 hVm
    have keep2 : ∀ {b : Nat} {o : Obj}, b ≠ CC → u1.heap[b]? = some o → (u1.setCell ⟨CC, 0, none⟩ (.int .i64 ((c + 1 : Nat) : Int))).heap[b]? = some o := fun hb h => blk_other h hb _
    have hCC2 : (u1.setCell ⟨CC, 0, none⟩ (.int .i64 ((c + 1 : Nat) : Int))).heap[CC]? = some (.cells #[.int .i64 ((c + 1 : Nat) : Int)] 30 (0, 0)) := blk_set (i := 0) _ hCC1
    have henv2 : ChainEnv VV G m cap N I V x (u1.setCell ⟨CC, 0, none⟩ (.int .i64 ((c + 1 : Nat) : Int))) := henv1.keep fun h1 _ hb => keep2 (blk_ne hb hCC1 (tag_ne h1)) hb
    have hV2 : ∀ t, t ≤ j → (u1.setCell ⟨CC, 0, none⟩ (.int .i64 ((c + 1 : Nat) : Int))).heap[V t]? = some (.cells (fresh (chainFv CC (N t) (I t) VV) (.int .i64 0)) 92 (0, 0)) := fun t ht => keep2 (blk_ne (hV1 t ht) hCC1 (tag_ne (by decide))) (hV1 t ht)
    have hg := ih (by omega) (c + 1) _ (by omega) henv2 hCC2 hV2
    obtain ⟨cur, hGb, hGc⟩ := henv1.hG
    have hI1 := henv1.hI (j + 1) hj
    have hc1 : u1.cell? ⟨I (j + 1), 0, none⟩ = some (.int .i64 ((j : Int) + 1)) := by
      have := blk_cell (i := 0) hI1 rfl
      rw [this]
      simp
    have hclos := chainFs CC (N (j + 1)) (I (j + 1)) VV G m cap (V j) j c (x (j + 1)) (sums x (j + 1)) _ u1 (hx (j + 1) hj) (by omega) hm hcap hCC1 (blk_cell (henv1.hN (j + 1) hj) rfl) hc1 (blk_cell henv1.hVV rfl) (blk_cell hGb (hGc j (by omega)))
      (blk_ne hCC1 (henv1.hN (j + 1) hj) (tag_ne (by decide))) (blk_ne hCC1 hI1 (tag_ne (by decide))) (blk_ne hCC1 henv1.hVV (tag_ne (by decide))) (blk_ne hCC1 hGb (tag_ne (by decide))) (by rw [wrap_succ c (by omega)]; exact hg)
    subst hu1
    have hs : wrap64 (x (j + 1) + sums x (j + 1)) = sums x (j + 1 + 1) := by
      show wrap64 (x (j + 1) + sums x (j + 1)) = wrap64 (sums x (j + 1) + x (j + 1))
      rw [Int.add_comm]
    have nT : ¬ Turns CC V j (V (j + 1)) := by
      rintro (e | ⟨t, ht, e⟩)
      · exact hCV e.symm
      · exact hVV t ht e.symm
    have up : ∀ b, Turns CC V j b → Turns CC V (j + 1) b := by
      rintro b (e | ⟨t, ht, e⟩)
      · exact .inl e
      · exact .inr ⟨t, by omega, e⟩
    refine (getExact64 (V (j + 1)) 29 _ (fun v w2 => v = sums x (j + 1 + 1) ∧ OnlyS (Turns CC V j) ((wr.setCell ⟨V (j + 1), 2, none⟩ (.int .i32 1)).setCell ⟨CC, 0, none⟩ (.int .i64 ((c + 1 : Nat) : Int))) w2 ∧
        w2.heap[CC]? = some (.cells #[.int .i64 ((c + 1 + (j + 1) : Nat) : Int)] 30 (0, 0)) ∧ ∀ t, t ≤ j → w2.heap[V t]? = some (.cells (made (.int .i64 (sums x (t + 1)))) 92 (0, 0))) wr (.int .i64 0)
      (enters Try.func29 (by kernel_rfl) (by kernel_rfl) _) hVj
      (hclos.mono fun _ _ ⟨he, hp⟩ => ⟨_, by rw [he, hs], rfl, hp⟩) ?_).mono ?_
    · rintro v w2 ⟨rfl, hon, _, _⟩
      exact hon.keep (keep2 (fun e => hCV e.symm) hVm) nT
    · rintro e w' ⟨v, w2, rfl, ⟨rfl, hon, hC2, hmd2⟩, ho, hmd⟩
      have tV : Turns CC V (j + 1) (V (j + 1)) := .inr ⟨j + 1, Nat.le_refl _, rfl⟩
      refine ⟨rfl, ?_, ?_, ?_⟩
      · exact (((OnlyS.of ((Only.refl _ _).setCell 2 _) tV).trans (OnlyS.of ((Only.refl _ _).setCell 0 _) (.inl rfl))).trans (hon.mono up)).trans (OnlyS.of ho tV)
      · have e : c + 1 + (j + 1) = c + (j + 1 + 1) := by omega
        rw [e] at hC2
        exact blk_only hC2 ho hCV
      · intro t ht
        rcases Nat.lt_or_ge j t with h | h
        · obtain rfl : t = j + 1 := by omega
          exact hmd
        · exact blk_only (hmd2 t h) ho (hVV t h)
end Go.Proofs.Ytcogfajmocbogaa
