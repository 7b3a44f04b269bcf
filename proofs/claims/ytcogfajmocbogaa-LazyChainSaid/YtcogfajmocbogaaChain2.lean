/-
  LazyChain: values that are made of other ones are made once each, and only when they are asked for: the walk.
-/
import Derived.Test.YtcogfajmocbogaaChain1
import Derived.Deep.RegionLaw
import Derived.Deep.AppendLies
namespace Go.Proofs.Ytcogfajmocbogaa
open Go.RowKit

/-- The blocks of the call while the values are laid. B: the heap's size when it began; CC: 'calls'; VV: 'vs', which holds v, of m pointers; I j, N j, V j: the variables and the value of round j. -/
structure ChainAt (B CC VV : Nat) (N I V : Nat → Nat) (x : Nat → Int) (m : Nat) (v : Value) (w wr : World) : Prop where
  hb : Below B w wr
  hBC : B ≤ CC
  hBVV : B ≤ VV
  hBV : ∀ j, j < m → B ≤ V j
  hCC : wr.heap[CC]? = some (.cells #[.int .i64 ((0 : Nat) : Int)] 30 (0, 0))
  hVV : wr.heap[VV]? = some (.cells #[v] 80 (0, 0))
  hN : ∀ j, j < m → wr.heap[N j]? = some (.cells #[.int .i8 (x j)] 81 (0, 0))
  hI : ∀ j, j < m → wr.heap[I j]? = some (.cells #[.int .i64 j] 3 (0, 0))
  hV : ∀ j, j < m → wr.heap[V j]? = some (.cells (fresh (chainFv CC (N j) (I j) VV) (.int .i64 0)) 92 (0, 0))
  hrow : wr.ownsRow B 39 1 v m ((List.range m).map fun j => .pointer (some ⟨V j, 0, none⟩))

/-- The world ahead of the append of round m. -/
abbrev laidOn (wr : World) (CC VV m : Nat) (x : Int) : World :=
  (((wr.alloc (.cells #[.int .i64 m] 3)).alloc (.cells #[.int .i8 x] 81)).alloc (.cells (fresh (chainFv CC (wr.heap.size + 1) wr.heap.size VV) (.int .i64 0)) 92)).alloc (.cells #[.pointer (some ⟨wr.heap.size + 1 + 1, 0, none⟩)] 39)

theorem ChainAt.laid_row {B CC VV : Nat} {N I V : Nat → Nat} {x : Nat → Int} {m : Nat} {v : Value} {w wr : World} (h : ChainAt B CC VV N I V x m v w wr) (y : Int) :
    (laidOn wr CC VV m y).drew.ownsRow B 39 1 v m ((List.range m).map fun j => .pointer (some ⟨V j, 0, none⟩)) :=
  ((((h.hrow.alloc _).alloc _).alloc _).alloc _).drew
theorem ChainAt.laid_vv {B CC VV : Nat} {N I V : Nat → Nat} {x : Nat → Int} {m : Nat} {v : Value} {w wr w4 : World} (h : ChainAt B CC VV N I V x m v w wr) (y : Int) (hg : (laidOn wr CC VV m y).drew.grownBy w4 v.ownBlock) :
    w4.heap[VV]? = some (.cells #[v] 80 (0, 0)) :=
  blk_row (h.laid_row y) hg (blk_drew (blk_old (blk_old (blk_old (blk_old h.hVV _) _) _) _)) (by decide)
theorem laid_news (wr : World) (CC VV m : Nat) (y : Int) : ∀ (j : Nat) (u : Value), [Value.pointer (some ⟨wr.heap.size + 1 + 1, 0, none⟩)][j]? = some u → (laidOn wr CC VV m y).drew.cell? ((⟨wr.heap.size + 1 + 1 + 1, 0, none⟩ : Addr).add j) = some u := by
  have hb := blk_new (((wr.alloc (.cells #[.int .i64 m] 3)).alloc (.cells #[.int .i8 y] 81)).alloc (.cells (fresh (chainFv CC (wr.heap.size + 1) wr.heap.size VV) (.int .i64 0)) 92)) (.cells #[.pointer (some ⟨wr.heap.size + 1 + 1, 0, none⟩)] 39 (0, 0))
  intro j u hu
  have := World.news_of_block (blk_drew hb) j u hu
  simpa using this

/-- One more value. -/
theorem chain_step {B CC VV : Nat} {N I V : Nat → Nat} {x : Nat → Int} {m : Nat} {v v' : Value} {w wr w4 : World} (h : ChainAt B CC VV N I V x m v w wr)
    (hown : w4.ownsRow B 39 1 v' (m + 1) (((List.range m).map fun j => Value.pointer (some ⟨V j, 0, none⟩)) ++ [.pointer (some ⟨wr.heap.size + 1 + 1, 0, none⟩)]))
    (hg : (laidOn wr CC VV m (x m)).drew.grownBy w4 v.ownBlock) :
    ChainAt B CC VV (at_ N m (wr.heap.size + 1)) (at_ I m wr.heap.size) (at_ V m (wr.heap.size + 1 + 1)) x (m + 1) v' w (w4.setCell ⟨VV, 0, none⟩ v') := by
  have hBs : B ≤ wr.heap.size := by have := lt_of_block h.hCC; have := h.hBC; omega
  have hr3 := h.laid_row (x m)
  have hvv4 := h.laid_vv (x m) hg
  have fin : ∀ {b : Nat} {c : Array Value} {t : TypeId}, t ≠ 39 → t ≠ 80 → (laidOn wr CC VV m (x m)).heap[b]? = some (.cells c t (0, 0)) → (w4.setCell ⟨VV, 0, none⟩ v').heap[b]? = some (.cells c t (0, 0)) := fun ht ht2 hb => by
    have h4 := blk_row hr3 hg (blk_drew hb) ht
    exact blk_other h4 (blk_ne h4 hvv4 (tag_ne ht2)) _
  have old : ∀ {b : Nat} {c : Array Value} {t : TypeId}, t ≠ 39 → t ≠ 80 → wr.heap[b]? = some (.cells c t (0, 0)) → (w4.setCell ⟨VV, 0, none⟩ v').heap[b]? = some (.cells c t (0, 0)) := fun ht ht2 hb => fin ht ht2 (blk_old (blk_old (blk_old (blk_old hb _) _) _) _)
  have hnI : (w4.setCell ⟨VV, 0, none⟩ v').heap[wr.heap.size]? = some (.cells #[.int .i64 m] 3 (0, 0)) := fin (by decide) (by decide) (blk_old (blk_old (blk_old (blk_new _ _) _) _) _)
  have hnN : (w4.setCell ⟨VV, 0, none⟩ v').heap[wr.heap.size + 1]? = some (.cells #[.int .i8 (x m)] 81 (0, 0)) := by
    refine fin (by decide) (by decide) (blk_old (blk_old ?_ _) _)
    have := blk_new (wr.alloc (.cells #[.int .i64 m] 3)) (.cells #[.int .i8 (x m)] 81 (0, 0))
    simpa using this
  have hnV : (w4.setCell ⟨VV, 0, none⟩ v').heap[wr.heap.size + 1 + 1]? = some (.cells (fresh (chainFv CC (wr.heap.size + 1) wr.heap.size VV) (.int .i64 0)) 92 (0, 0)) := by
    refine fin (by decide) (by decide) (blk_old ?_ _)
    have := blk_new ((wr.alloc (.cells #[.int .i64 m] 3)).alloc (.cells #[.int .i8 (x m)] 81)) (.cells (fresh (chainFv CC (wr.heap.size + 1) wr.heap.size VV) (.int .i64 0)) 92 (0, 0))
    simpa using this
  have cases : ∀ j, j < m + 1 → j = m ∨ (j < m ∧ ¬ j = m) := fun j hj => by omega
  have hbel : Below B w (laidOn wr CC VV m (x m)).drew := ((((h.hb.alloc hBs _).alloc (by simp; omega) _).alloc (by simp; omega) _).alloc (by simp; omega) _).drew
  have hsz : B ≤ (laidOn wr CC VV m (x m)).drew.heap.size := by
    show B ≤ (laidOn wr CC VV m (x m)).heap.size
    simp [laidOn]
    omega
  refine ⟨?_, h.hBC, h.hBVV, ?_, old (by decide) (by decide) h.hCC, blk_set (i := 0) _ hvv4, ?_, ?_, ?_, ?_⟩
  · exact (hbel.grown hg hsz (fun k hk => (hr3.lt k hk).1)).setCell h.hBVV _
  · intro j hj
    rcases cases j hj with rfl | ⟨hj, hne⟩
    · rw [at_self]; omega
    · rw [at_other _ _ hne]; exact h.hBV j hj
  · intro j hj
    rcases cases j hj with rfl | ⟨hj, hne⟩
    · rw [at_self]; exact hnN
    · rw [at_other _ _ hne]; exact old (by decide) (by decide) (h.hN j hj)
  · intro j hj
    rcases cases j hj with rfl | ⟨hj, hne⟩
    · rw [at_self]; exact hnI
    · rw [at_other _ _ hne]; exact old (by decide) (by decide) (h.hI j hj)
  · intro j hj
    rcases cases j hj with rfl | ⟨hj, hne⟩
    · rw [at_self, at_self, at_self]; exact hnV
    · rw [at_other _ _ hne, at_other _ _ hne, at_other _ _ hne]; exact old (by decide) (by decide) (h.hV j hj)
  · have e : ((List.range (m + 1)).map fun j => Value.pointer (some ⟨at_ V m (wr.heap.size + 1 + 1) j, 0, none⟩)) = ((List.range m).map fun j => Value.pointer (some ⟨V j, 0, none⟩)) ++ [.pointer (some ⟨wr.heap.size + 1 + 1, 0, none⟩)] := by
      rw [List.range_succ, List.map_append]
      congr 1
      · apply List.map_congr_left
        intro j hj
        have : j < m := List.mem_range.1 hj
        rw [at_other _ _ (show ¬ j = m by omega)]
      · simp [at_]
    rw [e]
    refine ownsRow_setCell_other hown ?_ _
    rcases hown.2 with ⟨_, h0⟩ | ⟨g, cap, cur, rfl, _, hg2, _⟩
    · omega
    · simp only [Value.ownBlock, ne_eq, Option.some.injEq]
      exact blk_ne hg2 hvv4 (tag_ne (by decide))

theorem ChainAt.of_eq {B CC VV : Nat} {N I V : Nat → Nat} {x : Nat → Int} {m n : Nat} {v : Value} {w wr : World} (h : ChainAt B CC VV N I V x m v w wr) (e : m = n) : ChainAt B CC VV N I V x n v w wr := e ▸ h

theorem ChainAt.inj {B CC VV : Nat} {N I V : Nat → Nat} {x : Nat → Int} {m : Nat} {v : Value} {w wr : World} (h : ChainAt B CC VV N I V x m v w wr) (s t : Nat) (hs : s < m) (ht : t < m) (hne : ¬ s = t) : V s ≠ V t := by
  refine blk_ne (h.hV s hs) (h.hV t ht) ?_
  intro e
  have e' : fresh (chainFv CC (N s) (I s) VV) (.int .i64 0) = fresh (chainFv CC (N t) (I t) VV) (.int .i64 0) := by injection e
  have e2 := fresh_inj e'
  have e3 : I s = I t := by
    simp [chainFv] at e2
    exact e2.2
  have h1 := h.hI s hs
  rw [e3, h.hI t ht] at h1
  simp at h1
  omega

theorem ChainAt.env {B CC VV G m cap : Nat} {N I V : Nat → Nat} {x : Nat → Int} {w wr : World} (h : ChainAt B CC VV N I V x m (.slice (some ⟨G, 0, none⟩) m cap) w wr) (hm : 0 < m) : ChainEnv VV G m cap N I V x wr := by
  refine ⟨h.hVV, ?_, h.hN, h.hI⟩
  rcases h.hrow.2 with ⟨h0, _⟩ | ⟨g, c, cur, he, _, hg2, _, _, _, hg6⟩
  · cases h0
  · simp at he
    obtain ⟨rfl, rfl⟩ := he
    refine ⟨cur, hg2, fun t ht => ?_⟩
    have h1 : (cur.toList.take (m * 1))[t]? = cur.toList[t]? := List.getElem?_take_of_lt (by omega)
    rw [hg6] at h1
    rw [← Array.getElem?_toList, ← h1]
    simp [ht]

set_option maxRecDepth 100000 in
set_option maxHeartbeats 8000000 in
theorem chain_short (a : Option Addr) (len cap : Nat) (zs : List Int) (g : Int) (hg : 0 ≤ g) (hg2 : g ≤ 255) (w : World) (h : Ints .i8 w a len cap zs) (hlen : ¬ 30 < len) :
    Calls Try.prog 10 #[.slice a len cap, .int .u8 g] w fun e w' => e = .returned (.bool true) ∧ Below w.heap.size w w' := by
  have hmf : ∀ (fn : Fn) (first cap : Array Value) (w : World), (Instr.makeFunc fn first cap).run Try.prog w = .ok (.func fn first cap) w := fun _ _ _ _ => rfl
  have hnot : ∀ (x : Bool) (w : World), (Op.unary .not (.bool x)).run Try.prog w = .ok (.bool (!x)) w := fun _ _ => rfl
  have hd : decide ((30 : Int) < (len : Int)) = false := by simp; omega
  have H1 := Lib.hid h.cases
  clear h
  obtain ⟨x, hxe⟩ : ∃ x : Nat → Int, x = fun t => zs.getD t 0 := ⟨_, rfl⟩
  have HX := Lib.hid hxe
  clear hxe
  go_enter Try.func10, Try.ntmps10
  go_wp2_with (go_at_call 12; refine (alive_true w).mono ?_; rintro e w1 ⟨rfl, hbel⟩; have HBEL := Lib.hid hbel; clear hbel)
  have hw1 : w.heap.size ≤ w1.heap.size := HBEL.out.size
  have HS : Hid (ChainAt w.heap.size w1.heap.size (w1.heap.size + 1) (fun _ => 0) (fun _ => 0) (fun _ => 0) x 0 (.slice none 0 0) w ((w1.alloc (.cells #[.int .i64 0] 30)).alloc (.cells #[.slice none 0 0] 80))) := by
    refine ⟨(HBEL.out.alloc hw1 _).alloc (by simp; omega) _, hw1, by omega, fun j hj => absurd hj (Nat.not_lt_zero _), blk_old (blk_new _ _) _, ?_, fun j hj => absurd hj (Nat.not_lt_zero _), fun j hj => absurd hj (Nat.not_lt_zero _), fun j hj => absurd hj (Nat.not_lt_zero _), World.ownsRow_nil _ _ _ _⟩
    have := blk_new (w1.alloc (.cells #[.int .i64 0] 30)) (.cells #[.slice none 0 0] 80 (0, 0))
    simpa using this
  clear HBEL
  obtain ⟨i0, hi, hz0, hz1, hz2⟩ := info_parts (show (Try.prog.info? 39).map (fun i => (i.zero, i.size, i.bytes)) = some (some (.pointer none), 1, 8) by kernel_rfl)
  have HI : Hid (Try.prog.info? 39 = some i0 ∧ i0.zero = some (.pointer none) ∧ i0.size = 1 ∧ i0.bytes = 8) := ⟨hi, hz0, hz1, hz2⟩
  clear hi hz0 hz1 hz2
  go_loopw [27] (fun i wr => ∃ (j : Nat) (N I V : Nat → Nat) (v : Value), j ≤ len ∧ i = .int .i64 j ∧ ChainAt w.heap.size w1.heap.size (w1.heap.size + 1) N I V x j v w wr) (fun i _ => len - (intOf i).toNat)
  case atStart => exact ⟨0, _, _, _, _, Nat.zero_le _, rfl, HS.out⟩
  case round =>
    obtain ⟨j, N, I, V, v, hj, rfl, hst⟩ := hrel
    clear HS
    have HST := Lib.hid hst
    clear hst
    by_cases hlt : j < len
    · rcases H1.out with h0 | ⟨b, off, rfl, hb, _, hle, hmax, hcell, _⟩
      · omega
      unfold maxLen at hmax
      have ct : wr.cell? ⟨b, off + j, none⟩ = some (.int .i8 (x j)) := by rw [HST.out.hb.cell hb, HX.out]; exact hcell j hlt
      have cv : wr.cell? ⟨w1.heap.size + 1, 0, none⟩ = some v := blk_cell HST.out.hVV rfl
      have hvl : w1.heap.size + 1 < wr.heap.size := lt_of_block HST.out.hVV
      have hBs : w.heap.size ≤ wr.heap.size := HST.out.hb.size
      clear H1 HX hcell
      have hbase : w.heap.size ≤ (laidOn wr w1.heap.size (w1.heap.size + 1) j (x j)).drew.heap.size := by
        show w.heap.size ≤ (laidOn wr w1.heap.size (w1.heap.size + 1) j (x j)).heap.size
        simp [laidOn]
        omega
      have h63 : j + 1 ≤ maxLen := by unfold maxLen; omega
      have cv2 : ∀ o1 o2 : Obj, ((wr.alloc o1).alloc o2).cell? ⟨w1.heap.size + 1, 0, none⟩ = some v := fun o1 o2 => blk_cell (blk_old (blk_old HST.out.hVV o1) o2) rfl
      have cv3 : ∀ o1 o2 o3 : Obj, (((wr.alloc o1).alloc o2).alloc o3).cell? ⟨w1.heap.size + 1, 0, none⟩ = some v := fun o1 o2 o3 => blk_cell (blk_old (blk_old (blk_old HST.out.hVV o1) o2) o3) rfl
      have cv4 : ∀ o1 o2 o3 o4 : Obj, ((((wr.alloc o1).alloc o2).alloc o3).alloc o4).cell? ⟨w1.heap.size + 1, 0, none⟩ = some v := fun o1 o2 o3 o4 => blk_cell (blk_old (blk_old (blk_old (blk_old HST.out.hVV o1) o2) o3) o4) rfl
      have HBS := Lib.hid hbase
      have H63 := Lib.hid h63
      clear hbase h63
      go_wp2_with fail
      go_region_law (first
        | (refine step_append_lies _ (by rfl) _ _ _ (by rfl) w.heap.size 39 i0 _ 1 8 Try.underlying80 HI.out.1 HI.out.2.1 HI.out.2.2.1 HI.out.2.2.2 rfl (by omega) v j _ (by rfl) (HST.out.laid_row (x j)) ⟨wr.heap.size + 1 + 1 + 1, 0, none⟩ 1 1 [.pointer (some ⟨wr.heap.size + 1 + 1, 0, none⟩)] (by rfl) (by rfl) (laid_news wr w1.heap.size (w1.heap.size + 1) j (x j)) (by simp [Value.oneCell']) (by omega) H63.out (by omega) HBS.out _ rfl ?_; intro gg cp w4 hown4 hgr4 _ _; have hvv4 : w4.cell? ⟨w1.heap.size + 1, 0, none⟩ = some v := blk_cell (HST.out.laid_vv (x j) hgr4) rfl; have hfz4 : w4.frozen? ⟨w1.heap.size + 1, 0, none⟩ = false := blk_free (HST.out.laid_vv (x j) hgr4); have HOWN4 := Lib.hid hown4; have HGR4 := Lib.hid hgr4; clear hown4 hgr4)
        | (go_simp; go_at_call 19; refine (new64 _ _ _).mono ?_; rintro e w' ⟨rfl, rfl⟩))
      all_goals
        go_wp2
        go_roundw
        case rel => exact ⟨j + 1, _, _, _, _, by omega, by go_num, chain_step HST.out HOWN4.out HGR4.out⟩
        case measure => simp [intOf]; omega
    · have hjl : j = len := by omega
      have HSTl := Lib.hid (HST.out.of_eq hjl)
      have hlt' : ¬ (j : Int) < (len : Int) := by omega
      clear HST HI hlt hjl
      have HST := Lib.hid HSTl.out
      clear HSTl
      rcases HST.out.hrow.2 with ⟨rfl, h0⟩ | ⟨G, cp, cur, rfl, _, _, hG3, hG4, _, _⟩
      · have cv : wr.cell? ⟨w1.heap.size + 1, 0, none⟩ = some (.slice none 0 0) := blk_cell HST.out.hVV rfl
        clear H1 HX
        go_wp2
        go_ret
        exact ⟨rfl, HST.out.hb⟩
      · have cv : wr.cell? ⟨w1.heap.size + 1, 0, none⟩ = some (.slice (some ⟨G, 0, none⟩) len cp) := blk_cell HST.out.hVV rfl
        unfold maxLen at hG4
        rcases H1.out with h0 | ⟨b, off, rfl, hb, hpos, hle, hmax, hcell, hwf⟩
        · have hz : ((len : Int) == 0) = true := by simp; exact h0
          clear H1 HX
          go_wp2
          go_ret
          exact ⟨rfl, HST.out.hb⟩
        · unfold maxLen at hmax
          have hz : ((len : Int) == 0) = false := by simp; omega
          have hx : ∀ t, t < len → -128 ≤ x t ∧ x t ≤ 127 := fun t ht => by rw [HX.out]; exact bounds_i8 (hwf t ht)
          have hct : ∀ t, t < len → wr.cell? ⟨b, off + t, none⟩ = some (.int .i8 (x t)) := fun t ht => by rw [HST.out.hb.cell hb, HX.out]; exact hcell t ht
          have HXB := Lib.hid hx
          have HCT := Lib.hid hct
          clear hx hct H1 HX hcell hwf
          obtain ⟨k, hgk, hkl⟩ : ∃ k : Nat, g % (len : Int) = (k : Int) ∧ k < len := by
            have h1 := Int.emod_nonneg g (show (len : Int) ≠ 0 by omega)
            have h2 := Int.emod_lt_of_pos g (show 0 < (len : Int) by omega)
            exact ⟨(g % (len : Int)).toNat, by omega, by omega⟩
          have hgm : g.tmod (len : Int) = (k : Int) := by rw [Int.tmod_eq_emod_of_nonneg hg]; exact hgk
          have hk1 : (k : Int) + 1 ≤ (cap : Int) := by omega
          have hk2 : (0 : Int) ≤ (k : Int) + 1 := by omega
          go_wp2_with fail
          clear hgk hgm
          go_loop [10, 51] (fun s q => ∃ y : Nat, y ≤ k + 1 ∧ q = .int .i64 y ∧ s = .int .i64 (sums x y)) (fun _ q => k + 1 - (intOf q).toNat)
          case atStart => exact ⟨0, Nat.zero_le _, rfl, rfl⟩
          case round =>
            obtain ⟨y, hy, rfl, rfl⟩ := hrel
            by_cases hyk : y < k + 1
            · have hct := HCT.out y (by omega)
              obtain ⟨hx1, hx2⟩ := HXB.out y (by omega)
              have hyk' : (y : Int) < (k : Int) + 1 := by omega
              have HN : Hid (wrap64 (sums x y + x y) = sums x (y + 1)) := rfl
              generalize sums x y = s0 at HN
              generalize x y = x0 at hct hx1 hx2 HN
              go_wp2
              go_round
              case rel => exact ⟨y + 1, by omega, by go_num, by rw [← HN.out]⟩
              case measure => simp [intOf]; omega
            · obtain rfl : y = k + 1 := by omega
              obtain ⟨s0, hs0⟩ : ∃ s0, s0 = sums x (k + 1) := ⟨_, rfl⟩
              rw [← hs0]
              have HS0 := Lib.hid hs0
              have hyk' : ¬ (((k + 1 : Nat) : Int) < (k : Int) + 1) := by omega
              clear hs0 hyk HCT
              have gk : wr.cell? ⟨G, k, none⟩ = some (.pointer (some ⟨V k, 0, none⟩)) := by
                obtain ⟨c, h1, h2⟩ := (HST.out.env hpos).hG
                exact blk_cell h1 (h2 k hkl)
              go_wp2_with fail
              refine wp_loop_rounds 3 ?_
              rw [rounds_succ]
              go_wp2_with fail
              refine (chain_get w1.heap.size (w1.heap.size + 1) G len cp N I V x hG3 hG4 HXB.out k hkl 0 wr (by omega) (HST.out.env hpos) HST.out.hCC (fun t ht => HST.out.hV t (by omega))).mono ?_
              rw [← HS0.out]
              rintro e w2 ⟨rfl, hon, hC2, hmd⟩
              have nV : ∀ t, k < t → t < len → ¬ Turns w1.heap.size V k (V t) := by
                rintro t ht htl (e | ⟨q, hq, e⟩)
                · exact blk_ne (HST.out.hV t htl) HST.out.hCC (tag_ne (by decide)) e
                · exact HST.out.inj t q htl (by omega) (by omega) e
              have nT : ∀ {b : Nat} {c : Array Value} {t : TypeId}, t ≠ 30 → t ≠ 92 → wr.heap[b]? = some (.cells c t (0, 0)) → ¬ Turns w1.heap.size V k b := by
                rintro b c t h1 h2 hb' (e | ⟨q, hq, e⟩)
                · exact blk_ne hb' HST.out.hCC (tag_ne h1) e
                · exact blk_ne hb' (HST.out.hV q (by omega)) (tag_ne h2) e
              have henv2 : ChainEnv (w1.heap.size + 1) G len cp N I V x w2 := (HST.out.env hpos).keep fun h1 h2 hb' => hon.keep hb' (nT h1 h2 hb')
              have hV2 : ∀ t, t < len → ∃ q : Int, ((t : Int) ≤ (k : Int) ↔ q = 1) ∧ (q = 0 ∨ q = 1) ∧ ∃ cs : Array Value, w2.heap[V t]? = some (.cells cs 92 (0, 0)) ∧ cs[6]? = some (.int .u32 q) := fun t ht => by
                rcases Nat.lt_or_ge k t with hkt | hkt
                · exact ⟨0, by constructor <;> intro h <;> omega, .inl rfl, _, hon.keep (HST.out.hV t ht) (nV t hkt ht), rfl⟩
                · exact ⟨1, by constructor <;> intro h <;> omega, .inr rfl, _, hmd t hkt, rfl⟩
              have HB2 : Hid (Below w.heap.size w w2) := HST.out.hb.trans (hon.below (by
                rintro b' (e | ⟨q, hq, e⟩)
                · rw [e]; exact HST.out.hBC
                · rw [e]; exact HST.out.hBV q (by omega)))
              have HMK := Lib.hid (hmd k (Nat.le_refl _))
              rw [← HS0.out] at HMK
              have cc2 : w2.cell? ⟨w1.heap.size, 0, none⟩ = some (.int .i64 ((k : Int) + 1)) := by
                have e : ((0 + (k + 1) : Nat) : Int) = (k : Int) + 1 := by omega
                rw [e] at hC2
                exact blk_cell hC2 rfl
              have cv2 : w2.cell? ⟨w1.heap.size + 1, 0, none⟩ = some (.slice (some ⟨G, 0, none⟩) len cp) := blk_cell henv2.hVV rfl
              have gk2 : ∀ t, t < len → w2.cell? ⟨G, t, none⟩ = some (.pointer (some ⟨V t, 0, none⟩)) := fun t ht => by
                obtain ⟨c, h1, h2⟩ := henv2.hG
                exact blk_cell h1 (h2 t ht)
              have gkk := gk2 k hkl
              have HGK2 := Lib.hid gk2
              have HV2 := Lib.hid hV2
              clear gk2 hV2 henv2 nT nV hon hC2 hmd gk cv HST HXB
              go_wp2_with (go_at_call 18; refine (cget ⟨w1.heap.size, 0, none⟩ ((k : Int) + 1) _ cc2).mono ?_; rintro e w' ⟨rfl, rfl⟩)
              rw [rounds_succ]
              go_wp2_with (first
                | (go_at_call 22; refine (getMade64 (V k) s0 _ HMK.out).mono ?_; rintro e w' ⟨rfl, rfl⟩)
                | (go_at_call 18; refine (cget ⟨w1.heap.size, 0, none⟩ ((k : Int) + 1) _ cc2).mono ?_; rintro e w' ⟨rfl, rfl⟩))
              rw [rounds_succ]
              go_wp2_with fail
              go_loop [86] (fun q => ∃ y : Nat, y ≤ len ∧ q = .int .i64 y) (fun q => len - (intOf q).toNat)
              case atStart => exact ⟨0, Nat.zero_le _, rfl⟩
              case round =>
                obtain ⟨y, hy, rfl⟩ := hrel
                by_cases hyl : y < len
                · obtain ⟨q, hq1, hq2, cs, hcs, h6⟩ := HV2.out y hyl
                  have gy := HGK2.out y hyl
                  have HCS := Lib.hid hcs
                  have H6 := Lib.hid h6
                  clear hcs h6
                  rcases hq2 with rfl | rfl
                  · have hle : ¬ y ≤ k := fun h => by have := hq1.1 (by omega); omega
                    have hd1 : decide (y ≤ k) = false := by simp; omega
                    clear hq1
                    go_wp2_with (go_at_call 21; refine (isMade64 (V y) 0 _ _ HCS.out H6.out).mono ?_; rintro e w' ⟨rfl, rfl⟩)
                    go_round
                    case rel => exact ⟨y + 1, by omega, by go_num⟩
                    case measure => simp [intOf]; omega
                  · have hle : y ≤ k := by have := hq1.2 rfl; omega
                    have hd1 : decide (y ≤ k) = true := by simp; omega
                    clear hq1
                    go_wp2_with (go_at_call 21; refine (isMade64 (V y) 1 _ _ HCS.out H6.out).mono ?_; rintro e w' ⟨rfl, rfl⟩)
                    go_round
                    case rel => exact ⟨y + 1, by omega, by go_num⟩
                    case measure => simp [intOf]; omega
                · go_wp2
                  go_ret
                  exact ⟨rfl, HB2.out⟩

set_option maxRecDepth 100000 in
set_option maxHeartbeats 800000 in
theorem chain_long (a : Option Addr) (len cap : Nat) (g : Int) (w : World) (hlen : 30 < len) :
    Calls Try.prog 10 #[.slice a len cap, .int .u8 g] w fun e w' => e = .returned (.bool true) ∧ Below w.heap.size w w' := by
  go_enter Try.func10, Try.ntmps10
  go_wp2_with (go_at_call 12; refine (alive_true w).mono ?_; rintro e w1 ⟨rfl, hbel⟩; have HBEL := Lib.hid hbel; clear hbel)
  go_ret
  exact ⟨rfl, HBEL.out⟩

theorem chain_walk (a : Option Addr) (len cap : Nat) (zs : List Int) (g : Int) (hg : 0 ≤ g) (hg2 : g ≤ 255) (w : World) (h : Ints .i8 w a len cap zs) :
    Calls Try.prog 10 #[.slice a len cap, .int .u8 g] w fun e w' => e = .returned (.bool true) ∧ Below w.heap.size w w' := by
  by_cases hlen : 30 < len
  · exact chain_long a len cap g w hlen
  · exact chain_short a len cap zs g hg hg2 w h hlen
end Go.Proofs.Ytcogfajmocbogaa
