/-
  The contract of the document's Same.
-/
import Derived.Test.YtgmpggjikebcdaaGreatDoorCEach
import Derived.Test.YtgmpggjikebcdaaGreatDoorWSame
import Derived.Deep.QuietTactic
import Derived.BigQuiet
namespace Go.Proofs.YtgmpggjikebcdaaGreatDoor
open Go.RowKit

def SamePost (b : Bool) (W : World) (w : World) (e : Ending) (w' : World) : Prop := e = .returned (.bool b) ∧ Below w.heap.size w w'
theorem prog_ext {p q : PProg} (h1 : p.types = q.types) (h2 : p.locals = q.locals) (h3 : p.globs = q.globs) (h4 : p.code = q.code) : p = q := by
  cases p; cases q; simp_all
theorem ins_ext {i j : PIns} (h1 : i.op = j.op) (h2 : i.a = j.a) (h3 : i.b = j.b) (h4 : i.c = j.c) (h5 : i.n = j.n) : i = j := by
  cases i; cases j; simp_all
theorem list_ext {α : Type} {x y : List α} (h : x.length = y.length) (hk : ∀ k : Nat, k < x.length → x[k]? = y[k]?) : x = y := by
  apply List.ext_getElem?
  intro k
  by_cases hk' : k < x.length
  · exact hk k hk'
  · rw [List.getElem?_eq_none (by omega), List.getElem?_eq_none (by omega)]

set_option maxRecDepth 100000 in
set_option maxHeartbeats 1000000 in
theorem same_walk (a a' d d' : Option Addr) (c c' f f' : Nat) (p q : PProg) (b : Bool) (w : World)
    (hc : p.types.length ≤ c ∧ c ≤ 9223372036854775807) (hc' : p.code.length ≤ c' ∧ c' ≤ 9223372036854775807) (hf : q.types.length ≤ f ∧ f ≤ 9223372036854775807) (hf' : q.code.length ≤ f' ∧ f' ≤ 9223372036854775807)
    (HT : Hid (∀ k x, p.types[k]? = some x → ∃ b o, a = some ⟨b, o, none⟩ ∧ b < w.heap.size ∧ w.cell? ⟨b, o + k, none⟩ = some (str x)))
    (HT' : Hid (∀ k x, q.types[k]? = some x → ∃ b o, d = some ⟨b, o, none⟩ ∧ b < w.heap.size ∧ w.cell? ⟨b, o + k, none⟩ = some (str x)))
    (HI : Hid (∀ k i, p.code[k]? = some i → ∃ b o, a' = some ⟨b, o, none⟩ ∧ b < w.heap.size ∧ w.rangeAt b (o + k * 5) (insC i).toList))
    (HI' : Hid (∀ k i, q.code[k]? = some i → ∃ b o, d' = some ⟨b, o, none⟩ ∧ b < w.heap.size ∧ w.rangeAt b (o + k * 5) (insC i).toList))
    (HB : Hid (b = true ↔ p = q)) :
    Calls Tryz.prog 13 #[.agg #[.slice a p.types.length c, str p.locals, str p.globs, .slice a' p.code.length c'], .agg #[.slice d q.types.length f, str q.locals, str q.globs, .slice d' q.code.length f']] w (SamePost b w w) := by
  have hwb : Below w.heap.size w ((w.alloc (.cells #[.slice a p.types.length c, str p.locals, str p.globs, .slice a' p.code.length c'] 25)).alloc (.cells #[.slice d q.types.length f, str q.locals, str q.globs, .slice d' q.code.length f'] 25)) := ((Below.refl _ _).alloc (Nat.le_refl _) _).alloc (by simp) _
  have HWB := Lib.hid hwb
  clear hwb
  by_cases e1 : p.types.length = q.types.length
  · by_cases e2 : p.code.length = q.code.length
    · by_cases e3 : p.locals = q.locals
      · by_cases e4 : p.globs = q.globs
        · have HNE : Hid ((∃ (k : Nat) (x y : Bs), p.types[k]? = some x ∧ q.types[k]? = some y ∧ x ≠ y) ∨ (∃ (k : Nat) (i j : PIns), p.code[k]? = some i ∧ q.code[k]? = some j ∧ i ≠ j) → b = false) := Lib.hid fun h => by
            rw [Bool.eq_false_iff]; intro hb
            have := HB.out.1 hb
            subst this
            rcases h with ⟨k, x, y, h1, h2, h3⟩ | ⟨k, x, y, h1, h2, h3⟩ <;> (rw [h1] at h2; exact h3 (Option.some.inj h2))
          have HEQ : Hid ((∀ k, k < p.types.length → p.types[k]? = q.types[k]?) → (∀ k, k < p.code.length → p.code[k]? = q.code[k]?) → b = true) := Lib.hid fun h1 h2 => HB.out.2 (prog_ext (list_ext e1 h1) e3 e4 (list_ext e2 h2))
          rw [e1] at HEQ hc ⊢
          rw [e2] at HEQ hc' ⊢
          rw [e3, e4]
          have HL1 := Lib.hid e1
          have HL2 := Lib.hid e2
          have hxx : (q.locals == q.locals) = true := by simp
          rw [e1, e2, e3, e4] at HWB
          clear e1 e2 e3 e4 HB
          go_enter Tryz.func13, Tryz.ntmps13
          go_wp2
          have hA := blk_alloc (blk_new w #[.slice a q.types.length c, str q.locals, str q.globs, .slice a' q.code.length c'] 25) (.cells #[.slice d q.types.length f, str q.locals, str q.globs, .slice d' q.code.length f'] 25)
          have hB := blk_new (w.alloc (.cells #[.slice a q.types.length c, str q.locals, str q.globs, .slice a' q.code.length c'] 25)) #[.slice d q.types.length f, str q.locals, str q.globs, .slice d' q.code.length f'] 25
          rw [World.size_alloc] at hB
          generalize (w.alloc (.cells #[.slice a q.types.length c, str q.locals, str q.globs, .slice a' q.code.length c'] 25)).alloc (.cells #[.slice d q.types.length f, str q.locals, str q.globs, .slice d' q.code.length f'] 25) = W2 at *
          have HA := Lib.hid hA
          have HBk := Lib.hid hB
          clear hA hB
          go_loopw [5] (fun i wr => ∃ k : Nat, k ≤ q.types.length ∧ i = .int .i64 k ∧ Hid (∀ m, m < k → p.types[m]? = q.types[m]?) ∧ Drawn W2 wr) (fun i _ => q.types.length - (intOf i).toNat)
          case atStart => exact ⟨0, Nat.zero_le _, rfl, Lib.hid (fun m hm => by omega), drawn_refl _⟩
          case round =>
            obtain ⟨k, hk, rfl, hs, hr⟩ := hrel
            have ca := blk_cell HA.out 0 _ rfl
            have cb := blk_cell HBk.out 0 _ rfl
            rw [← hr.cell] at ca cb
            by_cases hlt : k < q.types.length
            · obtain ⟨y, hy⟩ : ∃ y, q.types[k]? = some y := ⟨_, List.getElem?_eq_getElem hlt⟩
              obtain ⟨x, hx⟩ : ∃ x, p.types[k]? = some x := ⟨_, List.getElem?_eq_getElem (by rw [HL1.out]; exact hlt)⟩
              obtain ⟨b1, o1, rfl, g1, c1⟩ := HT.out k x hx
              obtain ⟨b2, o2, rfl, g2, c2⟩ := HT'.out k y hy
              have cx : wr.cell? ⟨b1, o1 + k, none⟩ = some (str x) := by rw [hr.cell, (bcell HWB.out).1 b1 _ g1]; exact c1
              have cy : wr.cell? ⟨b2, o2 + k, none⟩ = some (str y) := by rw [hr.cell, (bcell HWB.out).1 b2 _ g2]; exact c2
              have HX := Lib.hid hx
              have HY := Lib.hid hy
              have HR := Lib.hid hr
              clear hx hy c1 c2 hr
              by_cases hxy : x = y
              · subst hxy
                go_wp2
                go_quiet (fail)
                go_wp2
                go_roundw
                case rel => exact ⟨k + 1, by omega, by go_num, Lib.hid (fun m hm => by
                  rcases Nat.lt_or_ge m k with h | h
                  · exact hs.out m h
                  · obtain rfl : m = k := by omega
                    rw [HX.out, HY.out]), HR.out.more _⟩
                case measure => simp [intOf]; omega
              · have HF := Lib.hid (HNE.out (.inl ⟨k, x, y, HX.out, HY.out, hxy⟩))
                have hq : (x == y) = false := by simpa using hxy
                clear hxy
                go_wp2
                go_quiet (fail)
                go_wp2
                go_ret
                rw [HF.out]
                exact ⟨rfl, HWB.out.trans ((HR.out.more _).below.mono HWB.out.size)⟩
            · obtain rfl : k = q.types.length := by omega
              have HS := Lib.hid hs.out
              have HR := Lib.hid hr
              clear hs hr
              go_wp2
              go_loopw [6] (fun i wi => ∃ j : Nat, j ≤ q.code.length ∧ i = .int .i64 j ∧ Hid (∀ m, m < j → p.code[m]? = q.code[m]?) ∧ Drawn W2 wi) (fun i _ => q.code.length - (intOf i).toNat)
              case atStart => exact ⟨0, Nat.zero_le _, rfl, Lib.hid (fun m hm => by omega), HR.out⟩
              case round =>
                obtain ⟨j, hj, rfl, ht, hq⟩ := hrel
                have ca3 := blk_cell HA.out 3 _ rfl
                have cb3 := blk_cell HBk.out 3 _ rfl
                rw [← hq.cell] at ca3 cb3
                clear ca cb
                by_cases hjt : j < q.code.length
                · obtain ⟨y, hy⟩ : ∃ y, q.code[j]? = some y := ⟨_, List.getElem?_eq_getElem hjt⟩
                  obtain ⟨x, hx⟩ : ∃ x, p.code[j]? = some x := ⟨_, List.getElem?_eq_getElem (by rw [HL2.out]; exact hjt)⟩
                  obtain ⟨b1, o1, rfl, g1, r1⟩ := HI.out j x hx
                  obtain ⟨b2, o2, rfl, g2, r2⟩ := HI'.out j y hy
                  have rx := rangeAt_below (rangeAt_below r1 g1 HWB.out) (Nat.lt_of_lt_of_le g1 HWB.out.size) hq.below
                  have ry := rangeAt_below (rangeAt_below r2 g2 HWB.out) (Nat.lt_of_lt_of_le g2 HWB.out.size) hq.below
                  have x0 := rx 0 _ rfl
                  have x1 := rx 1 _ rfl
                  have x2 := rx 2 _ rfl
                  have x3 := rx 3 _ rfl
                  have x4 := rx 4 _ rfl
                  have y0 := ry 0 _ rfl
                  have y1 := ry 1 _ rfl
                  have y2 := ry 2 _ rfl
                  have y3 := ry 3 _ rfl
                  have y4 := ry 4 _ rfl
                  rw [Nat.add_zero] at x0 y0
                  have HX := Lib.hid hx
                  have HY := Lib.hid hy
                  have HR := Lib.hid hq
                  clear hx hy r1 r2 rx ry hq
                  obtain ⟨xo, xa, xb, xc, xn⟩ := x
                  obtain ⟨yo, ya, yb, yc, yn⟩ := y
                  simp only at x0 x1 x2 x3 x4 y0 y1 y2 y3 y4
                  have hgu := Tryz.eqGuardType27
                  by_cases h1 : xo = yo
                  · subst h1
                    by_cases h1 : xa = ya
                    · subst h1
                      by_cases h1 : xb = yb
                      · subst h1
                        by_cases h1 : xc = yc
                        · subst h1
                          by_cases h1 : xn = yn
                          · subst h1
                            go_wp2
                            go_quiet (fail)
                            go_wp2
                            go_roundw
                            case rel => exact ⟨j + 1, by omega, by go_num, Lib.hid (fun m hm => by
                              rcases Nat.lt_or_ge m j with h | h
                              · exact ht.out m h
                              · obtain rfl : m = j := by omega
                                rw [HX.out, HY.out]), HR.out.more _⟩
                            case measure => simp [intOf]; omega
                          · have HF := Lib.hid (HNE.out (.inr ⟨j, _, _, HX.out, HY.out, by simp [h1]⟩))
                            go_wp2
                            go_quiet (fail)
                            go_wp2
                            go_ret
                            rw [HF.out]
                            exact ⟨rfl, HWB.out.trans ((HR.out.more _).below.mono HWB.out.size)⟩
                        · have HF := Lib.hid (HNE.out (.inr ⟨j, _, _, HX.out, HY.out, by simp [h1]⟩))
                          go_wp2
                          go_quiet (fail)
                          go_wp2
                          go_ret
                          rw [HF.out]
                          exact ⟨rfl, HWB.out.trans ((HR.out.more _).below.mono HWB.out.size)⟩
                      · have HF := Lib.hid (HNE.out (.inr ⟨j, _, _, HX.out, HY.out, by simp [h1]⟩))
                        go_wp2
                        go_quiet (fail)
                        go_wp2
                        go_ret
                        rw [HF.out]
                        exact ⟨rfl, HWB.out.trans ((HR.out.more _).below.mono HWB.out.size)⟩
                    · have HF := Lib.hid (HNE.out (.inr ⟨j, _, _, HX.out, HY.out, by simp [h1]⟩))
                      go_wp2
                      go_quiet (fail)
                      go_wp2
                      go_ret
                      rw [HF.out]
                      exact ⟨rfl, HWB.out.trans ((HR.out.more _).below.mono HWB.out.size)⟩
                  · have HF := Lib.hid (HNE.out (.inr ⟨j, _, _, HX.out, HY.out, by simp [h1]⟩))
                    go_wp2
                    go_quiet (fail)
                    go_wp2
                    go_ret
                    rw [HF.out]
                    exact ⟨rfl, HWB.out.trans ((HR.out.more _).below.mono HWB.out.size)⟩
                · obtain rfl : j = q.code.length := by omega
                  have HF := Lib.hid (HEQ.out HS.out ht.out)
                  go_wp2
                  go_ret
                  rw [HF.out]
                  exact ⟨rfl, HWB.out.trans (hq.below.mono HWB.out.size)⟩
        · have hb : b = false := by
            rw [Bool.eq_false_iff]; intro h; exact e4 (by rw [HB.out.1 h])
          have x4 : (p.globs == q.globs) = false := by simpa using e4
          subst hb
          rw [e1, e2, e3] at HWB ⊢
          clear e1 e2 e3 e4
          go_enter Tryz.func13, Tryz.ntmps13
          go_wp2
          go_ret
          exact ⟨rfl, HWB.out⟩
      · have hb : b = false := by
          rw [Bool.eq_false_iff]; intro h; exact e3 (by rw [HB.out.1 h])
        have x4 : (p.locals == q.locals) = false := by simpa using e3
        subst hb
        rw [e1, e2] at HWB ⊢
        clear e1 e2 e3
        go_enter Tryz.func13, Tryz.ntmps13
        go_wp2
        go_ret
        exact ⟨rfl, HWB.out⟩
    · have hb : b = false := by
        rw [Bool.eq_false_iff]; intro h; exact e2 (by rw [HB.out.1 h])
      have x4 : ((p.code.length : Int) == q.code.length) = false := by simp only [beq_eq_false_iff_ne]; omega
      have x5 : ((p.code.length : Int) != q.code.length) = true := by simp only [bne_iff_ne, ne_eq]; omega
      subst hb
      rw [e1] at HWB ⊢
      clear e1 e2
      go_enter Tryz.func13, Tryz.ntmps13
      go_wp2
      go_ret
      exact ⟨rfl, HWB.out⟩
  · have hb : b = false := by
      rw [Bool.eq_false_iff]; intro h; exact e1 (by rw [HB.out.1 h])
    have x4 : ((p.types.length : Int) == q.types.length) = false := by simp only [beq_eq_false_iff_ne]; omega
    have x5 : ((p.types.length : Int) != q.types.length) = true := by simp only [bne_iff_ne, ne_eq]; omega
    subst hb
    clear e1
    go_enter Tryz.func13, Tryz.ntmps13
    go_wp2
    go_ret
    exact ⟨rfl, HWB.out⟩
end Go.Proofs.YtgmpggjikebcdaaGreatDoor
