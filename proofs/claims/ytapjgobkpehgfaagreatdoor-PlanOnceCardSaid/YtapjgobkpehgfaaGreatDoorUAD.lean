/-
  A program as it lies; the contract of Few.
  A program that came in, opened.
  The table of operations, out of what the rows list.
  Appends of instructions, and of texts, to rows of the call's own.
  Contracts of the library at this program, laid in plain words (the laying of the shelf, cut to what is used).
-/
import Derived.Test.YtapjgobkpehgfaaGreatDoorUAC
import Derived.OpenShut
import Derived.ProofKit
import Derived.ShutString
import Derived.Deep.Strs
import Derived.Deep.Slices
import Derived.Deep.Fields
import Derived.ChangeSame
import Derived.Lib.SmallJoins
import Derived.SizedLaws
import Derived.Stop.LaidErr
import Derived.Test.YtapjgobkpehgfaaGreatDoorRows
import Derived.LaidMore
import Derived.Lay
import Derived.Stop.Joined
import Derived.Laws.AppendOwnNone
import Derived.BigFrame
import Derived.Shelf.Strconv.Itoa0
import Derived.Shelf.Strconv.Itoa1
import Derived.Shelf.LaysM
import Derived.Shelf.Strconv.Itoa2
import Derived.Shelf.Strconv.Itoa3
import Derived.Shelf.Strconv.Itoa4
import Derived.Shelf.Bits.Mul64
import Derived.Test.YtapjgobkpehgfaaGreatDoorProg

/- A program as it lies; the contract of Few. -/
namespace Go.Proofs.YtapjgobkpehgfaaGreatDoor
set_option linter.unusedSimpArgs false
set_option linter.unusedVariables false
open Go.RowKit

/-- A slice of instructions, wherever it lies. -/
def InsRow (w : World) (v : Value) (code : List PIns) : Prop :=
  ∃ a c, v = .slice a code.length c ∧ code.length ≤ c ∧ c ≤ maxLen ∧ ∀ j i, code[j]? = some i → ∃ b o, a = some ⟨b, o, none⟩ ∧ b < w.heap.size ∧ w.rangeAt b (o + j * 5) (insC i).toList
theorem rangeAt_below {w w' : World} {b o : Nat} {cs : List Value} (h : w.rangeAt b o cs) (hlt : b < w.heap.size) (hb : Below w.heap.size w w') : w'.rangeAt b o cs := fun j v hv => by
  rw [(bcell hb).1 b _ hlt]; exact h j v hv
theorem InsRow.below {w w' : World} {v : Value} {code : List PIns} (h : InsRow w v code) (hb : Below w.heap.size w w') : InsRow w' v code := by
  obtain ⟨a, c, rfl, h1, h2, h3⟩ := h
  refine ⟨a, c, rfl, h1, h2, fun j i hj => ?_⟩
  obtain ⟨b, o, rfl, hlt, hr⟩ := h3 j i hj
  exact ⟨b, o, rfl, Nat.lt_of_lt_of_le hlt hb.size, rangeAt_below hr hlt hb⟩
def codeCells (is : List PIns) : List Value := is.flatMap (fun i => (insC i).toList)
theorem codeCells_len (is : List PIns) : (codeCells is).length = is.length * 5 := by
  induction is with
  | nil => rfl
  | cons a r ih => unfold codeCells at ih ⊢; rw [List.flatMap_cons, List.length_append, ih]; simp; omega
theorem flat_get : ∀ (is : List PIns) (j : Nat) (i : PIns) (t : Nat) (v : Value), is[j]? = some i → (insC i).toList[t]? = some v → (codeCells is)[j * 5 + t]? = some v
  | [], _, _, _, _, h, _ => by simp at h
  | a :: r, 0, i, t, v, h, hv => by
    simp at h; subst h
    unfold codeCells; rw [List.flatMap_cons, Nat.zero_mul, Nat.zero_add]
    have ht : t < (insC a).toList.length := (List.getElem?_eq_some_iff.1 hv).1
    rw [List.getElem?_append_left ht]; exact hv
  | a :: r, j + 1, i, t, v, h, hv => by
    have ih := flat_get r j i t v (by simpa using h) hv
    unfold codeCells at ih ⊢
    have hl : (insC a).toList.length = 5 := rfl
    rw [List.flatMap_cons, List.getElem?_append_right (by rw [hl]; omega), hl, show (j + 1) * 5 + t - 5 = j * 5 + t by omega]
    exact ih
theorem insRow_own {w : World} {B : Nat} {v : Value} {is : List PIns} (h : w.ownsRow B 46 5 v is.length (codeCells is)) : InsRow w v is := by
  rcases h.2 with ⟨rfl, h0⟩ | ⟨g, cap, cur, rfl, hB, hg, h1, h2, h3, h4⟩
  · have : is = [] := List.length_eq_zero_iff.1 h0
    subst this
    exact ⟨none, 0, rfl, Nat.le_refl _, Nat.zero_le _, fun j i hj => by simp at hj⟩
  · refine ⟨some ⟨g, 0, none⟩, cap, rfl, h1, h2, fun j i hj => ⟨g, 0, rfl, (Array.getElem?_eq_some_iff.1 hg).1, fun t v hv => ?_⟩⟩
    have := flat_get is j i t v hj hv
    rw [← h4, List.getElem?_take] at this
    have hx : cur.toList[j * 5 + t]? = some v := by
      split at this
      · exact this
      · cases this
    simp only [World.cell?, hg, Nat.zero_add]
    simpa using hx

/-- Instructions in a block of their own. -/
theorem insRow_blk {w : World} {g : Nat} {cs : Array Value} {is : List PIns} (h : blk w g cs 46) (hc : cs.toList = codeCells is) (hl : is.length ≤ maxLen) : InsRow w (.slice (some ⟨g, 0, none⟩) is.length is.length) is := by
  refine ⟨some ⟨g, 0, none⟩, is.length, rfl, Nat.le_refl _, hl, fun j i hj => ⟨g, 0, rfl, blk_lt h, fun t v hv => ?_⟩⟩
  have := flat_get is j i t v hj hv
  rw [← hc] at this
  rw [Nat.zero_add]
  exact blk_cell h _ v (by simpa using this)
/-- One-cell values in a block of their own. -/
theorem row_blk {w : World} {g : Nat} {cs : Array Value} {t : TypeId} (h : blk w g cs t) (hl : cs.size ≤ maxLen) : RowAt w (.slice (some ⟨g, 0, none⟩) cs.size cs.size) cs.toList := by
  refine ⟨some ⟨g, 0, none⟩, cs.size, by simp, by simp, hl, .inr ⟨g, 0, rfl, blk_lt h, fun j x hx => ?_⟩⟩
  rw [Nat.zero_add]
  exact blk_cell h j x (by simpa using hx)
abbrev progC (vt : Value) (p : PProg) (vc : Value) : Array Value := #[vt, str p.locals, str p.globs, vc]
/-- A program, wherever it lies. -/
def ProgAt (w : World) (v : Value) (p : PProg) : Prop := ∃ vt vc, v = .agg (progC vt p vc) ∧ RowAt w vt (p.types.map str) ∧ InsRow w vc p.code
theorem ProgAt.below {w w' : World} {v : Value} {p : PProg} (h : ProgAt w v p) (hb : Below w.heap.size w w') : ProgAt w' v p := by
  obtain ⟨vt, vc, rfl, h1, h2⟩ := h
  exact ⟨vt, vc, rfl, h1.below hb, h2.below hb⟩
/-- What is so of any program. -/
structure OkP (p : PProg) : Prop where
  ty : ∀ t ∈ p.types, t.length ≤ maxLen
  lo : p.locals.length ≤ maxLen
  gl : p.globs.length ≤ maxLen
  ins : ∀ i ∈ p.code, OkI i
theorem prog_info : (Tryz.prog.info? 25).map (·.size) = some 4 := by kernel_rfl
/-- The sum as the machine has it. -/
def wsum (x : Int) : List Bs → Int
  | [] => x
  | t :: r => wsum (wrap64 (x + wrap64 ((t.length : Int) + 1))) r
def fewP (p : PProg) : Bool := decide (wsum (wrap64 ((p.locals.length : Int) + p.globs.length)) p.types ≤ 500) && decide (p.code.length ≤ 210)
theorem wsum_snoc (x : Int) (ts : List Bs) (t : Bs) : wsum x (ts ++ [t]) = wrap64 (wsum x ts + wrap64 ((t.length : Int) + 1)) := by
  induction ts generalizing x with
  | nil => rfl
  | cons a r ih => exact ih _

set_option maxRecDepth 100000 in
set_option maxHeartbeats 1000000 in
theorem few_any (v : Value) (p : PProg) (w : World) (h : ProgAt w v p) (hs : OkP p) : Calls Tryz.prog 17 #[v] w (AggPost w (.bool (fewP p))) := by
  obtain ⟨vt, vc, rfl, ht, hc⟩ := h
  have hwb : Below w.heap.size w (w.alloc (.cells (progC vt p vc) 25)) := (Below.refl _ _).alloc (Nat.le_refl _) _
  obtain ⟨a, c, rfl, h1, h2, h3⟩ := (ht.below hwb).elems
  obtain ⟨a', c', rfl, g1, g2, g3⟩ := hc.below hwb
  have HT := Lib.hid h3
  have HP := Lib.hid hs
  have hlo := hs.lo
  have hgl := hs.gl
  clear h3 g3 hs ht hc
  unfold maxLen at h2 g2 hlo hgl
  go_enter Tryz.func17, Tryz.ntmps17
  go_wp2
  go_loop [3, 16] (fun v i => ∃ k : Nat, k ≤ p.types.length ∧ i = .int .i64 k ∧ v = .int .i64 (wsum (wrap64 ((p.locals.length : Int) + p.globs.length)) (p.types.take k))) (fun _ i => p.types.length - (intOf i).toNat)
  case atStart => exact ⟨0, Nat.zero_le _, rfl, rfl⟩
  case round =>
    obtain ⟨k, hk, rfl, rfl⟩ := hrel
    by_cases hlt : k < p.types.length
    · obtain ⟨t, hx⟩ : ∃ t, p.types[k]? = some t := ⟨_, List.getElem?_eq_getElem hlt⟩
      obtain ⟨b, o, rfl, hb, hcell⟩ := HT.out k t hx
      have hl := HP.out.ty t (List.mem_of_getElem? hx)
      have hn : wsum (wrap64 ((p.locals.length : Int) + p.globs.length)) (p.types.take (k + 1)) = wrap64 (wsum (wrap64 ((p.locals.length : Int) + p.globs.length)) (p.types.take k) + wrap64 ((t.length : Int) + 1)) := by
        obtain ⟨h1, rfl⟩ := List.getElem?_eq_some_iff.1 hx
        rw [List.take_succ_eq_append_getElem h1, wsum_snoc]
      have HN := Lib.hid hn
      clear hn hx
      generalize wsum (wrap64 ((p.locals.length : Int) + p.globs.length)) (p.types.take k) = z at *
      unfold maxLen at hl
      go_wp2
      go_round
      case rel => exact ⟨k + 1, by omega, by go_num, by rw [HN.out]⟩
      case measure => simp [intOf]; omega
    · obtain rfl : k = p.types.length := by omega
      rw [List.take_length]
      have HF : Hid (fewP p = (decide (wsum (wrap64 ((p.locals.length : Int) + p.globs.length)) p.types ≤ 500) && decide (p.code.length ≤ 210))) := Lib.hid rfl
      generalize wsum (wrap64 ((p.locals.length : Int) + p.globs.length)) p.types = z at *
      by_cases hz : z ≤ 500
      · by_cases hc : p.code.length ≤ 210
        · go_wp2
          go_ret
          exact ⟨ret_bool (by rw [HF.out]; simp [hz]; omega), hwb⟩
        · go_wp2
          go_ret
          exact ⟨ret_bool (by rw [HF.out]; simp [hz]; omega), hwb⟩
      · go_wp2
        go_ret
        exact ⟨ret_bool (by rw [HF.out, decide_eq_false (by omega)]; rfl), hwb⟩
theorem few_b (v : Value) (p : PProg) (b : Bool) (w : World) (h : ProgAt w v p) (hs : OkP p) (hb : fewP p = b) : Calls Tryz.prog 17 #[v] w (AggPost w (.bool b)) := by
  subst hb; exact few_any v p w h hs

end Go.Proofs.YtapjgobkpehgfaaGreatDoor

/- A program that came in, opened. -/
namespace Go.Proofs.YtapjgobkpehgfaaGreatDoor
set_option linter.unusedSimpArgs false
set_option linter.unusedVariables false
open Go.RowKit Go.ChangeShapes Go.WideShapes Go.Deep Go.Joins

section
variable {H : Type} {enc : TypeId × Value → H} {P : Program} {w : World} {base : Nat} {spare : Nat → Bool} {held : Bool}
theorem open_slice_fields {t e : TypeId} {fs : Array Field} {fuel : Nat} {cs : List Value} {x : DataW H × List MemPlace} (ht : P.underlying t = some (.slice e)) (he : P.underlying e = some (.struct fs))
    (hone : oneCellFields P fs = true) (hC : P.cellsOf e = fs.size) (h : DataW.trod enc P w base spare held fuel t cs = some x) :
    (cs = [.slice none 0 0] ∧ x = (.nil, [])) ∨
    ∃ (a : Addr) (len cap m : Nat) (D : Nat → DataW H), cs = [.slice (some a) len cap] ∧ len ≤ cap ∧ cap ≤ maxLen ∧ m = (if spare a.block then cap else len) ∧
      x.1 = .slice ((List.range len).map D) ((List.range (m - len)).map fun j => D (len + j)) ∧
      ∀ i, i < m → ∃ (ys : List (DataW H × List MemPlace)) (n : Nat), ys.length = fs.size ∧
        ∀ (j : Nat) (f : Field), fs[j]? = some f → ∃ (v : Value) (y : DataW H × List MemPlace), w.cell? (a.add (i * fs.size + j)) = some v ∧ ys[j]? = some y ∧ DataW.trod enc P w base spare held n f.type [v] = some y := by
  rcases open_slice ht h with h0 | ⟨a, len, cap, m, n, D, Pl, hcs, hb, hl, hm, hmm, hx, hi⟩
  · exact .inl h0
  · refine .inr ⟨a, len, cap, m, D, hcs, hl, hm, hmm, by rw [hx], fun i him => ?_⟩
    obtain ⟨cs', hc, ht'⟩ := hi i him
    rw [hC] at hc
    obtain ⟨ys, n', hn', hy, hlen, hyl, hf⟩ := DataW.trod_struct he ht'
    obtain ⟨_, hcl, hat⟩ := World.cells?_some hc
    refine ⟨ys, n', hyl, fun j f hj => ?_⟩
    obtain ⟨ho, hk⟩ := hone_of hone j f hj
    have hjl : j < fs.size := (Array.getElem?_eq_some_iff.1 hj).1
    have hcell := hat j hjl
    have hv : cs'[j]? = some (cs'[j]'(by omega)) := List.getElem?_eq_getElem (by omega)
    have h1 := hf j f hj
    rw [ho, hk] at h1
    have hone' : (cs'.drop j).take 1 = [cs'[j]'(by omega)] := by
      rw [List.drop_eq_getElem_cons (by omega)]
      rfl
    rw [hone'] at h1
    have hys : ys[j]? = some (ys[j]'(by omega)) := List.getElem?_eq_getElem (by omega)
    refine ⟨_, _, ?_, hys, h1.trans hys⟩
    rw [← Go.Deep.add_add, hcell, hv]
end
section
variable {H : Type} {enc : TypeId × Value → H} {w : World} {base : Nat} {spare : Nat → Bool} {held : Bool}
theorem plain_add {b off i : Nat} : (⟨b, off, none⟩ : Addr).add i = ⟨b, off + i, none⟩ := by
  unfold Addr.add
  by_cases h : i = 0 <;> simp [h]
theorem spot_of {x : Addr} {v : Value} (h : w.cell? x = some v) : x.spot = none := by
  obtain ⟨_, _, _, _, h4⟩ := World.shape?_of_cell? h
  exact h4
/-- A slice of texts that came in. -/
theorem open_texts {v : Value} {fuel : Nat} {x : DataW H × List MemPlace} (h : DataW.trod enc Tryz.prog w base spare held fuel 22 [v] = some x) (hw : ∀ n ∈ x.1.weights Tryz.prog 22, n ≤ reachBytes) :
    ∃ xs : List Bs, RowAt w v (xs.map str) ∧ (∀ t ∈ xs, t.length ≤ maxLen) ∧ xs.length ≤ 8796093022208 := by
  rcases Go.Deep.open_strs Tryz.underlying22 Tryz.underlying9 (by kernel_rfl) h with ⟨hcs, _⟩ | ⟨a, len, cap, m, Sx, hcs, _, hl, hm, hmm, hd, hx⟩
  · simp at hcs
    subst hcs
    exact ⟨[], rowAt_nil w, fun t ht => by simp at ht, by simp⟩
  · simp at hcs
    subst hcs
    have hlm : len ≤ m := by rw [hmm]; split <;> omega
    have hbound : len ≤ 8796093022208 := by
      have h0 := hw ((len + (m - len)) * Tryz.prog.bytesOf 9) (by rw [hd]; simp [DataW.weights, Tryz.underlying22])
      rw [show Tryz.prog.bytesOf 9 = 16 by kernel_rfl] at h0
      unfold reachBytes at h0
      omega
    have hstr : ∀ i, Value.string (Sx i) = str (Sx i).data.toList := fun i => by show _ = Value.string ⟨(Sx i).data.toList.toArray⟩; congr 1
    refine ⟨(List.range len).map fun i => (Sx i).data.toList, ?_, ?_, by simpa using hbound⟩
    · have hlen : (((List.range len).map fun i => (Sx i).data.toList).map str).length = len := by simp
      refine ⟨some a, cap, by rw [hlen], by rw [hlen]; exact hl, hm, ?_⟩
      rcases Nat.eq_zero_or_pos len with h0 | h0
      · left; subst h0; rfl
      · right
        have h1 := (hx 0 (by omega)).1
        rw [show a.add 0 = a by simp [Addr.add]] at h1
        have hsp := spot_of h1
        obtain ⟨b, off, sp⟩ := a
        dsimp only at hsp
        subst hsp
        refine ⟨b, off, rfl, World.block_lt_of_cell? _ _ h1, fun j u hu => ?_⟩
        have hj : j < len := by
          have := (List.getElem?_eq_some_iff.1 hu).1
          rw [hlen] at this; exact this
        have h2 := (hx j (by omega)).1
        rw [plain_add] at h2
        rw [h2, hstr]
        simp [hj] at hu
        rw [← hu]
    · intro t ht
      obtain ⟨j, hj, rfl⟩ := List.mem_map.1 ht
      have := (hx j (by have := List.mem_range.1 hj; omega)).2
      rw [len_size]; exact this
theorem cellsOf_ins : Tryz.prog.cellsOf 46 = 5 := by kernel_rfl
theorem of_wf_u8 {n : Int} (h : (Lit.int .u8 n).wf = true) : 0 ≤ n ∧ n ≤ 255 := by
  have e1 : IntKind.min .u8 = 0 := by decide
  have e2 : IntKind.max .u8 = 255 := by decide
  simp only [Lit.wf, Bool.and_eq_true, decide_eq_true_eq, e1, e2] at h
  exact h
theorem of_wf_i64 {n : Int} (h : (Lit.int .i64 n).wf = true) : -9223372036854775808 ≤ n ∧ n ≤ 9223372036854775807 := by
  have e1 : IntKind.min .i64 = -9223372036854775808 := by decide
  have e2 : IntKind.max .i64 = 9223372036854775807 := by decide
  simp only [Lit.wf, Bool.and_eq_true, decide_eq_true_eq, e1, e2] at h
  exact h
/-- A slice of instructions that came in. -/
theorem open_code {v : Value} {fuel : Nat} {x : DataW H × List MemPlace} (h : DataW.trod enc Tryz.prog w base spare held fuel 23 [v] = some x) : ∃ code : List PIns, InsRow w v code ∧ ∀ i ∈ code, OkI i := by
  rcases open_slice_fields Tryz.underlying23 Tryz.underlying46 (by kernel_rfl) cellsOf_ins h with ⟨hcs, _⟩ | ⟨a, len, cap, m, D, hcs, hl, hm, hmm, _, hx⟩
  · simp at hcs
    subst hcs
    exact ⟨[], ⟨none, 0, rfl, Nat.le_refl _, Nat.zero_le _, fun j i hj => by simp at hj⟩, fun i hi => by simp at hi⟩
  · simp at hcs
    subst hcs
    have hlm : len ≤ m := by rw [hmm]; split <;> omega
    have key : ∀ i, i < len → ∃ q : PIns, OkI q ∧ ∀ t u, (insC q).toList[t]? = some u → w.cell? (a.add (i * 5 + t)) = some u := by
      intro i hi
      obtain ⟨ys, n, hyl, hf⟩ := hx i (by omega)
      obtain ⟨v0, y0, c0, _, t0⟩ := hf 0 _ rfl
      obtain ⟨v1, y1, c1, _, t1⟩ := hf 1 _ rfl
      obtain ⟨v2, y2, c2, _, t2⟩ := hf 2 _ rfl
      obtain ⟨v3, y3, c3, _, t3⟩ := hf 3 _ rfl
      obtain ⟨v4, y4, c4, _, t4⟩ := hf 4 _ rfl
      obtain ⟨x0, e0, _, w0⟩ := DataW.trod_int Tryz.underlying5 t0
      obtain ⟨x1, e1, _, w1⟩ := DataW.trod_int Tryz.underlying5 t1
      obtain ⟨x2, e2, _, w2⟩ := DataW.trod_int Tryz.underlying5 t2
      obtain ⟨x3, e3, _, w3⟩ := DataW.trod_int Tryz.underlying5 t3
      obtain ⟨x4, e4, _, w4⟩ := DataW.trod_int Tryz.underlying2 t4
      simp at e0 e1 e2 e3 e4
      subst e0 e1 e2 e3 e4
      refine ⟨⟨x0, x1, x2, x3, x4⟩, ?_, ?_⟩
      · have b0 := of_wf_u8 w0
        have b1 := of_wf_u8 w1
        have b2 := of_wf_u8 w2
        have b3 := of_wf_u8 w3
        have b4 := of_wf_i64 w4
        exact ⟨b0.1, b0.2, b1.1, b1.2, b2.1, b2.2, b3.1, b3.2, b4.1, b4.2⟩
      · intro t u hu
        rcases t with _ | _ | _ | _ | _ | t
        · simp at hu; subst hu; exact c0
        · simp at hu; subst hu; exact c1
        · simp at hu; subst hu; exact c2
        · simp at hu; subst hu; exact c3
        · simp at hu; subst hu; exact c4
        · simp at hu
    obtain ⟨f, hf⟩ : ∃ f : Nat → PIns, ∀ i, i < len → OkI (f i) ∧ ∀ t u, (insC (f i)).toList[t]? = some u → w.cell? (a.add (i * 5 + t)) = some u := by
      refine ⟨fun i => if h : i < len then Classical.choose (key i h) else ⟨0, 0, 0, 0, 0⟩, fun i hi => ?_⟩
      simp only [hi, dif_pos]
      exact Classical.choose_spec (key i hi)
    refine ⟨(List.range len).map f, ⟨some a, cap, by simp, by simpa using hl, hm, fun j i hj => ?_⟩, fun i hi => ?_⟩
    · obtain ⟨hjl, he⟩ := List.getElem?_eq_some_iff.1 hj
      have hjl' : j < len := by simpa using hjl
      have hfi : f j = i := by simpa using he
      have hc := (hf j hjl').2
      rw [hfi] at hc
      have h0 := hc 0 _ rfl
      have h00 := (hf 0 (by omega)).2 0 _ rfl
      rw [show a.add (0 * 5 + 0) = a by simp [Addr.add]] at h00
      have hsp := spot_of h00
      obtain ⟨b, off, sp⟩ := a
      dsimp only at hsp
      subst hsp
      rw [plain_add] at h0
      refine ⟨b, off, rfl, World.block_lt_of_cell? _ _ h0, fun t u hu => ?_⟩
      have := hc t u hu
      rw [plain_add] at this
      rw [Nat.add_assoc]; exact this
    · obtain ⟨j, hj, rfl⟩ := List.mem_map.1 hi
      exact (hf j (List.mem_range.1 hj)).1
theorem cellsOf_prog : Tryz.prog.cellsOf 25 = 4 := by kernel_rfl
set_option maxRecDepth 100000 in
/-- A program that came in. -/
theorem open_prog {r : Reach} {b0 : Nat} {v : Value} {d : DataW H} {ps : List MemPlace} (hv : Value.okWide Tryz.prog w r b0 25 v) (h : DataW.Trod enc Tryz.prog w base spare held 25 v d ps) (hw : ∀ n ∈ d.weights Tryz.prog 25, n ≤ reachBytes) :
    ∃ p, ProgAt w v p ∧ OkP p ∧ p.types.length ≤ 8796093022208 := by
  obtain ⟨v0, v1, v2, v3, y0, y1, y2, y3, n, rfl, rfl, _, t0, t1, t2, t3⟩ := open_agg4 Tryz.underlying25 (by kernel_rfl) cellsOf_prog hv h
  simp only [DataW.weights, Tryz.underlying25] at hw
  obtain ⟨ts, h0, h1, h2⟩ := open_texts t0 (fun n hn => hw n (DataW.weights_mem_each (j := 0) rfl rfl n hn))
  obtain ⟨code, h3, h4⟩ := open_code t3
  obtain ⟨s1, e1, _, w1⟩ := DataW.trod_string Tryz.underlying9 t1
  obtain ⟨s2, e2, _, w2⟩ := DataW.trod_string Tryz.underlying9 t2
  simp at e1 e2
  subst e1 e2
  exact ⟨⟨ts, s1.data.toList, s2.data.toList, code⟩, ⟨v0, v3, rfl, h0, h3⟩, ⟨h1, by show s1.data.toList.length ≤ maxLen; rw [len_size]; exact w1, by show s2.data.toList.length ≤ maxLen; rw [len_size]; exact w2, h4⟩, h2⟩
end
end Go.Proofs.YtapjgobkpehgfaaGreatDoor

/- The table of operations, out of what the rows list. -/
namespace Go.Proofs.YtapjgobkpehgfaaGreatDoor
set_option linter.unusedSimpArgs false
set_option linter.unusedVariables false
open Go.RowKit

theorem gO : Tryz.prog.globalNamed "lockstitch/code.operations" = some 0 := by kernel_rfl
theorem gOt : (Tryz.prog.globals[0]?).map (·.type) = some 146 := by kernel_rfl
theorem chunks : ∀ (os : List (Int × Bs × Bs)) (l : List Value), l.length = os.length * 3 → (∀ i o, os[i]? = some o → (l.drop (i * 3)).take 3 = opCells o) → l = os.flatMap opCells
  | [], l, h, _ => by simpa using h
  | o :: r, l, h, hc => by
    have h0 := hc 0 o rfl
    have ih := chunks r (l.drop 3) (by simp at h ⊢; omega) (fun i o' hi => by
      have := hc (i + 1) o' (by simpa using hi)
      rw [List.drop_drop, show 3 + i * 3 = (i + 1) * 3 by omega]; exact this)
    rw [List.flatMap_cons, ← ih, ← h0]
    simp
def opData (o : Int × Bs × Bs) : DataW Unit := .agg [.lit (.int .u8 o.1), .lit (.string o.2.1), .lit (.string o.2.2)]
theorem ops_data : (Rows.laid_lockstitch_code_operations : DataW Unit) = .agg (OPS.map opData) := by kernel_rfl
theorem cellsOf_oper : Tryz.prog.cellsOf 129 = 3 := by kernel_rfl
theorem cellsOf_u8 : Tryz.prog.cellsOf 5 = 1 := by kernel_rfl
theorem cellsOf_str : Tryz.prog.cellsOf 9 = 1 := by kernel_rfl
set_option maxRecDepth 100000 in
theorem oper_of {enc : TypeId × Value → Unit} {w : World} {base : Nat} {spare : Nat → Bool} {held : Bool} {m : Nat} {cs : List Value} {x : DataW Unit × List MemPlace} {o : Int × Bs × Bs} (h : DataW.trod enc Tryz.prog w base spare held m 129 cs = some x) (hx : x.1 = opData o) : cs = opCells o := by
  obtain ⟨ys, n, _, e, hl, _, hf⟩ := DataW.trod_struct Tryz.underlying129 h
  rw [cellsOf_oper] at hl
  match cs, hl with
  | [c0, c1, c2], _ =>
    have f0 := hf 0 _ rfl
    have f1 := hf 1 _ rfl
    have f2 := hf 2 _ rfl
    rw [e] at hx
    unfold opData at hx
    simp only [DataW.agg.injEq] at hx
    match ys, hx with
    | [y0, y1, y2], hx =>
      simp only [List.map_cons, List.map_nil, List.cons.injEq, and_true] at hx
      obtain ⟨g0, g1, g2⟩ := hx
      simp [cellsOf_u8, cellsOf_str] at f0 f1 f2
      obtain ⟨n0, a0, b0, _⟩ := DataW.trod_int Tryz.underlying5 f0
      obtain ⟨s1, a1, b1, _⟩ := DataW.trod_string Tryz.underlying9 f1
      obtain ⟨s2, a2, b2, _⟩ := DataW.trod_string Tryz.underlying9 f2
      rw [b0] at g0
      rw [b1] at g1
      rw [b2] at g2
      simp at g0 g1 g2 a0 a1 a2
      subst a0 a1 a2
      have e1 : s1 = ⟨o.2.1.toArray⟩ := by rw [← g1]
      have e2 : s2 = ⟨o.2.2.toArray⟩ := by rw [← g2]
      rw [g0, e1, e2]
end Go.Proofs.YtapjgobkpehgfaaGreatDoor

/- Appends of instructions, and of texts, to rows of the call's own. -/
namespace Go.Proofs.YtapjgobkpehgfaaGreatDoor
set_option linter.unusedSimpArgs false
set_option linter.unusedVariables false
open Go.RowKit

theorem plain_addr {b off i : Nat} : (⟨b, off, none⟩ : Addr).add i = ⟨b, off + i, none⟩ := by
  unfold Addr.add
  by_cases h : i = 0 <;> simp [h]
theorem codeCells_app (is js : List PIns) : codeCells (is ++ js) = codeCells is ++ codeCells js := by unfold codeCells; simp
theorem flat_inv : ∀ (is : List PIns) (j : Nat) (u : Value), (codeCells is)[j]? = some u → ∃ i, is[j / 5]? = some i ∧ (insC i).toList[j % 5]? = some u
  | [], j, u, h => by simp [codeCells] at h
  | a :: r, j, u, h => by
    unfold codeCells at h
    rw [List.flatMap_cons] at h
    have hl : (insC a).toList.length = 5 := rfl
    by_cases hj : j < 5
    · rw [List.getElem?_append_left (by rw [hl]; exact hj)] at h
      exact ⟨a, by rw [Nat.div_eq_of_lt hj]; rfl, by rw [Nat.mod_eq_of_lt hj]; exact h⟩
    · rw [List.getElem?_append_right (by rw [hl]; omega), hl] at h
      obtain ⟨i, h1, h2⟩ := flat_inv r (j - 5) u h
      refine ⟨i, ?_, ?_⟩
      · rw [show j / 5 = (j - 5) / 5 + 1 by omega]; simpa using h1
      · rw [show j % 5 = (j - 5) % 5 by omega]; exact h2
theorem codeCells_one (is : List PIns) : ∀ u ∈ codeCells is, u.oneCell' = true := by
  intro u hu
  obtain ⟨j, hj⟩ := List.getElem?_of_mem hu
  obtain ⟨i, _, h2⟩ := flat_inv is j u hj
  have := List.mem_of_getElem? h2
  simp at this
  rcases this with rfl | rfl | rfl | rfl | rfl <;> rfl
abbrev zeroC : Array Value := #[.int .u8 0, .int .u8 0, .int .u8 0, .int .u8 0, .int .i64 0]
theorem infoI : (Tryz.prog.info? 46).map (fun i => (i.zero, i.size, i.bytes)) = some (some (.agg zeroC), 5, 16) := by kernel_rfl
/-- A slice that is nil, or has an address. -/
def FormS (u : Value) : Prop := u = .slice none 0 0 ∨ ∃ ad n c, u = .slice (some ad) n c
/-- 'append(is, js...)': is a row of the call's own, js wherever it lies. -/
theorem wpList_append_ins {w : World} {ops : Array Oper} {rest : List Oper} {o : Oper} {a : Act} {Q : Exit → Act → World → Prop} (hw : Region.wanted o (yielded ops a.tmps) = true) (s x : Operand)
    (ho : o.op = .call { callee := .builtin .append, args := #[s, x], argTypes := #[23, 23] }) (base : Nat) (v : Value) (is js : List PIns) (hs : a.eval s = v) (hown : w.ownsRow base 46 5 v is.length (codeCells is))
    (u : Value) (hx : a.eval x = u) (hsrc : InsRow w u js) (hform : FormS u) (h63 : is.length + js.length ≤ 1000000) (hbase : base ≤ w.heap.size)
    (h : ∀ v' w', w'.ownsRow base 46 5 v' (is ++ js).length (codeCells (is ++ js)) → Below base w w' → wpList Tryz.prog ops Q rest (a.put o.dst v') w') : wpList Tryz.prog ops Q (o :: rest) a w := by
  obtain ⟨i0, hi, hz0, hz1, hz2⟩ := info_parts infoI
  rcases hform with rfl | ⟨ad, n, c, rfl⟩
  · obtain ⟨a0, c0, e, _, _, _⟩ := hsrc
    simp only [Value.slice.injEq] at e
    have hn : js = [] := List.length_eq_zero_iff.1 e.2.1.symm
    subst hn
    refine BigFrame.wpList_want hw fun K hK => ?_
    have hrun := run_append_owned_none (P := Tryz.prog) (w := w) base 23 o.type 46 i0 5 Tryz.underlying23 hi v is.length (codeCells is) hown
    unfold Oper.wp
    simp [execOp, ho, resolve, invoke, builtin, hs, hx, hrun, Result.andThen]
    exact hK _ _ (h v w (by simpa using hown) (Below.refl _ _))
  · obtain ⟨a0, c0, e, _, _, hc⟩ := hsrc
    simp only [Value.slice.injEq] at e
    obtain ⟨rfl, rfl, rfl⟩ := e
    refine BigFrame.wpList_want hw fun K hK => wp_append_own w s x 23 ho base 46 i0 (.agg zeroC) 5 16 Tryz.underlying23 hi hz0 hz1 hz2 rfl (by decide) v is.length (codeCells is) hs hown ad js.length c (codeCells js) hx (codeCells_len js) ?_ (codeCells_one js) (by unfold maxLen; omega) (by omega) hbase ?_
    · intro j y hy
      obtain ⟨i, h1, h2⟩ := flat_inv js j y hy
      obtain ⟨b, off, e1, _, hr⟩ := hc (j / 5) i h1
      obtain rfl := Option.some.inj e1
      rw [plain_addr]
      have := hr (j % 5) y h2
      rw [show off + j / 5 * 5 + j % 5 = off + j by omega] at this
      exact this
    · intro v' w' h1 h2 _
      refine hK _ _ (h v' w' (by rw [List.length_append, codeCells_app]; exact h1) ?_)
      exact (Below.refl base w).grown h2 hbase (fun g hg => (hown.lt g hg).1)
end Go.Proofs.YtapjgobkpehgfaaGreatDoor

/- Contracts of the library at this program, laid in plain words (the laying of the shelf, cut to what is used). -/
namespace Go.Proofs
set_option linter.unusedSimpArgs false
set_option linter.unusedVariables false
open Go.Shelf
def Tryz.laysM173_ren : Go.Shelf.Ren := ⟨fun | 173 => 77 | 246 => 97 | 283 => 112 | 284 => 113 | 285 => 114 | 286 => 115 | 129 => 128 | 317 => 129 | 318 => 130 | 319 => 131 | 320 => 132 | 337 => 140 | 338 => 141 | n => n, fun | 2 => 2 | 3 => 3 | 9 => 9 | 4 => 4 | 171 => 141 | 0 => 0 | 53 => 119 | 37 => 56 | 5 => 5 | 173 => 144 | 212 => 157 | 51 => 116 | 20 => 20 | 213 => 158 | 46 => 98 | 232 => 169 | 233 => 170 | n => n, fun | 17 => 1 | 18 => 2 | 19 => 3 | n => n⟩
theorem Tryz.laysM173 : Go.Proofs.LaysM.n173 Tryz.prog Tryz.laysM173_ren := {
  mixed := by kernel_rfl
  f129 := Tryz.func128.trans (congrArg some (by kernel_rfl))
  f173 := Tryz.func77.trans (congrArg some (by kernel_rfl))
  f246 := Tryz.func97.trans (congrArg some (by kernel_rfl))
  f283 := Tryz.func112.trans (congrArg some (by kernel_rfl))
  f284 := Tryz.func113.trans (congrArg some (by kernel_rfl))
  f285 := Tryz.func114.trans (congrArg some (by kernel_rfl))
  f286 := Tryz.func115.trans (congrArg some (by kernel_rfl))
  f317 := Tryz.func129.trans (congrArg some (by kernel_rfl))
  f318 := Tryz.func130.trans (congrArg some (by kernel_rfl))
  f319 := Tryz.func131.trans (congrArg some (by kernel_rfl))
  f320 := Tryz.func132.trans (congrArg some (by kernel_rfl))
  f337 := Tryz.func140.trans (congrArg some (by kernel_rfl))
  f338 := Tryz.func141.trans (congrArg some (by kernel_rfl))
  t0 := Tryz.underlying0
  a0 := Tryz.isAgg0
  z0 := Tryz.sizeOf0
  v0 := Tryz.zeroValue0
  t2 := Tryz.underlying2
  a2 := Tryz.isAgg2
  z2 := Tryz.sizeOf2
  v2 := Tryz.zeroValue2
  t3 := Tryz.underlying3
  a3 := Tryz.isAgg3
  z3 := Tryz.sizeOf3
  v3 := Tryz.zeroValue3
  t4 := Tryz.underlying4
  a4 := Tryz.isAgg4
  z4 := Tryz.sizeOf4
  v4 := Tryz.zeroValue4
  t5 := Tryz.underlying5
  a5 := Tryz.isAgg5
  z5 := Tryz.sizeOf5
  v5 := Tryz.zeroValue5
  t9 := Tryz.underlying9
  a9 := Tryz.isAgg9
  z9 := Tryz.sizeOf9
  v9 := Tryz.zeroValue9
  t20 := Tryz.underlying20
  a20 := Tryz.isAgg20
  z20 := Tryz.sizeOf20
  v20 := Tryz.zeroValue20
  t37 := Tryz.underlying56
  a37 := Tryz.isAgg56
  z37 := Tryz.sizeOf56
  v37 := Tryz.zeroValue56
  t46 := Tryz.underlying98
  a46 := Tryz.isAgg98
  z46 := Tryz.sizeOf98
  v46 := Tryz.zeroValue98
  t51 := Tryz.underlying116
  a51 := Tryz.isAgg116
  z51 := Tryz.sizeOf116
  v51 := Tryz.zeroValue116
  t53 := Tryz.underlying119
  a53 := Tryz.isAgg119
  z53 := Tryz.sizeOf119
  v53 := Tryz.zeroValue119
  t171 := Tryz.underlying141
  a171 := Tryz.isAgg141
  z171 := Tryz.sizeOf141
  v171 := Tryz.zeroValue141
  t173 := Tryz.underlying144
  a173 := Tryz.isAgg144
  z173 := Tryz.sizeOf144
  v173 := Tryz.zeroValue144
  t212 := Tryz.underlying157
  a212 := Tryz.isAgg157
  z212 := Tryz.sizeOf157
  v212 := Tryz.zeroValue157
  t213 := Tryz.underlying158
  a213 := Tryz.isAgg158
  z213 := Tryz.sizeOf158
  t232 := Tryz.underlying169
  a232 := Tryz.isAgg169
  z232 := Tryz.sizeOf169
  v232 := Tryz.zeroValue169
  t233 := Tryz.underlying170
  a233 := Tryz.isAgg170
  z233 := Tryz.sizeOf170
  v233 := Tryz.zeroValue170
  g17 := by kernel_rfl
  g18 := by kernel_rfl
  g19 := by kernel_rfl
  i0 := by kernel_rfl
  i2 := by kernel_rfl
  i3 := by kernel_rfl
  i4 := by kernel_rfl
  i5 := by kernel_rfl
  i9 := by kernel_rfl
  i20 := by kernel_rfl
  i37 := by kernel_rfl
  i46 := by kernel_rfl
  i51 := by kernel_rfl
  i53 := by kernel_rfl
  i171 := by kernel_rfl
  i173 := by kernel_rfl
  i212 := by kernel_rfl
  i232 := by kernel_rfl
  i233 := by kernel_rfl
  m17 := by kernel_rfl
  m18 := by kernel_rfl
  m19 := by kernel_rfl }
open Go.RowKit Go.Sort Go.Lib in
theorem Tryz.strconv_FormatInt_10 (n : Int) (h0 : -9223372036854775808 ≤ n) (h1 : n ≤ 9223372036854775807) (w : World) (htab : Lib.TabIs Tryz.prog w "internal/strconv.uint64pow10" .u64 Lib.pow10Tab) :
    Calls Tryz.prog 77 #[.int .i64 n, .int .i64 10] w fun e w' => e = .returned (.string ⟨(Lib.itoa n).toArray⟩) ∧ ∃ k os, w' = grow (w.drewN k) os := Any.strconv_FormatInt_10 Tryz.laysM173 n h0 h1 w htab
end Go.Proofs
