/-
  The world while two runs go, that differ in pointer locals alone.
-/
import Derived.Test.YtijgpfimdlnkiaaDoorQSt
import Derived.Test.YtijgpfimdlnkiaaDoorVLaw1
import Derived.Test.YtijgpfimdlnkiaaDoorVPure4
import Derived.Test.YtijgpfimdlnkiaaDoorMLa
import Derived.Test.YtijgpfimdlnkiaaDoorMNS
namespace Go.Proofs.YtijgpfimdlnkiaaDoor
set_option linter.unusedSimpArgs false
set_option linter.unusedVariables false
open Go.RowKit

theorem wpList_load_wantV {ops : Array Oper} {rest : List Oper} {o : Oper} {a : Act} {w : World} {Q : Exit → Act → World → Prop} (hw : Region.wanted o (yielded ops a.tmps) = true) (ty : TypeId) (x : Operand) (ho : o.op = .load ty x)
    (b off : Nat) (hx : a.eval x = .pointer (some ⟨b, off, none⟩)) (cs : List Value) (d : TypeDesc) (hc : w.rangeAt b off cs) (hu : Tryd.prog.underlying ty = some d) (hd : d.isRow = true) (hi : (Tryd.prog.info? ty).map (·.size) = some cs.length)
    (h : wpList Tryd.prog ops Q rest (a.put o.dst (.agg cs.toArray)) w) : wpList Tryd.prog ops Q (o :: rest) a w :=
  BigFrame.wpList_want hw fun K hK => wp_load_mid ty x ho b off hx cs d hc hu hd hi (hK _ _ h)
theorem U8At.put {w : World} {b b4 o n : Nat} {l : List Nat} {C : Array Value} {t : TypeId} (h : U8At w b4 o n l) (hne : b4 ≠ b) : U8At (putB w b C t) b4 o n l :=
  ⟨by rw [putB_size]; exact h.lt, fun j hj => by rw [World.cell?_of_block (a := ⟨b4, o + j, none⟩) (putB_ne w hne _ _)]; exact h.c j hj⟩
theorem StN.pp {w : World} {vo vt : Value} {s : PSt} (h : StN w vo vt s) {ps : List Int} (hl : ps.length = 8) : StN w vo vt (withP s ps) := ⟨⟨h.len.x, hl, h.len.g⟩, h.objs, h.out⟩
theorem step_lens {q : PProg} {s x : PSt} {ts : List Nat} {n z : Nat} {d : Bool} (hc : (checkL q).2 = 0) (hok : ∀ i ∈ q.code, OkI i) (hr : RunOk q s ts n) (hn : n < 1000000) (h : stepL q s = (x, d, z)) : x.x.length = 8 ∧ x.g.length = 4 := by
  rcases step_one hc hr with ⟨_, he⟩ | ⟨i, hi, _, ⟨_, he⟩ | ⟨t, hd, he⟩⟩
  · rw [he] at h; cases h; exact ⟨hr.inv.lx, hr.inv.lg⟩
  · rw [he] at h; cases h; exact ⟨hr.inv.lx, hr.inv.lg⟩
  · rw [he] at h; cases h
    obtain ⟨ts', hrn, _⟩ := run_next hc hok (by omega) hr hi hd
    exact ⟨hrn.inv.lx, hrn.inv.lg⟩
theorem blk_other {w : World} {b g : Nat} {cs : Array Value} {t : TypeId} (h : blk w g cs t) (hne : g ≠ b) (C : Array Value) (t' : TypeId) : blk (putB w b C t') g cs t := by
  unfold blk; rw [putB_ne _ hne]; exact h
structure LoW (w wr : World) (bs bt b4 o4 n : Nat) (l : List Nat) (C : Array Value) (s t : PSt) (vo vt vo2 vt2 : Value) : Prop where
  below : Below w.heap.size w wr
  prog : blk wr w.heap.size C 25
  ks : blk wr bs (stC s vo vt) 42
  kt : blk wr bt (stC t vo2 vt2) 42
  a1 : StN wr vo vt s
  a2 : StN wr vo2 vt2 t
  row : U8At wr b4 o4 n l
  h0 : w.heap.size < bs
  h1 : b4 < bs
  h2 : bs < bt
section
variable {w wr w' : World} {bs bt b4 o4 n : Nat} {l : List Nat} {C : Array Value} {s t u : PSt} {vo vt vo2 vt2 vo3 vt3 : Value}
theorem LoW.next (h : LoW w wr bs bt b4 o4 n l C s t vo vt vo2 vt2) (hb : Below wr.heap.size wr w') : LoW w w' bs bt b4 o4 n l C s t vo vt vo2 vt2 :=
  ⟨h.below.trans (hb.mono h.below.size), blk_below h.prog hb, blk_below h.ks hb, blk_below h.kt hb, h.a1.below hb, h.a2.below hb, h.row.next hb, h.h0, h.h1, h.h2⟩
theorem LoW.putS (h : LoW w wr bs bt b4 o4 n l C s t vo vt vo2 vt2) (hu : StN wr vo3 vt3 u) : LoW w (putB wr bs (stC u vo3 vt3) 42) bs bt b4 o4 n l C u t vo3 vt3 vo2 vt2 := by
  have h0 := h.h0; have h1 := h.h1; have h2 := h.h2
  exact ⟨h.below.trans (putB_below _ (by omega) _ _), by unfold blk; rw [putB_ne _ (by omega)]; exact h.prog, putB_at h.ks _ _, by unfold blk; rw [putB_ne _ (by omega)]; exact h.kt, hu.putT h.ks (by decide), h.a2.putT h.ks (by decide), h.row.put (by omega), h0, h1, h2⟩
theorem LoW.putT (h : LoW w wr bs bt b4 o4 n l C s t vo vt vo2 vt2) (hu : StN wr vo3 vt3 u) : LoW w (putB wr bt (stC u vo3 vt3) 42) bs bt b4 o4 n l C s u vo vt vo3 vt3 := by
  have h0 := h.h0; have h1 := h.h1; have h2 := h.h2
  exact ⟨h.below.trans (putB_below _ (by omega) _ _), by unfold blk; rw [putB_ne _ (by omega)]; exact h.prog, by unfold blk; rw [putB_ne _ (by omega)]; exact h.ks, putB_at h.kt _ _, h.a1.putT h.kt (by decide), hu.putT h.kt (by decide), h.row.put (by omega), h0, h1, h2⟩
theorem LoW.start {w1 : World} (hB : Below w.heap.size w w1) (hp : blk w1 w.heap.size C 25) (hr : U8At w1 b4 o4 n l) :
    LoW w ((w1.alloc (.cells zeroS 42)).alloc (.cells zeroS 42)) w1.heap.size (w1.heap.size + 1) b4 o4 n l C st0 (withP st0 (List.replicate 8 0)) (.slice none 0 0) (.slice none 0 0) (.slice none 0 0) (.slice none 0 0) := by
  have b1 : Below w1.heap.size w1 (w1.alloc (.cells zeroS 42)) := (Below.refl _ _).alloc (Nat.le_refl _) _
  have s1 : (w1.alloc (.cells zeroS 42)).heap.size = w1.heap.size + 1 := by simp
  have b2 : Below (w1.alloc (.cells zeroS 42)).heap.size (w1.alloc (.cells zeroS 42)) ((w1.alloc (.cells zeroS 42)).alloc (.cells zeroS 42)) := (Below.refl _ _).alloc (Nat.le_refl _) _
  have b12 := b1.trans (b2.mono b1.size)
  have k2 : blk ((w1.alloc (.cells zeroS 42)).alloc (.cells zeroS 42)) (w1.heap.size + 1) zeroS 42 := by rw [← s1]; exact blk_new _ _ _
  have hlt := blk_lt hp
  exact ⟨hB.trans (b12.mono hB.size), blk_below hp b12, blk_below (blk_new w1 zeroS 42) b2, k2, st0_n _, st0_n _, hr.next b12, hlt, hr.lt, by omega⟩
end
end Go.Proofs.YtijgpfimdlnkiaaDoor
