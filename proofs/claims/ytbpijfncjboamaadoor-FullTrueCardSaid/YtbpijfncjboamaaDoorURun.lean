/-
  The world while a run goes, beside a set of fields.
-/
import Derived.Test.YtbpijfncjboamaaDoorQSt
import Derived.Test.YtbpijfncjboamaaDoorFRun
import Derived.Test.YtbpijfncjboamaaDoorUMap
import Derived.Test.YtbpijfncjboamaaDoorUPu
import Derived.Test.YtbpijfncjboamaaDoorMLa
import Derived.Test.YtbpijfncjboamaaDoorMNS
namespace Go.Proofs.YtbpijfncjboamaaDoor
set_option linter.unusedSimpArgs false
set_option linter.unusedVariables false
open Go.RowKit

structure TuW (w wr : World) (b r : Nat) (C : Array Value) (s : PSt) (vo vt : Value) (had : List Bool) : Prop where
  below : Below w.heap.size w wr
  prog : blk wr w.heap.size C 25
  st : blk wr b (stC s vo vt) 36
  at' : StN wr vo vt s
  set : SetCAt wr r had
  len : had.length = 6
  hb : w.heap.size < b
  hr : w.heap.size < r
section
variable {w wr w' : World} {b r : Nat} {C : Array Value} {s t : PSt} {vo vt vo2 vt2 : Value} {had had2 : List Bool}
theorem TuW.next (h : TuW w wr b r C s vo vt had) (hb : Below wr.heap.size wr w') : TuW w w' b r C s vo vt had :=
  ⟨h.below.trans (hb.mono h.below.size), blk_below h.prog hb, blk_below h.st hb, h.at'.below hb, h.set.below hb, h.len, h.hb, h.hr⟩
theorem TuW.put (h : TuW w wr b r C s vo vt had) (ht : StN wr vo2 vt2 t) : TuW w (putB wr b (stC t vo2 vt2) 36) b r C t vo2 vt2 had :=
  ⟨h.below.trans (putB_below _ (by have := h.hb; omega) _ _), by unfold blk; rw [putB_ne _ (by have := h.hb; omega)]; exact h.prog, putB_at h.st _ _, ht.putT h.st (by decide), h.set.other (fun e => h.set.ne h.st e.symm), h.len, h.hb, h.hr⟩
theorem TuW.mark (h : TuW w wr b r C s vo vt had) {es : Array MapEntry} {c : Nat} (hm : SetC es had2) (hl : had2.length = 6) : TuW w (putO wr r (.map es c)) b r C s vo vt had2 := by
  obtain ⟨e0, c0, h1, -⟩ := id h.set
  exact ⟨h.below.trans (putM_below _ (by have := h.hr; omega) _), by unfold blk; rw [putO_ne _ (by have := h.hr; omega)]; exact h.prog, by unfold blk; rw [putO_ne _ (h.set.ne h.st)]; exact h.st, h.at'.putM h1, SetCAt.put h1 hm, hl, h.hb, h.hr⟩
theorem TuW.newM (h : TuW w wr b r C s vo vt had) : TuW w (wr.alloc (.map #[] 0)) b wr.heap.size C s vo vt nought6 := by
  have hb : Below wr.heap.size wr (wr.alloc (.map #[] 0)) := (Below.refl _ _).alloc (Nat.le_refl _) _
  have h2 := h.next hb
  exact ⟨h2.below, h2.prog, h2.st, h2.at', setCAt_new wr, rfl, h.hb, blk_lt h.prog⟩
theorem TuW.start {w1 : World} (hB : Below w.heap.size w w1) (hp : blk w1 w.heap.size C 25) :
    TuW w ((w1.alloc (.cells zeroS 36)).alloc (.map #[] 0)) w1.heap.size (w1.heap.size + 1) C st0 (.slice none 0 0) (.slice none 0 0) nought6 := by
  have b1 : Below w1.heap.size w1 (w1.alloc (.cells zeroS 36)) := (Below.refl _ _).alloc (Nat.le_refl _) _
  have s1 : (w1.alloc (.cells zeroS 36)).heap.size = w1.heap.size + 1 := by simp
  have b2 : Below (w1.alloc (.cells zeroS 36)).heap.size (w1.alloc (.cells zeroS 36)) ((w1.alloc (.cells zeroS 36)).alloc (.map #[] 0)) := (Below.refl _ _).alloc (Nat.le_refl _) _
  have b12 := b1.trans (b2.mono b1.size)
  have hlt := blk_lt hp
  have f1 := setCAt_new (w1.alloc (.cells zeroS 36))
  rw [s1] at f1
  exact ⟨hB.trans (b12.mono hB.size), blk_below hp b12, blk_below (blk_new w1 zeroS 36) b2, st0_n _, f1, rfl, hlt, by omega⟩
end
end Go.Proofs.YtbpijfncjboamaaDoor
