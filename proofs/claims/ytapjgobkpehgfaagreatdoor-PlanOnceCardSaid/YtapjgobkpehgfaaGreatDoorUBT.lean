/-
  The parts of the document's step: what each makes of an instruction of a run.
  The document's Step: its contract.
-/
import Derived.Test.YtapjgobkpehgfaaGreatDoorUAI
import Derived.Test.YtapjgobkpehgfaaGreatDoorQNum2
import Derived.Test.YtapjgobkpehgfaaGreatDoorQNum3
import Derived.Test.YtapjgobkpehgfaaGreatDoorQPtr2
import Derived.Test.YtapjgobkpehgfaaGreatDoorQPtr5
import Derived.Test.YtapjgobkpehgfaaGreatDoorUBS
import Derived.Test.YtapjgobkpehgfaaGreatDoorUAS
import Derived.Test.YtapjgobkpehgfaaGreatDoorMChk

/- The parts of the document's step: what each makes of an instruction of a run. -/
namespace Go.Proofs.YtapjgobkpehgfaaGreatDoor
set_option linter.unusedSimpArgs false
set_option linter.unusedVariables false
open Go.RowKit

def NumC (w : World) (t : PSt) (vo vt : Value) (i : PIns) (u : PSt) (b : Bool) : Prop := ∀ w1, Below w.heap.size w w1 → Calls Tryz.prog 24 #[.agg (stC t vo vt), insV i] w1 (PartPost w1 u (.bool b))
def PtrC (w : World) (C : Array Value) (t : PSt) (vo vt : Value) (i : PIns) (u : PSt) (b : Bool) : Prop := ∀ w1, Below w.heap.size w w1 → Calls Tryz.prog 25 #[.agg C, .agg (stC t vo vt), insV i] w1 (PartPost w1 u (.bool b))
def MemC (w : World) (t : PSt) (vo vt : Value) (i : PIns) (u : PSt) (e : Nat) : Prop := ∀ w1, Below w.heap.size w w1 → Calls Tryz.prog 26 #[.agg (stC t vo vt), insV i] w1 (PartPost w1 u (.int .i64 e))
def PartsOk (w : World) (C : Array Value) (p : PProg) (t : PSt) (vo vt : Value) (i : PIns) : Prop :=
  (∃ u, doI p t i = some u ∧ NumC w t vo vt i u true) ∨ (NumC w t vo vt i t false ∧ ∃ u, doI p t i = some u ∧ PtrC w C t vo vt i u true) ∨
    (NumC w t vo vt i t false ∧ PtrC w C t vo vt i t false ∧ ((doI p t i = none ∧ MemC w t vo vt i t 9) ∨ ∃ u, doI p t i = some u ∧ MemC w t vo vt i u 0))
theorem StN.on {w : World} {vo vt : Value} {s : PSt} (h : StN w vo vt s) : StN w vo vt (onI s) := ⟨⟨h.len.x, h.len.p, h.len.g⟩, h.objs, h.out⟩
theorem num_else {w : World} {t : PSt} {vo vt : Value} {i : PIns} (h : StN w vo vt t) (h1 : i.op ≠ 1) (h2 : i.op ≠ 2) (h3 : i.op ≠ 14) (h4 : i.op ≠ 15) : NumC w t vo vt i t false := fun w1 hb1 =>
  num_no w1 _ t vo vt i.op i.a i.b i.c i.n (h.below hb1) rfl (by simpa using h1) (by simpa using h2) (by simpa using h3) (by simpa using h4)
theorem ptr_else {w : World} {C : Array Value} {t : PSt} {vo vt : Value} {i : PIns} (h : StN w vo vt t) (h1 : i.op ≠ 5) (h2 : i.op ≠ 6) (h3 : i.op ≠ 7) (h4 : i.op ≠ 12) (h5 : i.op ≠ 13) : PtrC w C t vo vt i t false := fun w1 hb1 =>
  ptr_no w1 _ C t vo vt i.op i.a i.b i.c i.n (h.below hb1) rfl (by simpa using h1) (by simpa using h2) (by simpa using h3) (by simpa using h4) (by simpa using h5)
set_option maxRecDepth 100000 in
theorem parts_u (w : World) (p : PProg) (s : PSt) (vo vt : Value) (x x' : Option Addr) (kx kx' : Nat) (i : PIns) (hP : ProgAt w (.agg (progC (.slice x p.types.length kx) p (.slice x' p.code.length kx'))) p) (hs : OkP p) (hst : StN w vo vt s) (hu : UseOk p s) (hc : (checkL p).2 = 0) (hz : SizeOk s)
    (hi : p.code[s.pc]? = some i) (h3 : i.op ≠ 3) (h4 : i.op ≠ 4) : PartsOk w (progC (.slice x p.types.length kx) p (.slice x' p.code.length kx')) p (onI s) vo vt i := by
  obtain ⟨hh, hc1, hc2, hall, _⟩ := check_ok hc
  have hmem := List.mem_of_getElem? hi
  have he := hall i hmem
  have ho := hs.ins i hmem
  obtain ⟨hnl, hng⟩ := names_ok (n := p.code.length) hh ho he
  obtain ⟨hrt, hju, hin, hki⟩ := ins_parts he
  have hop := right_op' hrt
  have zo := hz.objs
  have zr := hz.rows
  have zt := hz.out
  have hon := hst.on
  have key := hu.key i hi
  have hput : ∀ (w1 : World) (o n : Nat) (v : Int), Below w.heap.size w w1 → o < s.objs.length → n < (objA s.objs ((o : Int) + 1)).length → Calls Tryz.prog 46 #[vo, .int .i64 ((o : Int) + 1), .int .i64 n, .int .i64 v] w1 (PutG w1 (putA s.objs ((o : Int) + 1) n v)) := fun w1 o n v hb1 h1 h2 =>
    put_n w1 vo s.objs _ _ v (hst.objs.below hb1) (by omega) (by omega) (by omega) (by omega) zo zr
  obtain ⟨o0, o1, a0, a1, b0, b1, c0, c1, n0, n1⟩ := ho
  obtain ⟨op, a, ib, c, n⟩ := i
  simp only at o0 o1 a0 a1 b0 b1 c0 c1 n0 n1 hop key hju hnl hng h3 h4
  obtain ⟨ka, rfl⟩ : ∃ ka : Nat, a = ka := ⟨a.toNat, by omega⟩
  obtain ⟨kb, rfl⟩ : ∃ kb : Nat, ib = kb := ⟨ib.toNat, by omega⟩
  obtain ⟨kc, rfl⟩ : ∃ kc : Nat, c = kc := ⟨c.toNat, by omega⟩
  rcases hop with e | e | e | e | e | e | e | e | e | e | e | e | e | e | e
  all_goals subst e
  · have h8 : (ka : Int) < 8 := by simpa [intsB] using hin
    exact .inl ⟨_, doI_1 rfl, fun w1 hb1 => num_1 w1 _ (onI s) vo vt ka kb kc n 0 (hon.below hb1) rfl (by omega)⟩
  · have h8 : ((ka : Int) < 8 ∧ (kb : Int) < 8) ∧ (kc : Int) < 8 := by simpa [intsB] using hin
    exact .inl ⟨_, doI_2 rfl, fun w1 hb1 => num_2 w1 _ (onI s) vo vt ka kb kc n (hon.below hb1) rfl (by omega) (by omega) (by omega) _ (Lib.hid rfl)⟩
  · exact absurd rfl h3
  · exact absurd rfl h4
  · have hl : 0 ≤ localI p (ka : Int) := by unfold kindsB at hki; simpa using hki
    have h8 := hnl ka a0 hl
    have hlt := (local_lt hh a0 hl).2
    have hr' := (refs_list.1 (head_parts hh).1).1
    have hz1 := (sizeP_one hr' (t := (localI p ka).toNat) (by omega)).2.1
    rw [Int.toNat_of_nonneg hl] at hz1
    have h6 : sizeP p.types (localI p ka) ≤ 6 := sizeI_le.2
    refine .inr (.inl ⟨num_else hon (by simp) (by simp) (by simp) (by simp), _, doI_5 rfl, fun w1 hb1 => ?_⟩)
    exact ptr_5 w1 _ p x x' kx kx' (sizeP p.types (localI p ka)).toNat (localI p ka) (onI s) vo vt ka kb kc n (hon.below hb1) rfl (by omega) (by omega) (by omega) zo
      (Lib.hid fun w2 hb2 => rlocal_n _ p ka _ w2 ((hP.below hb1).below hb2) hs (by have := (head_parts hh).2.2.1; omega) a0 a1 rfl)
      (Lib.hid fun w2 hb2 => by
        obtain ⟨vt', vc, e, ht, _⟩ := (hP.below hb1).below hb2
        simp only [progC, Value.agg.injEq, Array.mk.injEq, List.cons.injEq] at e
        rw [Int.toNat_of_nonneg (by omega), e.1]
        exact rsize_n _ (tsP p.types) (localI p ka) _ w2 (ts_of ht hs.ty) (Lib.hid rfl))
  · have hl : 0 ≤ localI p (ka : Int) := by unfold kindsB at hki; simpa using hki
    have h8 := hnl ka a0 hl
    exact .inr (.inl ⟨num_else hon (by simp) (by simp) (by simp) (by simp), _, doI_6 rfl, fun w1 hb1 => ptr_6 w1 _ _ (onI s) vo vt ka kb kc n (hon.below hb1) rfl (by omega)⟩)
  · have hl : sameT (localI p (ka : Int)) (localI p (kb : Int)) = true := by unfold kindsB at hki; simpa using hki
    obtain ⟨m1, m2⟩ := same_parts hl
    have h8 := hnl ka a0 m1
    have h9 := hnl kb b0 (by omega)
    exact .inr (.inl ⟨num_else hon (by simp) (by simp) (by simp) (by simp), _, doI_7 rfl, fun w1 hb1 => ptr_7 w1 _ _ (onI s) vo vt ka kb kc n (hon.below hb1) rfl (by omega) (by omega)⟩)
  · have hl : 0 ≤ localI p (kb : Int) ∧ numF p.types (localI p (kb : Int)) n = true := by unfold kindsB at hki; simpa using hki
    have hnn := num_parts hl.2
    have h8 : (ka : Int) < 8 := by simpa [intsB] using hin
    have h9 := hnl kb b0 hl.1
    obtain ⟨kn, rfl⟩ : ∃ kn : Nat, n = kn := ⟨n.toNat, by omega⟩
    refine .inr (.inr ⟨num_else hon (by simp) (by simp) (by simp) (by simp), ptr_else hon (by simp) (by simp) (by simp) (by simp) (by simp), ?_⟩)
    by_cases hz : pA (onI s) (kb : Int) = 0
    · exact .inl ⟨by rw [doI_8 rfl, if_pos hz], fun w1 hb1 => mem_z8 w1 _ (onI s) vo vt ka kb kc kn (hon.below hb1) rfl (by omega) (Lib.hid hz)⟩
    · obtain ⟨q1, q2, q3⟩ := key kb (.inl ⟨.inl rfl, rfl⟩) hz
      obtain ⟨m, hm⟩ : ∃ m : Nat, pA s (kb : Int) = (m : Int) + 1 := ⟨(pA s (kb : Int) - 1).toNat, by omega⟩
      have hm' : pA (onI s) (kb : Int) = (m : Int) + 1 := hm
      rw [hm] at q2 q3
      refine .inr ⟨setX (onI s) ka (fldA (onI s).objs ((m : Int) + 1) kn), by rw [doI_8 rfl, if_neg hz, hm'], fun w1 hb1 => ?_⟩
      exact mem_8 w1 _ (onI s) vo vt ka kb kc kn (hon.below hb1) rfl m (by omega) (by omega) (show m < s.objs.length by omega) q3 (Lib.hid hm') zo
  · have hl : 0 ≤ localI p (ka : Int) ∧ numF p.types (localI p (ka : Int)) n = true := by unfold kindsB at hki; simpa using hki
    have hnn := num_parts hl.2
    have h8 : (kb : Int) < 8 := by simpa [intsB] using hin
    have h9 := hnl ka a0 hl.1
    obtain ⟨kn, rfl⟩ : ∃ kn : Nat, n = kn := ⟨n.toNat, by omega⟩
    refine .inr (.inr ⟨num_else hon (by simp) (by simp) (by simp) (by simp), ptr_else hon (by simp) (by simp) (by simp) (by simp) (by simp), ?_⟩)
    by_cases hz : pA (onI s) (ka : Int) = 0
    · exact .inl ⟨by rw [doI_9 rfl, if_pos hz], fun w1 hb1 => mem_z9 w1 _ (onI s) vo vt ka kb kc kn (hon.below hb1) rfl (by omega) (Lib.hid hz)⟩
    · obtain ⟨q1, q2, q3⟩ := key ka (.inr ⟨.inl rfl, rfl⟩) hz
      obtain ⟨m, hm⟩ : ∃ m : Nat, pA s (ka : Int) = (m : Int) + 1 := ⟨(pA s (ka : Int) - 1).toNat, by omega⟩
      have hm' : pA (onI s) (ka : Int) = (m : Int) + 1 := hm
      rw [hm] at q2 q3
      refine .inr ⟨setO (onI s) ((m : Int) + 1) kn (xA (onI s) kb), by rw [doI_9 rfl, if_neg hz, hm'], fun w1 hb1 => ?_⟩
      exact mem_9 w1 _ (onI s) vo vt ka kb kc kn (hon.below hb1) rfl m (by omega) (by omega) (Lib.hid hm') zo (Lib.hid fun w2 hb2 => hput w2 m kn _ (hb1.trans (hb2.mono hb1.size)) (by omega) q3)
  · have hl : 0 ≤ localI p (kb : Int) ∧ sameT (localI p (ka : Int)) (toP p.types (localI p (kb : Int)) n) = true := by unfold kindsB at hki; simpa using hki
    obtain ⟨m1, m2⟩ := same_parts hl.2
    have hnn := toP_has (ts := p.types) (t := localI p (kb : Int)) (n := n) (by omega)
    have h8 := hnl ka a0 m1
    have h9 := hnl kb b0 hl.1
    obtain ⟨kn, rfl⟩ : ∃ kn : Nat, n = kn := ⟨n.toNat, by omega⟩
    refine .inr (.inr ⟨num_else hon (by simp) (by simp) (by simp) (by simp), ptr_else hon (by simp) (by simp) (by simp) (by simp) (by simp), ?_⟩)
    by_cases hz : pA (onI s) (kb : Int) = 0
    · exact .inl ⟨by rw [doI_10 rfl, if_pos hz], fun w1 hb1 => mem_z10 w1 _ (onI s) vo vt ka kb kc kn (hon.below hb1) rfl (by omega) (Lib.hid hz)⟩
    · obtain ⟨q1, q2, q3⟩ := key kb (.inl ⟨.inr rfl, rfl⟩) hz
      obtain ⟨m, hm⟩ : ∃ m : Nat, pA s (kb : Int) = (m : Int) + 1 := ⟨(pA s (kb : Int) - 1).toNat, by omega⟩
      have hm' : pA (onI s) (kb : Int) = (m : Int) + 1 := hm
      rw [hm] at q2 q3
      refine .inr ⟨setP (onI s) ka (fldA (onI s).objs ((m : Int) + 1) kn), by rw [doI_10 rfl, if_neg hz, hm'], fun w1 hb1 => ?_⟩
      exact mem_10 w1 _ (onI s) vo vt ka kb kc kn (hon.below hb1) rfl m (by omega) (by omega) (show m < s.objs.length by omega) q3 (Lib.hid hm') zo
  · have hl : 0 ≤ localI p (ka : Int) ∧ sameT (localI p (kb : Int)) (toP p.types (localI p (ka : Int)) n) = true := by unfold kindsB at hki; simpa using hki
    obtain ⟨m1, m2⟩ := same_parts hl.2
    have hnn := toP_has (ts := p.types) (t := localI p (ka : Int)) (n := n) (by omega)
    have h8 := hnl kb b0 m1
    have h9 := hnl ka a0 hl.1
    obtain ⟨kn, rfl⟩ : ∃ kn : Nat, n = kn := ⟨n.toNat, by omega⟩
    refine .inr (.inr ⟨num_else hon (by simp) (by simp) (by simp) (by simp), ptr_else hon (by simp) (by simp) (by simp) (by simp) (by simp), ?_⟩)
    by_cases hz : pA (onI s) (ka : Int) = 0
    · exact .inl ⟨by rw [doI_11 rfl, if_pos hz], fun w1 hb1 => mem_z11 w1 _ (onI s) vo vt ka kb kc kn (hon.below hb1) rfl (by omega) (Lib.hid hz)⟩
    · obtain ⟨q1, q2, q3⟩ := key ka (.inr ⟨.inr rfl, rfl⟩) hz
      obtain ⟨m, hm⟩ : ∃ m : Nat, pA s (ka : Int) = (m : Int) + 1 := ⟨(pA s (ka : Int) - 1).toNat, by omega⟩
      have hm' : pA (onI s) (ka : Int) = (m : Int) + 1 := hm
      rw [hm] at q2 q3
      refine .inr ⟨setO (onI s) ((m : Int) + 1) kn (pA (onI s) kb), by rw [doI_11 rfl, if_neg hz, hm'], fun w1 hb1 => ?_⟩
      exact mem_11 w1 _ (onI s) vo vt ka kb kc kn (hon.below hb1) rfl m (by omega) (by omega) (Lib.hid hm') zo (Lib.hid fun w2 hb2 => hput w2 m kn _ (hb1.trans (hb2.mono hb1.size)) (by omega) q3)
  · have hl : sameT (localI p (ka : Int)) (globI p (kb : Int)) = true := by unfold kindsB at hki; simpa using hki
    obtain ⟨m1, m2⟩ := same_parts hl
    have h8 := hnl ka a0 m1
    have h9 := hng kb b0 (by omega)
    exact .inr (.inl ⟨num_else hon (by simp) (by simp) (by simp) (by simp), _, doI_12 rfl, fun w1 hb1 => ptr_12 w1 _ _ (onI s) vo vt ka kb kc n (hon.below hb1) rfl (by omega) (by omega)⟩)
  · have hl : sameT (localI p (kb : Int)) (globI p (ka : Int)) = true := by unfold kindsB at hki; simpa using hki
    obtain ⟨m1, m2⟩ := same_parts hl
    have h8 := hnl kb b0 m1
    have h9 := hng ka a0 (by omega)
    exact .inr (.inl ⟨num_else hon (by simp) (by simp) (by simp) (by simp), _, doI_13 rfl, fun w1 hb1 => ptr_13 w1 _ _ (onI s) vo vt ka kb kc n (hon.below hb1) rfl (by omega) (by omega)⟩)
  · have h8 : (ka : Int) < 8 := by simpa [intsB] using hin
    exact .inl ⟨_, doI_14 rfl, fun w1 hb1 => num_14 w1 _ (onI s) vo vt ka kb kc n 0 (hon.below hb1) rfl (by omega) zt⟩
  · have h8 : (ka : Int) < 8 := by simpa [intsB] using hin
    have hl : sameT (localI p (kb : Int)) (localI p (kc : Int)) = true := by unfold kindsB at hki; simpa using hki
    obtain ⟨m1, m2⟩ := same_parts hl
    have h9 := hnl kb b0 m1
    have h10 := hnl kc c0 (by omega)
    by_cases hq : pA (onI s) (kb : Int) = pA (onI s) (kc : Int)
    · exact .inl ⟨setX (onI s) ka 1, by rw [doI_15 rfl, if_pos hq], fun w1 hb1 => num_15t w1 _ (onI s) vo vt ka kb kc n 0 (hon.below hb1) rfl (by omega) (by omega) (by omega) (by simpa using hq)⟩
    · exact .inl ⟨setX (onI s) ka 0, by rw [doI_15 rfl, if_neg hq], fun w1 hb1 => num_15f w1 _ (onI s) vo vt ka kb kc n 0 (hon.below hb1) rfl (by omega) (by omega) (by omega) (by simpa using hq)⟩
end Go.Proofs.YtapjgobkpehgfaaGreatDoor

/- The document's Step: its contract. -/
namespace Go.Proofs.YtapjgobkpehgfaaGreatDoor
set_option linter.unusedSimpArgs false
set_option linter.unusedVariables false
open Go.RowKit

/-- The world in the document's Step. -/
structure RsW (w wr : World) (C : Array Value) (s : PSt) (vo vt : Value) : Prop where
  below : Below w.heap.size w wr
  pr : blk wr w.heap.size C 25
  st : blk wr (w.heap.size + 1) (stC s vo vt) 44
  res : blk wr (w.heap.size + 2) zeroS 44
  at' : StN wr vo vt s
theorem RsW.next {w wr w' : World} {C : Array Value} {s : PSt} {vo vt : Value} (h : RsW w wr C s vo vt) (hb : Below wr.heap.size wr w') : RsW w w' C s vo vt :=
  ⟨h.below.trans (hb.mono h.below.size), blk_below h.pr hb, blk_below h.st hb, blk_below h.res hb, h.at'.below hb⟩
theorem RsW.start {w W0 : World} {C : Array Value} {s : PSt} {vo vt : Value} (hW0 : W0 = ((w.alloc (.cells C 25)).alloc (.cells (stC s vo vt) 44)).alloc (.cells zeroS 44)) (h : StN w vo vt s) : RsW w W0 C s vo vt := by
  have s1 : (w.alloc (.cells C 25)).heap.size = w.heap.size + 1 := World.size_alloc _ _
  have s2 : ((w.alloc (.cells C 25)).alloc (.cells (stC s vo vt) 44)).heap.size = w.heap.size + 2 := by rw [World.size_alloc, s1]
  have hb : Below w.heap.size w W0 := by rw [hW0]; exact (((Below.refl _ _).alloc (Nat.le_refl _) _).alloc (by simp) _).alloc (by simp; omega) _
  have k2 := blk_new (w.alloc (.cells C 25)) (stC s vo vt) 44
  have k3 := blk_new ((w.alloc (.cells C 25)).alloc (.cells (stC s vo vt) 44)) zeroS 44
  rw [s1] at k2
  rw [s2] at k3
  refine ⟨hb, ?_, ?_, ?_, h.below hb⟩
  · rw [hW0]; exact blk_alloc (blk_alloc (blk_new _ _ _) _) _
  · rw [hW0]; exact blk_alloc k2 _
  · rw [hW0]; exact k3
/-- What is answered. -/
theorem StepPost.of {w wr : World} {C : Array Value} {s t : PSt} {vo vt vo' vt' : Value} {d : Bool} {e : Nat} (h : RsW w wr C s vo vt) (ht : StN wr vo' vt' t) : StepPost w (t, d, e) (.returned (.tuple #[.agg (stC t vo' vt'), .bool d, .int .i64 e])) (putB wr (w.heap.size + 2) (stC t vo' vt') 44) :=
  ⟨vo', vt', rfl, ht.putT h.res (by decide), h.below.trans (putB_below _ (by omega) _ _)⟩
set_option maxRecDepth 100000 in
set_option maxHeartbeats 4000000 in
theorem rstep_bad (w W0 : World) (C : Array Value) (s : PSt) (vo vt : Value) (z e : Int) (hs : StN w vo vt s)
    (hW0 : W0 = ((w.alloc (.cells C 25)).alloc (.cells (stC s vo vt) 44)).alloc (.cells zeroS 44)) (hC : Hid (C.size = 4))
    (HCK : Hid (∀ w1, Below w.heap.size w w1 → Calls Tryz.prog 13 #[.agg C] w1 (ChkPost w1 z e))) (he : (e != 0) = true) :
    Calls Tryz.prog 12 #[.agg C, .agg (stC s vo vt)] w (StepPost w (s, false, 2)) := by
  have HW := Lib.hid (RsW.start hW0 hs)
  clear hs
  go_enter Tryz.func12, Tryz.ntmps12
  go_upto_region 1 with (fail)
  rw [← hW0]
  clear hW0
  go_wp2_with (first
    | (refine wpList_loadB rfl 25 _ rfl w.heap.size C rfl 25 HW.out.pr _ Tryz.underlying25 rfl (by rw [hC.out]; exact prog_info) ?_)
    | (go_at_call 13; refine (HCK.out _ HW.out.below).mono ?_; rintro e1 w1 ⟨rfl, hb⟩; have HW := Lib.hid (HW.out.next hb); clear hb)
    | (refine wpList_loadB rfl 44 _ rfl (w.heap.size + 1) _ rfl 44 HW.out.st _ Tryz.underlying44 rfl (rstate_size HW.out.at'.len) ?_)
    | (refine wpList_putB rfl 44 _ _ rfl (w.heap.size + 2) _ rfl rfl 44 _ HW.out.res (rstate_size HW.out.at'.len) (by rw [stC_size HW.out.at'.len]; rfl) (stC_one' HW.out.at') ?_))
  refine bodyPost_ret (v := .tuple #[.agg (stC s vo vt), .bool false, .int .i64 2]) ?_ rfl (StepPost.of HW.out HW.out.at')
  rw [res_cell2 (p := 4) (u := 5) (v := 6) rfl _ _ (w.heap.size + 2) (stC s vo vt) 44 _ rfl (putB_at HW.out.res _ _) Tryz.underlying44 rfl (rstate_size HW.out.at'.len)]; rfl
end Go.Proofs.YtapjgobkpehgfaaGreatDoor
