/-
  The program's do: one contract.
-/
import Derived.Test.YtmnoohpkjgjphaaDoorPDo1
import Derived.Test.YtmnoohpkjgjphaaDoorPDo2
import Derived.Test.YtmnoohpkjgjphaaDoorPDo3
import Derived.Test.YtmnoohpkjgjphaaDoorPDo4
import Derived.Test.YtmnoohpkjgjphaaDoorPDo5
import Derived.Test.YtmnoohpkjgjphaaDoorPDo6
namespace Go.Proofs.YtmnoohpkjgjphaaDoor
set_option linter.unusedSimpArgs false
set_option linter.unusedVariables false
open Go.RowKit

def nxt (s : PSt) (i : PIns) : Nat := if i.op = 3 ∨ (i.op = 4 ∧ xA s i.a = 0) then i.n.toNat else s.pc + 1
theorem nxt_int {s : PSt} {i : PIns} (h : i.op = 3 ∨ i.op = 4 → 0 ≤ i.n) : (if i.op = 3 ∨ (i.op = 4 ∧ xA s i.a = 0) then i.n else (s.pc : Int) + 1) = ((nxt s i : Nat) : Int) := by
  unfold nxt
  split
  · next e => have := h (e.imp id (·.1)); omega
  · omega
/-- What an instruction of a valid program names. -/
theorem names_ok {p : PProg} {i : PIns} {n : Int} (hh : headB p = true) (ho : OkI i) (he : insE p n i = 0) :
    (∀ a : Int, 0 ≤ a → 0 ≤ localI p a → a < 8) ∧ (∀ a : Int, 0 ≤ a → 0 ≤ globI p a → a < 4) := by
  obtain ⟨h1, h2, h3, h4⟩ := head_parts hh
  refine ⟨fun a h0 hl => ?_, fun a h0 hl => ?_⟩
  · have := (local_lt hh h0 hl).1; omega
  · have := (glob_lt hh h0 hl).1; omega
set_option maxRecDepth 100000 in
theorem do_n (v : Value) (p : PProg) (WB w : World) (B b : Nat) (s t : PSt) (vo vt : Value) (ts : List Nat) (k : Nat) (i : PIns) (hB : WB.heap.size = B) (hP : ProgAt WB v p) (hs : OkP p) (hbel : Below B WB w) (hm : Mem w B b s vo vt) (hr : RunOk p s ts k) (hc : (checkL p).2 = 0) (hk : k ≤ 1000000)
    (hi : p.code[s.pc]? = some i) (hd : doI p (onI s) i = some t) : Calls Tryd.prog 25 #[v, ptr b] w (DoPost w B b t) := by
  subst hB
  obtain ⟨hh, hc1, hc2, hall, _⟩ := check_ok hc
  have hmem := List.mem_of_getElem? hi
  have he := hall i hmem
  have ho := hs.ins i hmem
  have hv := hr.inv
  obtain ⟨hnl, hng⟩ := names_ok (n := p.code.length) hh ho he
  obtain ⟨hrt, hju, hin, hki⟩ := ins_parts he
  have hop := right_op' hrt
  have hPw := hP.below hbel
  have hlt := (List.getElem?_eq_some_iff.1 hi).1
  have hBw : WB.heap.size ≤ w.heap.size := hbel.size
  have hlo := hv.lo
  have hl1 := hr.lt
  have hl2 := hr.lo
  have hl3 := hr.st
  have hxa : i.op = 4 → i.a < 8 := fun e => by unfold intsB at hin; rw [e] at hin; simpa using hin
  obtain ⟨vt', vc, rfl, ht, hcc⟩ := id hPw
  obtain ⟨x, k', rfl, g1, g2, g3⟩ := id hcc
  obtain ⟨bb, o, rfl, hbb, hrng⟩ := g3 s.pc i hi
  unfold maxLen at g2
  have hwb : Below w.heap.size w (w.alloc (.cells (progC vt' p (.slice (some ⟨bb, o, none⟩) p.code.length k')) 25)) := (Below.refl _ _).alloc (Nat.le_refl _) _
  have HS := Lib.hid hwb
  have HM := Lib.hid (hm.below hwb)
  have p3 := blk_cell (blk_new w (progC vt' p (.slice (some ⟨bb, o, none⟩) p.code.length k')) 25) 3 _ rfl
  have HR := Lib.hid (rangeAt_below hrng hbb hwb)
  have hst : s.steps ≤ 1000000 := by omega
  have HN : Hid (∀ w1, Below (w.alloc (.cells (progC vt' p (.slice (some ⟨bb, o, none⟩) p.code.length k')) 25)).heap.size (w.alloc (.cells (progC vt' p (.slice (some ⟨bb, o, none⟩) p.code.length k')) 25)) w1 → Calls Tryd.prog 38 #[ptr b, insV i] w1 (AggPost w1 (.int .i64 (nxt s i : Nat)))) := Lib.hid fun w1 hb1 => by
    have := next_n w1 WB.heap.size b s vo vt i (HM.out.below hb1) ho hxa (by omega)
    rw [nxt_int (fun e => (hju (by unfold jumpI; simp; exact e)).1)] at this
    exact this
  have hnx : i.op ≠ 3 → i.op ≠ 4 → nxt s i = s.pc + 1 := fun h3 h4 => by unfold nxt; rw [if_neg (by rintro (h | ⟨h, _⟩); exact h3 h; exact h4 h)]
  have key : ∀ a : Int, 0 ≤ a → 0 ≤ localI p a → pA s a ≠ 0 → (0 ≤ i.n ∧ i.n < sizeP p.types (localI p a)) → 1 ≤ pA s a ∧ pA s a ≤ s.objs.length ∧ i.n.toNat < (objA s.objs (pA s a)).length := by
    intro a h0 hl hz hn
    obtain ⟨q1, q2, _, q4⟩ := hv.obj (hv.pA hh h0 hl) hz
    exact ⟨q1, by omega, by omega⟩
  obtain ⟨o0, o1, a0, a1, b0, b1, c0, c1, n0, n1⟩ := ho
  have HPP := Lib.hid hP
  have HHB := Lib.hid hbel
  clear hrng hm hP hPw hcc ht g3 hbb hmem
  obtain ⟨op, a, ib, c, n⟩ := i
  simp only at o0 o1 a0 a1 b0 b1 c0 c1 n0 n1 hop hnx key hju hnl hng
  obtain ⟨ka, rfl⟩ : ∃ ka : Nat, a = ka := ⟨a.toNat, by omega⟩
  obtain ⟨kb, rfl⟩ : ∃ kb : Nat, ib = kb := ⟨ib.toNat, by omega⟩
  obtain ⟨kc, rfl⟩ : ∃ kc : Nat, c = kc := ⟨c.toNat, by omega⟩
  have hp3 := hlt
  rcases hop with e | e | e | e | e | e | e | e | e | e | e | e | e | e | e
  all_goals subst e
  · rw [doI_1 rfl] at hd
    obtain rfl := Option.some.inj hd
    rw [hnx (by decide) (by decide)] at HN
    have h8 : (ka : Int) < 8 := by simpa [intsB] using hin
    exact do_1 w _ p _ b vt' s vo vt bb o k' ka kb kc n _ rfl HS hBw p3 HM hp3 g1 g2 HR hst HN (by omega)
  · rw [doI_2 rfl] at hd
    obtain rfl := Option.some.inj hd
    rw [hnx (by decide) (by decide)] at HN
    have h8 : ((ka : Int) < 8 ∧ (kb : Int) < 8) ∧ (kc : Int) < 8 := by simpa [intsB] using hin
    exact do_2 w _ p _ b vt' s vo vt bb o k' ka kb kc n _ rfl HS hBw p3 HM hp3 g1 g2 HR hst HN (by omega) (by omega) (by omega) _ (Lib.hid rfl)
  · rw [doI_3 rfl] at hd
    obtain rfl := Option.some.inj hd
    exact do_3 w _ p _ b vt' s vo vt bb o k' ka kb kc n _ rfl HS hBw p3 HM hp3 g1 g2 HR hst HN
  · rw [doI_4 rfl] at hd
    obtain rfl := Option.some.inj hd
    have e1 : (if xA (onI s) (ka : Int) = 0 then { onI s with pc := n.toNat } else onI s) = { s with pc := nxt s ⟨4, ka, kb, kc, n⟩, steps := s.steps + 1 } := by
      unfold nxt
      by_cases hz : xA s (ka : Int) = 0
      · rw [if_pos (show xA (onI s) (ka : Int) = 0 from hz), if_pos (.inr ⟨rfl, hz⟩)]; rfl
      · rw [if_neg (show ¬ xA (onI s) (ka : Int) = 0 from hz), if_neg (by rintro (h | ⟨_, h⟩); cases h; exact hz h)]; rfl
    show Calls Tryd.prog 25 _ w (DoPost w WB.heap.size b (if xA (onI s) (ka : Int) = 0 then { onI s with pc := n.toNat } else onI s))
    rw [e1]
    exact do_4 w _ p _ b vt' s vo vt bb o k' ka kb kc n _ rfl HS hBw p3 HM hp3 g1 g2 HR hst HN
  · rw [doI_5 rfl] at hd
    obtain rfl := Option.some.inj hd
    rw [hnx (by decide) (by decide)] at HN
    have hl : 0 ≤ localI p (ka : Int) := by unfold kindsB at hki; simpa using hki
    have h8 := hnl ka a0 hl
    exact do_5 w _ p _ b vt' s vo vt bb o k' ka kb kc n _ rfl HS hBw p3 HM hp3 g1 g2 HR hst HN (by omega) (sizeP p.types (localI p (ka : Int))).toNat (Lib.hid (blk_new _ _ _)) (Lib.hid fun w1 s1 vo1 vt1 hm1 hb1 hl1 => by
      exact new_n _ p w1 _ b s1 vo1 vt1 ka (HPP.out.below (HHB.out.trans hb1)) hs hm1 hh a0 a1 hl (by omega))
  · rw [doI_6 rfl] at hd
    obtain rfl := Option.some.inj hd
    rw [hnx (by decide) (by decide)] at HN
    have hl : 0 ≤ localI p (ka : Int) := by unfold kindsB at hki; simpa using hki
    have h8 := hnl ka a0 hl
    exact do_6 w _ p _ b vt' s vo vt bb o k' ka kb kc n _ rfl HS hBw p3 HM hp3 g1 g2 HR hst HN (by omega)
  · rw [doI_7 rfl] at hd
    obtain rfl := Option.some.inj hd
    rw [hnx (by decide) (by decide)] at HN
    have hl : sameT (localI p (ka : Int)) (localI p (kb : Int)) = true := by unfold kindsB at hki; simpa using hki
    obtain ⟨m1, m2⟩ := same_parts hl
    have h8 := hnl ka a0 m1
    have h9 := hnl kb b0 (by omega)
    exact do_7 w _ p _ b vt' s vo vt bb o k' ka kb kc n _ rfl HS hBw p3 HM hp3 g1 g2 HR hst HN (by omega) (by omega)
  · rw [doI_8 rfl] at hd
    by_cases hz : pA (onI s) (kb : Int) = 0
    · rw [if_pos hz] at hd; cases hd
    rw [if_neg hz] at hd
    obtain rfl := Option.some.inj hd
    rw [hnx (by decide) (by decide)] at HN
    have hl : 0 ≤ localI p (kb : Int) ∧ numF p.types (localI p (kb : Int)) n = true := by unfold kindsB at hki; simpa using hki
    have hnn := num_parts hl.2
    have h8 : (ka : Int) < 8 := by simpa [intsB] using hin
    have h9 := hnl kb b0 hl.1
    obtain ⟨q1, q2, q3⟩ := key kb (by omega) hl.1 hz ⟨by omega, by omega⟩
    obtain ⟨kn, rfl⟩ : ∃ kn : Nat, n = kn := ⟨n.toNat, by omega⟩
    exact do_8 w _ p _ b vt' s vo vt bb o k' ka kb kc kn _ rfl HS hBw p3 HM hp3 g1 g2 HR hst HN (by omega) (by omega) q1 q2 q3
  · rw [doI_9 rfl] at hd
    by_cases hz : pA (onI s) (ka : Int) = 0
    · rw [if_pos hz] at hd; cases hd
    rw [if_neg hz] at hd
    obtain rfl := Option.some.inj hd
    rw [hnx (by decide) (by decide)] at HN
    have hl : 0 ≤ localI p (ka : Int) ∧ numF p.types (localI p (ka : Int)) n = true := by unfold kindsB at hki; simpa using hki
    have hnn := num_parts hl.2
    have h8 : (kb : Int) < 8 := by simpa [intsB] using hin
    have h9 := hnl ka a0 hl.1
    obtain ⟨q1, q2, q3⟩ := key ka (by omega) hl.1 hz ⟨by omega, by omega⟩
    obtain ⟨kn, rfl⟩ : ∃ kn : Nat, n = kn := ⟨n.toNat, by omega⟩
    exact do_9 w _ p _ b vt' s vo vt bb o k' ka kb kc kn _ rfl HS hBw p3 HM hp3 g1 g2 HR hst HN (by omega) (by omega) q1 q2 q3
  · rw [doI_10 rfl] at hd
    by_cases hz : pA (onI s) (kb : Int) = 0
    · rw [if_pos hz] at hd; cases hd
    rw [if_neg hz] at hd
    obtain rfl := Option.some.inj hd
    rw [hnx (by decide) (by decide)] at HN
    have hl : 0 ≤ localI p (kb : Int) ∧ sameT (localI p (ka : Int)) (toP p.types (localI p (kb : Int)) n) = true := by unfold kindsB at hki; simpa using hki
    obtain ⟨m1, m2⟩ := same_parts hl.2
    have hnn := toP_has (ts := p.types) (t := localI p (kb : Int)) (n := n) (by omega)
    have h8 := hnl ka a0 m1
    have h9 := hnl kb b0 hl.1
    obtain ⟨q1, q2, q3⟩ := key kb (by omega) hl.1 hz ⟨by omega, by omega⟩
    obtain ⟨kn, rfl⟩ : ∃ kn : Nat, n = kn := ⟨n.toNat, by omega⟩
    exact do_10 w _ p _ b vt' s vo vt bb o k' ka kb kc kn _ rfl HS hBw p3 HM hp3 g1 g2 HR hst HN (by omega) (by omega) q1 q2 q3
  · rw [doI_11 rfl] at hd
    by_cases hz : pA (onI s) (ka : Int) = 0
    · rw [if_pos hz] at hd; cases hd
    rw [if_neg hz] at hd
    obtain rfl := Option.some.inj hd
    rw [hnx (by decide) (by decide)] at HN
    have hl : 0 ≤ localI p (ka : Int) ∧ sameT (localI p (kb : Int)) (toP p.types (localI p (ka : Int)) n) = true := by unfold kindsB at hki; simpa using hki
    obtain ⟨m1, m2⟩ := same_parts hl.2
    have hnn := toP_has (ts := p.types) (t := localI p (ka : Int)) (n := n) (by omega)
    have h8 := hnl kb b0 m1
    have h9 := hnl ka a0 hl.1
    obtain ⟨q1, q2, q3⟩ := key ka (by omega) hl.1 hz ⟨by omega, by omega⟩
    obtain ⟨kn, rfl⟩ : ∃ kn : Nat, n = kn := ⟨n.toNat, by omega⟩
    exact do_11 w _ p _ b vt' s vo vt bb o k' ka kb kc kn _ rfl HS hBw p3 HM hp3 g1 g2 HR hst HN (by omega) (by omega) q1 q2 q3
  · rw [doI_12 rfl] at hd
    obtain rfl := Option.some.inj hd
    rw [hnx (by decide) (by decide)] at HN
    have hl : sameT (localI p (ka : Int)) (globI p (kb : Int)) = true := by unfold kindsB at hki; simpa using hki
    obtain ⟨m1, m2⟩ := same_parts hl
    have h8 := hnl ka a0 m1
    have h9 := hng kb b0 (by omega)
    exact do_12 w _ p _ b vt' s vo vt bb o k' ka kb kc n _ rfl HS hBw p3 HM hp3 g1 g2 HR hst HN (by omega) (by omega)
  · rw [doI_13 rfl] at hd
    obtain rfl := Option.some.inj hd
    rw [hnx (by decide) (by decide)] at HN
    have hl : sameT (localI p (kb : Int)) (globI p (ka : Int)) = true := by unfold kindsB at hki; simpa using hki
    obtain ⟨m1, m2⟩ := same_parts hl
    have h8 := hnl kb b0 m1
    have h9 := hng ka a0 (by omega)
    exact do_13 w _ p _ b vt' s vo vt bb o k' ka kb kc n _ rfl HS hBw p3 HM hp3 g1 g2 HR hst HN (by omega) (by omega)
  · rw [doI_14 rfl] at hd
    obtain rfl := Option.some.inj hd
    rw [hnx (by decide) (by decide)] at HN
    have h8 : (ka : Int) < 8 := by simpa [intsB] using hin
    exact do_14 w _ p _ b vt' s vo vt bb o k' ka kb kc n _ rfl HS hBw p3 HM hp3 g1 g2 HR hst HN (by omega) (by omega)
  · rw [doI_15 rfl] at hd
    obtain rfl := Option.some.inj hd
    rw [hnx (by decide) (by decide)] at HN
    have h8 : (ka : Int) < 8 := by simpa [intsB] using hin
    have hl : sameT (localI p (kb : Int)) (localI p (kc : Int)) = true := by unfold kindsB at hki; simpa using hki
    obtain ⟨m1, m2⟩ := same_parts hl
    have h9 := hnl kb b0 m1
    have h10 := hnl kc c0 (by omega)
    exact do_15 w _ p _ b vt' s vo vt bb o k' ka kb kc n _ rfl HS hBw p3 HM hp3 g1 g2 HR hst HN (by omega) (by omega) (by omega) _ (Lib.hid (by simp; rfl))
end Go.Proofs.YtmnoohpkjgjphaaDoor
