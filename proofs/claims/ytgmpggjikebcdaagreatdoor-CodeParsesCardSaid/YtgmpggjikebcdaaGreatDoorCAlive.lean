/-
  The contract of alive: answers that the document fixes.
-/
import Derived.Test.YtgmpggjikebcdaaGreatDoorCParse
import Derived.Test.YtgmpggjikebcdaaGreatDoorCPrint
namespace Go.Proofs.YtgmpggjikebcdaaGreatDoor
open Go.RowKit

/-- What a world has that all calls want. -/
structure HasAll (w : World) : Prop where
  m : HasM w
  e : HasE w
  t : HasT w
  o : HasO w
theorem HasAll.below {w w' : World} (h : HasAll w) (hb : Below w.heap.size w w') : HasAll w' := ⟨h.m.below hb, h.e.below hb, h.t.below hb, h.o.below hb⟩

def PA : PProg := ⟨[[105]], [48], [], [⟨5, 0, 0, 0, 0⟩, ⟨9, 0, 3, 0, 0⟩]⟩
def SA : Bs := [116, 121, 112, 101, 32, 105, 10, 108, 111, 99, 97, 108, 115, 32, 48, 10, 103, 108, 111, 98, 97, 108, 115, 32, 45, 10, 110, 101, 119, 32, 48, 10, 115, 116, 111, 114, 101, 105, 32, 48, 32, 48, 32, 51, 10]
theorem pa_parse : parseL SA = (PA, 0, 0) := by kernel_rfl
theorem pa_may : mayP PA = true := by kernel_rfl
theorem pa_join : joinL (linesP PA) = SA := by kernel_rfl
theorem pa_two : parseL [108, 111, 99, 97, 108, 115, 32, 48, 10] = (noneP, 2, 4) := by kernel_rfl
theorem pa_right : rightL ⟨9, 0, 3, 0, 0⟩ = true := by kernel_rfl
theorem pa_wrong : rightL ⟨0, 0, 0, 0, 0⟩ = false := by kernel_rfl
theorem pa_ok : OkP PA := ⟨by intro t ht; simp [PA] at ht; subst ht; decide, by decide, by decide, by intro i hi; simp [PA] at hi; rcases hi with rfl | rfl <;> (constructor <;> decide)⟩

theorem put_new (w : World) (cs : Array Value) : Below w.heap.size w (putB (w.alloc (.cells zeroP 25)) w.heap.size cs 25) := ((Below.refl _ _).alloc (Nat.le_refl _) _).trans (putB_below _ (Nat.le_refl _) _ _)
def Al1 (w : World) (e : Ending) (w' : World) : Prop := ∃ g c g' c', e = .returned (.tuple #[.agg #[.slice (some ⟨g, 0, none⟩) 1 c, str [48], str [], .slice (some ⟨g', 0, none⟩) 2 c'], .int .i64 0, .int .i64 0]) ∧
  ProgAt w' (.agg #[.slice (some ⟨g, 0, none⟩) 1 c, str [48], str [], .slice (some ⟨g', 0, none⟩) 2 c']) PA ∧ Below w.heap.size w w' ∧ w'.rangeAt g' 5 (insC ⟨9, 0, 3, 0, 0⟩).toList ∧ g' < w'.heap.size
theorem al1 (w : World) (h : HasAll w) : Calls Tryz.prog 11 #[.string ⟨#[116, 121, 112, 101, 32, 105, 10, 108, 111, 99, 97, 108, 115, 32, 48, 10, 103, 108, 111, 98, 97, 108, 115, 32, 45, 10, 110, 101, 119, 32, 48, 10, 115, 116, 111, 114, 101, 105, 32, 48, 32, 48, 32, 51, 10]⟩] w (Al1 w) := by
  have hp := parse_any ⟨SA.toArray⟩ w (by decide) h.m h.o h.e
  rw [show (⟨SA.toArray⟩ : ByteArray).data.toList = SA from rfl, pa_parse] at hp
  refine hp.mono ?_
  rintro e w' ⟨pv, rfl, hown, hb⟩
  have hat := hown.at
  obtain ⟨vt, vc, rfl, h1, h2⟩ := hown
  rcases ownsRow_forms h1 with ⟨_, h0⟩ | ⟨g, c, rfl⟩
  · cases h0
  · rcases ownsRow_forms h2 with ⟨_, h0⟩ | ⟨g', c', rfl⟩
    · cases h0
    · obtain ⟨a, c2, e1, _, _, h5⟩ := insRow_own h2
      obtain ⟨b, o, e2, hlt, hr⟩ := h5 1 ⟨9, 0, 3, 0, 0⟩ rfl
      simp only [Value.slice.injEq] at e1
      obtain ⟨rfl, _, rfl⟩ := e1
      simp at e2
      obtain ⟨rfl, rfl⟩ := e2
      exact ⟨g, c, _, c', rfl, hat, hb, hr, hlt⟩
def Al2 (w : World) (e : Ending) (w' : World) : Prop := ∃ vt vc, e = .returned (.tuple #[.agg #[vt, str [], str [], vc], .int .i64 2, .int .i64 4]) ∧ (#[vt, str [], str [], vc] : Array Value).all (·.oneCell') = true ∧ Below w.heap.size w w'
theorem al2 (w : World) (h : HasAll w) : Calls Tryz.prog 11 #[.string ⟨#[108, 111, 99, 97, 108, 115, 32, 48, 10]⟩] w (Al2 w) := by
  have hp := parse_any ⟨#[108, 111, 99, 97, 108, 115, 32, 48, 10]⟩ w (by decide) h.m h.o h.e
  rw [show (⟨#[108, 111, 99, 97, 108, 115, 32, 48, 10]⟩ : ByteArray).data.toList = [108, 111, 99, 97, 108, 115, 32, 48, 10] from rfl, pa_two] at hp
  refine hp.mono ?_
  rintro e w' ⟨pv, rfl, ⟨vt, vc, rfl, h1, h2⟩, hb⟩
  exact ⟨vt, vc, rfl, progC_one (P := noneP) h1 h2, hb⟩
theorem al3 (v : Value) (w : World) (h : HasAll w) (hp : ProgAt w v PA) : Calls Tryz.prog 7 #[v] w fun e w' => e = .returned (.tuple #[.string ⟨#[116, 121, 112, 101, 32, 105, 10, 108, 111, 99, 97, 108, 115, 32, 48, 10, 103, 108, 111, 98, 97, 108, 115, 32, 45, 10, 110, 101, 119, 32, 48, 10, 115, 116, 111, 114, 101, 105, 32, 48, 32, 48, 32, 51, 10]⟩, .int .i64 0]) ∧ Below w.heap.size w w' := by
  have := print_ok v PA w hp pa_ok h.o h.t pa_may (by decide) (by rw [pa_join]; decide)
  rw [pa_join] at this
  exact this
theorem al4 (w : World) (h : HasAll w) : Calls Tryz.prog 9 #[.agg #[.int .u8 9, .int .u8 0, .int .u8 3, .int .u8 0, .int .i64 0]] w (AggPost w (.bool true)) := right_b ⟨9, 0, 3, 0, 0⟩ true w h.o (by constructor <;> decide) pa_right
theorem al5 (w : World) (h : HasAll w) : Calls Tryz.prog 9 #[.agg #[.int .u8 0, .int .u8 0, .int .u8 0, .int .u8 0, .int .i64 0]] w (AggPost w (.bool false)) := right_b ⟨0, 0, 0, 0, 0⟩ false w h.o (by constructor <;> decide) pa_wrong

set_option maxRecDepth 100000 in
set_option maxHeartbeats 2000000 in
theorem alive_any (w : World) (h : HasAll w) : Calls Tryz.prog 5 #[] w fun e w' => e = .returned (.bool true) ∧ Below w.heap.size w w' := by
  have H1 := al1 w h
  have H2 := al2
  have H3 := al3
  have H4 := al4
  have H5 := al5
  have HA := Lib.hid h
  clear h
  go_enter Tryz.func5, Tryz.ntmps5
  go_wp2_with (first
    | (go_at_call 11; refine H1.mono ?_; rintro e w1 ⟨g, c, g', c', rfl, hp1, hb1, hr1, hlt1⟩; clear H1; have A1 := Lib.hid (HA.out.below hb1); have HB1 := Lib.hid hb1; have HR1 := Lib.hid hr1; have HLT := Lib.hid hlt1; have HP1 := Lib.hid hp1; have s1 := hb1.size; clear hb1 hr1 hlt1 hp1)
    | (go_at_call 7; refine (H3 _ _ (A1.out.below ((Below.refl _ _).alloc (Nat.le_refl _) _)) (HP1.out.below ((Below.refl _ _).alloc (Nat.le_refl _) _))).mono ?_; rintro e w2 ⟨rfl, hb2⟩; clear H3; have A2 := Lib.hid ((A1.out.below ((Below.refl _ _).alloc (Nat.le_refl _) _)).below hb2); have HB2 := Lib.hid hb2; have s2 := hb2.size; rw [World.size_alloc] at s2; clear hb2)
    | (go_at_call 11; refine (H2 _ A2.out).mono ?_; rintro e w3 ⟨vt, vc, rfl, hone, hb3⟩; clear H2; have ONE := Lib.hid hone; have HB3 := Lib.hid hb3; have s3 := hb3.size; clear hb3 hone)
    | (refine wpList_putB rfl 25 _ _ rfl w3.heap.size #[vt, str [], str [], vc] rfl rfl 25 _ (blk_new _ _ _) prog_info rfl ONE.out ?_; have BW := put_new w3 #[vt, str [], str [], vc]; generalize putB (w3.alloc (.cells zeroP 25)) w3.heap.size #[vt, str [], str [], vc] 25 = W3 at *; have AW := Lib.hid ((A2.out.below HB3.out).below BW); have sW := BW.size; have hbl := blk_below (blk_below (blk_below (blk_new w1 #[.slice (some ⟨g, 0, none⟩) 1 c, str [48], str [], .slice (some ⟨g', 0, none⟩) 2 c'] 25) HB2.out) HB3.out) BW; have kp3 := blk_cell hbl 3 _ rfl; have hrg := rangeAt_below (rangeAt_below (rangeAt_below (rangeAt_below HR1.out HLT.out ((Below.refl _ _).alloc (Nat.le_refl _) (.cells #[.slice (some ⟨g, 0, none⟩) 1 c, str [48], str [], .slice (some ⟨g', 0, none⟩) 2 c'] 25))) (by have := HLT.out; simp; omega) HB2.out) (by have := HLT.out; omega) HB3.out) (by have := HLT.out; omega) BW; have kq0 := hrg 0 _ rfl; have kq1 := hrg 1 _ rfl; have kq2 := hrg 2 _ rfl; have kq3 := hrg 3 _ rfl; have kq4 := hrg 4 _ rfl; have HBW := Lib.hid BW; clear BW hbl hrg)
    | (go_at_call 9; refine (H4 _ AW.out).mono ?_; rintro e w5 ⟨rfl, hb5⟩; clear H4; have A5 := Lib.hid (AW.out.below hb5); have HB5 := Lib.hid hb5; have s5 := hb5.size; clear hb5)
    | (go_at_call 9; refine (H5 _ A5.out).mono ?_; rintro e w6 ⟨rfl, hb6⟩; clear H5; have HB6 := Lib.hid hb6; clear hb6))
  go_ret
  refine ⟨rfl, ?_⟩
  have b2 := HB2.out
  rw [World.size_alloc] at b2
  have s6 := HB5.out.size
  exact ((((((HB1.out.alloc s1 _).trans (b2.mono (by omega))).trans (HB3.out.mono (by omega))).trans (HBW.out.mono (by omega))).trans (HB5.out.mono (by omega))).trans (HB6.out.mono (by omega)))
end Go.Proofs.YtgmpggjikebcdaaGreatDoor
