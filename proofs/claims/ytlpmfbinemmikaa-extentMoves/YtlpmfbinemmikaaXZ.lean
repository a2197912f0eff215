/-
  The landed extent: Move's own contract. Conditions: those that it names.
-/
import Derived.Test.YtlpmfbinemmikaaXY
namespace Go.Proofs.Ytlpmfbinemmikaa
open Go.RowKit
set_option linter.unusedVariables false

set_option maxHeartbeats 4000000 in
theorem extMove_u (w : World) (P : Nat → Prop) (a : Option Addr) (n c : Nat) (l : List Ext) (hL : rExts.rd w P [.slice a n c] l) (x : Spn) (t : Int) (hx : In2 x) :
    Calls Try.prog 23 #[.slice a n c, .agg #[.int .i64 x.1, .int .i64 x.2], .int .i64 t] w fun e w' => ∃ b, e = .returned (.tuple #[b, .int .i64 (Ex.moveE l x t)]) ∧ OwnE 24 w' w.heap.size b (Ex.moveL l x t) ∧ Below w.heap.size w w' := by
  obtain ⟨w1, hw1, V1, b1, z1⟩ := boxedRow w 22 [.slice a n c]
  obtain ⟨w2, hw2, V2, b2, z2⟩ := boxedRow w1 44 [.int .i64 x.1, .int .i64 x.2]
  obtain ⟨w3, hw3, V3, b3, z3⟩ := boxedRow w2 3 [.int .i64 t]
  rw [z1] at z2 V2
  rw [z2] at V3
  have B3 : Hid (Below w.heap.size w w3) := on (on b1 b2) b3
  have HV1 : Hid (Row w3 w.heap.size 22 [.slice a n c]) := (V1.below b2).below b3
  have HV2 : Hid (Row w3 (w.heap.size + 1) 44 [.int .i64 x.1, .int .i64 x.2]) := V2.below b3
  have HV3 : Hid (Row w3 (w.heap.size + 1 + 1) 3 [.int .i64 t]) := V3
  have h0 := HV1.out.cell (j := 0) rfl
  have HR : Hid (rExts.rd w P [.slice a n c] l) := hL
  unfold In2 In64 at hx
  obtain ⟨⟨i1, i2⟩, i3, i4⟩ := hx
  clear V1 V2 V3 b1 b2 b3 z3
  by_cases hO : Ex.Ok l
  · have HC : Hid _ := Ex.checkE_ok hO
    by_cases c1 : x.2 < 1
    · have HE : Hid (Ex.moveE l x t = 4) := by unfold Hid Ex.moveE; rw [if_pos hO, if_neg (fun h => by have := h.1; omega)]
      have HLL : Hid (Ex.moveL l x t = []) := if_neg (by rw [HE.out]; decide)
      clear hO hL
      go_enter Try.func23, Try.ntmps23
      go_wp2_with fail
      refine (extCheck_u _ P _ _ _ l (Rep.below HR.out B3.out)).mono ?_
      rintro e w4 ⟨rfl, b4⟩
      rw [HC.out]
      have B4 : Hid (Below w.heap.size w w4) := on B3.out b4
      have W1 : Hid (Row w4 w.heap.size 22 [.slice a n c]) := HV1.out.below b4
      have W2 : Hid (Row w4 (w.heap.size + 1) 44 [.int .i64 x.1, .int .i64 x.2]) := HV2.out.below b4
      have W3 : Hid (Row w4 (w.heap.size + 1 + 1) 3 [.int .i64 t]) := HV3.out.below b4
      obtain ⟨g0, g1⟩ := W2.out.two
      have g2 := W3.out.cell (j := 0) rfl
      clear h0 b4
      go_wp2
      go_ret2
      exact ⟨_, by rw [HE.out]; rfl, by rw [HLL.out]; exact OwnE.nil _ _ _, B4.out⟩
    cases c2 : decide (Ex.Fits x.1 x.2)
    · have C2 : Hid (decide (Ex.Fits x.1 x.2) = false) := c2
      have HE : Hid (Ex.moveE l x t = 4) := by unfold Hid Ex.moveE; rw [if_pos hO, if_neg (fun h => absurd h.2.1 (of_decide_eq_false C2.out))]
      have HLL : Hid (Ex.moveL l x t = []) := if_neg (by rw [HE.out]; decide)
      clear hO hL
      clear c2
      go_enter Try.func23, Try.ntmps23
      go_wp2_with fail
      refine (extCheck_u _ P _ _ _ l (Rep.below HR.out B3.out)).mono ?_
      rintro e w4 ⟨rfl, b4⟩
      rw [HC.out]
      have B4 : Hid (Below w.heap.size w w4) := on B3.out b4
      have W1 : Hid (Row w4 w.heap.size 22 [.slice a n c]) := HV1.out.below b4
      have W2 : Hid (Row w4 (w.heap.size + 1) 44 [.int .i64 x.1, .int .i64 x.2]) := HV2.out.below b4
      have W3 : Hid (Row w4 (w.heap.size + 1 + 1) 3 [.int .i64 t]) := HV3.out.below b4
      obtain ⟨g0, g1⟩ := W2.out.two
      have g2 := W3.out.cell (j := 0) rfl
      clear h0 b4
      go_wp2_with fail
      refine (isWithin_u _ _ _ (by omega) i4 _ C2.out).mono ?_
      rintro e w9 ⟨rfl, rfl⟩
      go_wp2
      go_ret2
      exact ⟨_, by rw [HE.out]; rfl, by rw [HLL.out]; exact OwnE.nil _ _ _, B4.out⟩
    cases c3 : decide (Ex.Fits t x.2)
    · have C2 : Hid (decide (Ex.Fits x.1 x.2) = true) := c2
      have C3 : Hid (decide (Ex.Fits t x.2) = false) := c3
      have HE : Hid (Ex.moveE l x t = 4) := by unfold Hid Ex.moveE; rw [if_pos hO, if_neg (fun h => absurd h.2.2 (of_decide_eq_false C3.out))]
      have HLL : Hid (Ex.moveL l x t = []) := if_neg (by rw [HE.out]; decide)
      clear hO hL
      clear c2 c3
      go_enter Try.func23, Try.ntmps23
      go_wp2_with fail
      refine (extCheck_u _ P _ _ _ l (Rep.below HR.out B3.out)).mono ?_
      rintro e w4 ⟨rfl, b4⟩
      rw [HC.out]
      have B4 : Hid (Below w.heap.size w w4) := on B3.out b4
      have W1 : Hid (Row w4 w.heap.size 22 [.slice a n c]) := HV1.out.below b4
      have W2 : Hid (Row w4 (w.heap.size + 1) 44 [.int .i64 x.1, .int .i64 x.2]) := HV2.out.below b4
      have W3 : Hid (Row w4 (w.heap.size + 1 + 1) 3 [.int .i64 t]) := HV3.out.below b4
      obtain ⟨g0, g1⟩ := W2.out.two
      have g2 := W3.out.cell (j := 0) rfl
      clear h0 b4
      go_wp2_with fail
      refine (isWithin_u _ _ _ (by omega) i4 _ C2.out).mono ?_
      rintro e w9 ⟨rfl, rfl⟩
      go_wp2_with fail
      refine (isWithin_u _ _ _ (by omega) i4 _ C3.out).mono ?_
      rintro e w9 ⟨rfl, rfl⟩
      go_wp2
      go_ret2
      exact ⟨_, by rw [HE.out]; rfl, by rw [HLL.out]; exact OwnE.nil _ _ _, B4.out⟩
    have C2 : Hid (decide (Ex.Fits x.1 x.2) = true) := c2
    have C3 : Hid (decide (Ex.Fits t x.2) = true) := c3
    have hf1 := of_decide_eq_true c2
    have hf2 := of_decide_eq_true c3
    have HF1 : Hid (Ex.Fits x.1 x.2) := hf1
    have HF2 : Hid (Ex.Fits t x.2) := hf2
    have hSp : Ex.Span x t := ⟨by omega, hf1, hf2⟩
    have HE : Hid (Ex.moveE l x t = Ex.bareE (Ex.move l x.1 x.2 t)) := by unfold Hid Ex.moveE Ex.bareE; rw [if_pos hO, if_pos hSp]
    have HLL : Hid (Ex.moveL l x t = Ex.bareL (Ex.move l x.1 x.2 t)) := by
      unfold Hid Ex.moveL
      rw [HE.out]
      unfold Ex.bareE Ex.bareL
      by_cases h : (Ex.move l x.1 x.2 t).length ≤ 1024
      · rw [if_pos h, if_pos rfl, if_pos h]
      · rw [if_neg h, if_neg (by decide), if_neg h]
    have HOk : Hid _ := hO
    have HBits : Hid (Ex.Bits (Ex.movePs l x.1 x.2 t)) := (Ex.movePs_bits hO hf1 hf2).1
    have HEq : Hid _ := Ex.movePs_eq hO hf1 hf2
    clear hO hL c2 c3 hf1 hf2 hSp
    go_enter Try.func23, Try.ntmps23
    go_wp2_with fail
    refine (extCheck_u _ P _ _ _ l (Rep.below HR.out B3.out)).mono ?_
    rintro e w4 ⟨rfl, b4⟩
    rw [HC.out]
    have B4 : Hid (Below w.heap.size w w4) := on B3.out b4
    have W1 : Hid (Row w4 w.heap.size 22 [.slice a n c]) := HV1.out.below b4
    have W2 : Hid (Row w4 (w.heap.size + 1) 44 [.int .i64 x.1, .int .i64 x.2]) := HV2.out.below b4
    have W3 : Hid (Row w4 (w.heap.size + 1 + 1) 3 [.int .i64 t]) := HV3.out.below b4
    obtain ⟨g0, g1⟩ := W2.out.two
    have g2 := W3.out.cell (j := 0) rfl
    clear h0 b4
    go_wp2_with fail
    refine (isWithin_u _ _ _ (by omega) i4 _ C2.out).mono ?_
    rintro e w9 ⟨rfl, rfl⟩
    go_wp2_with fail
    refine (isWithin_u _ _ _ (by omega) i4 _ C3.out).mono ?_
    rintro e w9 ⟨rfl, rfl⟩
    have HWR : Hid (Writes _ _ _ _) := move1_writes w4 w.heap.size a n c l (rExts_low HR.out B4.out) HOk.out x t HF1.out HF2.out (w.heap.size + 1 + 1) (w.heap.size + 1) w.heap.size (by omega) (by omega) W1.out.lt W3.out W2.out (W1.out.cell (j := 0) rfl)
    go_wp2_with fail
    refine (laid_u w4 _ _ (enters_of Try.func45 (by kernel_rfl) rfl) _ HBits.out HWR.out).mono ?_
    rintro e w5 ⟨b5, rfl, ho5, bb5⟩
    rw [HEq.out] at ho5 ⊢
    have HO5 : Hid (OwnE _ _ _ _ _) := ho5
    have B5 : Hid (Below w.heap.size w w5) := on B4.out bb5
    clear ho5 bb5 g0 g1 g2
    go_wp2
    go_ret2
    exact ⟨_, by rw [HE.out]; rfl, by rw [HLL.out]; exact HO5.out.mono B4.out.size, B5.out⟩
  · have HC : Hid _ := Ex.checkE_no hO
    have HE : Hid (Ex.moveE l x t = 9) := by unfold Hid Ex.moveE; rw [if_neg hO]
    have HLL : Hid (Ex.moveL l x t = []) := if_neg (by rw [HE.out]; decide)
    clear hO hL
    go_enter Try.func23, Try.ntmps23
    go_wp2_with fail
    refine (extCheck_u _ P _ _ _ l (Rep.below HR.out B3.out)).mono ?_
    rintro e w4 ⟨rfl, b4⟩
    rw [HC.out]
    have B4 : Hid (Below w.heap.size w w4) := on B3.out b4
    have W1 : Hid (Row w4 w.heap.size 22 [.slice a n c]) := HV1.out.below b4
    have W2 : Hid (Row w4 (w.heap.size + 1) 44 [.int .i64 x.1, .int .i64 x.2]) := HV2.out.below b4
    have W3 : Hid (Row w4 (w.heap.size + 1 + 1) 3 [.int .i64 t]) := HV3.out.below b4
    obtain ⟨g0, g1⟩ := W2.out.two
    have g2 := W3.out.cell (j := 0) rfl
    clear h0 b4
    go_wp2
    go_ret2
    exact ⟨_, by rw [HE.out]; rfl, by rw [HLL.out]; exact OwnE.nil _ _ _, B4.out⟩

end Go.Proofs.Ytlpmfbinemmikaa
