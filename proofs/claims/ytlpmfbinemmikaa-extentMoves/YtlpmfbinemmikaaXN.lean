/-
  The landed extent: Cut, at whatever map and sectors. Conditions: those that each contract names.
-/
import Derived.Test.YtlpmfbinemmikaaXD
import Derived.Test.YtlpmfbinemmikaaXM
import Derived.Test.YtlpmfbinemmikaaXW
namespace Go.Proofs.Ytlpmfbinemmikaa
open Go.RowKit
set_option linter.unusedVariables false

set_option maxHeartbeats 2000000 in
theorem checkSectors_u (w : World) (P : Nat → Prop) (a : Option Addr) (n c : Nat) (l : List Ext) (hL : rExts.rd w P [.slice a n c] l) (v k : Int) (hk : k ≤ 9223372036854775807) (q : Int) (hq : Ex.lookE l v k = q) :
    Calls Try.prog 31 #[.slice a n c, .int .i64 v, .int .i64 k] w fun e w' => e = .returned (.int .i64 q) ∧ Below w.heap.size w w' := by
  subst hq
  by_cases hO : Ex.Ok l
  · have HR : Hid _ := hL
    have HC : Hid _ := Ex.checkE_ok hO
    by_cases hk0 : k < 0
    · have HE : Hid (Ex.lookE l v k = 4) := by unfold Hid Ex.lookE; rw [if_pos hO, if_neg (fun h => by have := h.2.1; omega)]
      clear hL hO
      go_enter Try.func31, Try.ntmps31
      go_wp2_with fail
      refine (extCheck_u _ _ _ _ _ l HR.out).mono ?_
      rintro e w1 ⟨rfl, b1⟩
      rw [HC.out]
      go_wp2
      go_ret
      exact ⟨by rw [HE.out]; rfl, b1⟩
    · cases hf : decide (Ex.Fits v k)
      · have HE : Hid (Ex.lookE l v k = 4) := by unfold Hid Ex.lookE; rw [if_pos hO, if_neg (of_decide_eq_false hf)]
        have HF : Hid _ := hf
        clear hL hO hf
        go_enter Try.func31, Try.ntmps31
        go_wp2_with fail
        refine (extCheck_u _ _ _ _ _ l HR.out).mono ?_
        rintro e w1 ⟨rfl, b1⟩
        rw [HC.out]
        go_wp2_with fail
        refine (isWithin_u _ _ _ (by omega) hk _ HF.out).mono ?_
        rintro e w9 ⟨rfl, rfl⟩
        go_wp2
        go_ret
        exact ⟨by rw [HE.out]; rfl, b1⟩
      · have HE : Hid (Ex.lookE l v k = 0) := by unfold Hid Ex.lookE; rw [if_pos hO, if_pos (of_decide_eq_true hf)]
        have HF : Hid _ := hf
        clear hL hO hf
        go_enter Try.func31, Try.ntmps31
        go_wp2_with fail
        refine (extCheck_u _ _ _ _ _ l HR.out).mono ?_
        rintro e w1 ⟨rfl, b1⟩
        rw [HC.out]
        go_wp2_with fail
        refine (isWithin_u _ _ _ (by omega) hk _ HF.out).mono ?_
        rintro e w9 ⟨rfl, rfl⟩
        go_wp2
        go_ret
        exact ⟨by rw [HE.out]; rfl, b1⟩
  · have HE : Hid (Ex.lookE l v k = 9) := by unfold Hid Ex.lookE; rw [if_neg hO]
    have HR : Hid _ := hL
    have HC : Hid _ := Ex.checkE_no hO
    clear hL hO
    go_enter Try.func31, Try.ntmps31
    go_wp2_with fail
    refine (extCheck_u _ _ _ _ _ l HR.out).mono ?_
    rintro e w1 ⟨rfl, b1⟩
    rw [HC.out]
    go_wp2
    go_ret
    exact ⟨by rw [HE.out]; rfl, b1⟩

set_option maxHeartbeats 2000000 in
theorem cut1_writes (w : World) (P : Nat → Prop) (a : Option Addr) (n c : Nat) (l : List Ext) (hL : rExts.rd w P [.slice a n c] l) (hO : Ex.Ok l) (v k : Int) (hf : Ex.Fits v k) (A B C : Nat) (hA : A < w.heap.size) (hB : B < w.heap.size) (hC : C < w.heap.size)
    (h0 : w.cell? ⟨A, 0, none⟩ = some (.slice a n c)) (h1 : w.cell? ⟨B, 0, none⟩ = some (.int .i64 v)) (h2 : w.cell? ⟨C, 0, none⟩ = some (.int .i64 k)) :
    Writes 38 #[.pointer (some ⟨A, 0, none⟩), .pointer (some ⟨B, 0, none⟩), .pointer (some ⟨C, 0, none⟩)] w (Ex.cutPs l v k) := by
  intro g cs J S w1 L hJ b1 hS
  have HY : Hid (Layer g cs id J) := L
  have HR1 : Hid _ := Rep.below hL b1
  have HBits : Hid _ := Ex.cutPs_bits hO hf
  have HOk : Hid _ := hO
  have HJ : Hid (J [] S w1) := hJ
  have HPS : Hid (∀ b, P b → b < w.heap.size → ¬ S b) := fun b _ hb hs => by have := hS b hs; omega
  have e0 : w1.cell? ⟨A, 0, none⟩ = some (.slice a n c) := (b1.cell (p := ⟨A, 0, none⟩) hA).trans h0
  have e1 : w1.cell? ⟨B, 0, none⟩ = some (.int .i64 v) := (b1.cell (p := ⟨B, 0, none⟩) hB).trans h1
  have e2 : w1.cell? ⟨C, 0, none⟩ = some (.int .i64 k) := (b1.cell (p := ⟨C, 0, none⟩) hC).trans h2
  have B1 : Hid (Below w.heap.size w w1) := b1
  have HS : Hid _ := hS
  have HL0 : Hid _ := hL
  unfold Ex.Fits at hf
  obtain ⟨f1, f2, f3, f4⟩ := hf
  have HLow : Hid (∀ b, b < w.heap.size → ¬ S b) := fun b hb hs => by have := hS b hs; omega
  clear hL hO b1 hS L hJ
  go_enter Try.func38, Try.ntmps38
  go_wp2_with fail
  refine (layWithin_u HY.out w1 (fun b => b < w.heap.size) a n c l (rExts_low HL0.out B1.out) HOk.out [] S HJ.out (fun b hb _ => HLow.out b hb) 0 v (by omega) (by omega) (by omega) (by omega) (by rw [List.nil_append]; exact HBits.out.front)).mono ?_
  rintro e w2 ⟨rfl, S2, hj2, ht2⟩
  have HJ2 : Hid (J ([] ++ Ex.within l 0 v) S2 w2) := hj2
  have HT2 : Hid (Turns S S2 w1 w2) := ht2
  have b2 : Below w.heap.size w w2 := B1.out.trans (ht2.below B1.out.size HS.out)
  have HS2 : Hid (∀ b, b < w.heap.size → ¬ S2 b) := fun b hb hs => by have := ht2.low B1.out.size HS.out b hs; omega
  have g0 : w2.cell? ⟨A, 0, none⟩ = some (.slice a n c) := (b2.cell (p := ⟨A, 0, none⟩) hA).trans h0
  have g1 : w2.cell? ⟨B, 0, none⟩ = some (.int .i64 v) := (b2.cell (p := ⟨B, 0, none⟩) hB).trans h1
  have g2 : w2.cell? ⟨C, 0, none⟩ = some (.int .i64 k) := (b2.cell (p := ⟨C, 0, none⟩) hC).trans h2
  have B2 : Hid (Below w.heap.size w w2) := b2
  clear e0 e1 e2 hj2 ht2 b2
  go_wp2_with fail
  refine (layWithin_u HY.out w2 (fun b => b < w.heap.size) a n c l (rExts_low HL0.out B2.out) HOk.out ([] ++ Ex.within l 0 v) S2 HJ2.out (fun b hb _ => HS2.out b hb) (v + k) 65536 (by omega) (by omega) (by omega) (by omega) (by rw [List.nil_append]; exact HBits.out)).mono ?_
  rintro e w3 ⟨rfl, S3, hj3, ht3⟩
  go_wp2
  go_end0
  exact ⟨rfl, S3, by rw [List.nil_append] at hj3; exact hj3, HT2.out.trans ht3⟩

set_option maxHeartbeats 2000000 in
theorem extCut_u (w : World) (P : Nat → Prop) (a : Option Addr) (n c : Nat) (l : List Ext) (hL : rExts.rd w P [.slice a n c] l) (v k : Int) (hk : k ≤ 9223372036854775807) :
    Calls Try.prog 14 #[.slice a n c, .int .i64 v, .int .i64 k] w fun e w' => ∃ b, e = .returned (.tuple #[b, .int .i64 (Ex.cutE l v k)]) ∧ OwnE 24 w' w.heap.size b (Ex.cutL l v k) ∧ Below w.heap.size w w' := by
  obtain ⟨w1, hw1, V1, b1, z1⟩ := boxedRow w 22 [.slice a n c]
  obtain ⟨w2, hw2, V2, b2, z2⟩ := boxedRow w1 3 [.int .i64 v]
  obtain ⟨w3, hw3, V3, b3, z3⟩ := boxedRow w2 3 [.int .i64 k]
  rw [z1] at z2 V2
  rw [z2] at V3
  have B3 : Hid (Below w.heap.size w w3) := on (on b1 b2) b3
  have HV1 : Hid (Row w3 w.heap.size 22 [.slice a n c]) := (V1.below b2).below b3
  have HV2 : Hid (Row w3 (w.heap.size + 1) 3 [.int .i64 v]) := V2.below b3
  have HV3 : Hid (Row w3 (w.heap.size + 1 + 1) 3 [.int .i64 k]) := V3
  have h0 := HV1.out.cell (j := 0) rfl
  have h1 := HV2.out.cell (j := 0) rfl
  have h2 := HV3.out.cell (j := 0) rfl
  have HR : Hid _ := hL
  clear V1 V2 V3 b1 b2 b3 z3
  by_cases hz : Ex.lookE l v k = 0
  · obtain ⟨hO, hf⟩ := Ex.lookE_zero.1 hz
    have HE : Hid (Ex.cutE l v k = Ex.bareE (Ex.without l v k)) := by unfold Hid Ex.cutE Ex.bareE; rw [if_pos hO, if_pos hf]
    have HLL : Hid (Ex.cutL l v k = Ex.bareL (Ex.without l v k)) := by
      unfold Hid Ex.cutL
      rw [HE.out]
      unfold Ex.bareE Ex.bareL
      by_cases h : (Ex.without l v k).length ≤ 1024
      · rw [if_pos h, if_pos rfl, if_pos h]
      · rw [if_neg h, if_neg (by decide), if_neg h]
    have HOk : Hid _ := hO
    have HFt : Hid _ := hf
    have HZ : Hid _ := hz
    have HBits : Hid _ := Ex.cutPs_bits hO hf
    have HEq : Hid _ := Ex.cutPs_eq hO hf
    clear hO hf hz hL
    go_enter Try.func14, Try.ntmps14
    go_wp2_with fail
    refine (checkSectors_u _ P _ _ _ l (Rep.below HR.out B3.out) v k hk _ HZ.out).mono ?_
    rintro e w4 ⟨rfl, b4⟩
    have B4 : Hid (Below w.heap.size w w4) := on B3.out b4
    have HWR : Hid _ := cut1_writes w4 P a n c l (Rep.below HR.out B4.out) HOk.out v k HFt.out w.heap.size (w.heap.size + 1) (w.heap.size + 1 + 1) (HV1.out.below b4).lt (HV2.out.below b4).lt (HV3.out.below b4).lt
      ((HV1.out.below b4).cell (j := 0) rfl) ((HV2.out.below b4).cell (j := 0) rfl) ((HV3.out.below b4).cell (j := 0) rfl)
    clear h0 h1 h2 b4
    go_wp2_with fail
    refine (laid_u w4 _ _ (enters_of Try.func38 (by kernel_rfl) rfl) _ HBits.out HWR.out).mono ?_
    rintro e w5 ⟨b5, rfl, ho5, bb5⟩
    rw [HEq.out] at ho5 ⊢
    have HO5 : Hid (OwnE _ _ _ _ _) := ho5
    have B5 : Hid (Below w.heap.size w w5) := on B4.out bb5
    clear ho5 bb5
    go_wp2
    go_ret2
    exact ⟨_, by rw [HE.out]; rfl, by rw [HLL.out]; exact HO5.out.mono B4.out.size, B5.out⟩
  · have HE : Hid (Ex.cutE l v k = Ex.lookE l v k ∧ Ex.cutL l v k = []) := by
      unfold Hid Ex.cutL Ex.cutE Ex.lookE at *
      by_cases hO : Ex.Ok l
      · rw [if_pos hO] at hz ⊢
        by_cases hf : Ex.Fits v k
        · rw [if_pos hf] at hz; exact absurd rfl hz
        · rw [if_neg hf, if_pos hO, if_neg hf]; exact ⟨rfl, if_neg (by decide)⟩
      · rw [if_neg hO, if_neg hO]; exact ⟨rfl, if_neg (by decide)⟩
    obtain ⟨q, hq⟩ : ∃ q, Ex.lookE l v k = q := ⟨_, rfl⟩
    have HQ : Hid _ := hq
    rw [hq] at hz HE
    have hz' : (q == 0) = false := beq_eq_false_iff_ne.2 hz
    clear hL hq
    go_enter Try.func14, Try.ntmps14
    go_wp2_with fail
    refine (checkSectors_u _ P _ _ _ l (Rep.below HR.out B3.out) v k hk _ HQ.out).mono ?_
    rintro e w4 ⟨rfl, b4⟩
    go_wp2
    go_ret2
    exact ⟨_, by rw [HE.out.1]; rfl, by rw [HE.out.2]; exact OwnE.nil _ _ _, on B3.out b4⟩

end Go.Proofs.Ytlpmfbinemmikaa
