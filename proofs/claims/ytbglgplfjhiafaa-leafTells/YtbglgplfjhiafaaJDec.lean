/-
  The landed Decode of a node. Conditions: those that each contract names.
-/
import Derived.Test.YtbglgplfjhiafaaJRead
import Derived.Test.YtbglgplfjhiafaaJEnc
import Derived.Test.YtbglgplfjhiafaaIKid
import Derived.Test.YtbglgplfjhiafaaIOpen
namespace Go.Proofs.Ytbglgplfjhiafaa
open Go.RowKit
set_option linter.unusedVariables false

set_option maxHeartbeats 1000000 in
theorem decode_short (w : World) (a : Option Addr) (n cap : Nat) (hn : n ≤ 140737488351232) (h : n ≠ 64) :
    Calls Try.prog 13 #[.slice a n cap] w fun e w' => ∃ v v', e = .returned (.tuple #[.agg #[v, v'], .int .i64 8]) ∧ OwnI 53 w' w.heap.size v [] ∧ OwnK 3 w' w.heap.size v' [] ∧ Below w.heap.size w w' := by
  have hne : ((n : Int) != 64) = true := bne_iff_ne.2 (by omega)
  obtain ⟨w0, hw0, V, bw0, -⟩ := boxedRow w 28 [.slice none 0 0, .slice none 0 0]
  obtain ⟨z0, z1⟩ := V.two
  have f0 := V.frozen 0
  have f1 := V.frozen 1
  go_enter Try.func13, Try.ntmps13
  go_wp2
  exact st_ret V bw0 (Nat.le_refl _) _ _ _ rfl rfl rfl Try.underlying28 rfl (by kernel_rfl) (fun w' _ b' => ⟨_, _, rfl, OwnI.nil _ _ _, OwnK.nil _ _ _, b'⟩)

set_option maxHeartbeats 1000000 in
theorem decode_open (w : World) (a : Option Addr) (cap : Nat) (l : List UInt8) (hcap : 64 ≤ cap) (hnil : a = none → cap = 0) (hB : IsB w a 64 l) (hE : Crc.openE l ≠ 0) :
    Calls Try.prog 13 #[.slice a 64 cap] w fun e w' => ∃ v v', e = .returned (.tuple #[.agg #[v, v'], .int .i64 21]) ∧ OwnI 53 w' w.heap.size v [] ∧ OwnK 3 w' w.heap.size v' [] ∧ Below w.heap.size w w' := by
  have HB : Hid (IsB _ _ _ _) := hB
  clear hB
  obtain ⟨w0, hw0, V, bw0, -⟩ := boxedRow w 28 [.slice none 0 0, .slice none 0 0]
  go_enter Try.func13, Try.ntmps13
  go_wp2_with fail
  refine (open_said _ _ 64 _ l (by decide) hcap hnil (HB.out.below bw0)).mono ?_
  rintro ex w1 ⟨xa, xn, xc, rfl, ho, bw1⟩
  have hEb : (Crc.openE l != 0) = true := bne_iff_ne.2 hE
  have V := V.below bw1
  obtain ⟨z0, z1⟩ := V.two
  have f0 := V.frozen 0
  have f1 := V.frozen 1
  clear ho hE
  go_wp2
  exact st_ret V (on bw0 bw1) (Nat.le_refl _) _ _ _ rfl rfl rfl Try.underlying28 rfl (by kernel_rfl) (fun w' _ b' => ⟨_, _, rfl, OwnI.nil _ _ _, OwnK.nil _ _ _, b'⟩)

set_option maxHeartbeats 2000000 in
theorem decode_kind (w : World) (a : Option Addr) (cap : Nat) (l : List UInt8) (hcap : 64 ≤ cap) (hnil : a = none → cap = 0) (hB : IsB w a 64 l) (hE : Crc.openE l = 0) (hk : ¬ ((Crc.openL l).getD 0 0 = 1 ∨ (Crc.openL l).getD 0 0 = 2)) :
    Calls Try.prog 13 #[.slice a 64 cap] w fun e w' => ∃ v v', e = .returned (.tuple #[.agg #[v, v'], .int .i64 22]) ∧ OwnI 53 w' w.heap.size v [] ∧ OwnK 3 w' w.heap.size v' [] ∧ Below w.heap.size w w' := by
  have HKd : Hid _ := hk
  clear hk
  have hl64 : Hid (l.length = 64) := hB.1
  have HL : Hid ((Crc.openL l).length = 60) := openL60 hB.1 hE
  have HB : Hid (IsB _ _ _ _) := hB
  have HE : Hid _ := hE
  clear hB
  obtain ⟨w0, hw0, V, bw0, -⟩ := boxedRow w 28 [.slice none 0 0, .slice none 0 0]
  go_enter Try.func13, Try.ntmps13
  go_wp2_with fail
  refine (open_said _ _ 64 _ l (by decide) hcap hnil (HB.out.below bw0)).mono ?_
  rintro ex w1 ⟨xa, xn, xc, rfl, ho, bw1⟩
  rw [hE]
  obtain rfl : xn = 60 := (owns_len ho).trans HL.out
  obtain ⟨hX, hXc, -⟩ := owns_isB ho
  obtain ⟨xb, xo, rfl, -⟩ := hX.place (by decide)
  have HX : Hid (IsB w1 (some ⟨xb, xo, none⟩) 60 (Crc.openL l)) := hX
  have V1 : Hid (Row w1 w.heap.size 28 [.slice none 0 0, .slice none 0 0]) := V.below bw1
  have BW1 : Hid (Below w.heap.size w w1) := on bw0 bw1
  have HB1 : Hid (IsB w1 a 64 l) := (HB.out.below bw0).below bw1
  clear ho hE V bw1 bw0 hX
  go_wp2_with fail
  refine (read_no _ xb xo _ (Crc.openL l) HX.out HKd.out).mono ?_
  rintro ex w2 ⟨rfl, b2⟩
  have V := V1.out.below b2
  obtain ⟨z0, z1⟩ := V.two
  have f0 := V.frozen 0
  have f1 := V.frozen 1
  obtain ⟨w3, hw3, V3, b3, z3⟩ := boxedRow w2 28 [.slice none 0 0, .slice none 0 0]
  obtain ⟨p0, p1⟩ := V3.two
  have h0 := V3.frozen 0
  have h1 := V3.frozen 1
  obtain ⟨w4, hw4, V4x, K4⟩ := V3.whole2 (.slice none 0 0) (.slice none 0 0)
  have hlt : w.heap.size < w2.heap.size := V.lt
  have V4 := (V.below b3).keep (K4.block w.heap.size (by omega))
  obtain ⟨y0, y1⟩ := V4.two
  have g0 := V4.frozen 0
  have g1 := V4.frozen 1
  have B3 : Hid (Below w.heap.size w w4) := Kept.belowOf (on (on BW1.out b2) b3) K4 (by omega)
  obtain ⟨w5, hw5⟩ : ∃ w5, w3.setCell ⟨w2.heap.size, 0, none⟩ (.slice none 0 0) = w5 := ⟨_, rfl⟩
  have V5 : Row w5 w2.heap.size 28 [.slice none 0 0, .slice none 0 0] := by rw [← hw5]; exact V3.set 0 (.slice none 0 0)
  obtain ⟨p2, p3⟩ := V5.two
  have h2 := V5.frozen 0
  have h3 := V5.frozen 1
  rw [hw5] at hw4
  clear V3 b3 z3 V V4x K4
  go_wp2
  exact st_ret V4 B3.out (Nat.le_refl _) _ _ _ rfl rfl rfl Try.underlying28 rfl (by kernel_rfl) (fun w' _ b' => ⟨_, _, rfl, OwnI.nil _ _ _, OwnK.nil _ _ _, b'⟩)

set_option maxRecDepth 20000 in
set_option maxHeartbeats 4000000 in
theorem decode_in (w : World) (a : Option Addr) (cap : Nat) (l : List UInt8) (hcap : 64 ≤ cap) (hnil : a = none → cap = 0) (hB : IsB w a 64 l) (hE : Crc.openE l = 0) (hk : (Crc.openL l).getD 0 0 = 1 ∨ (Crc.openL l).getD 0 0 = 2) :
    Calls Try.prog 13 #[.slice a 64 cap] w fun e w' => ∃ v v', e = .returned (.tuple #[.agg #[v, v'], .int .i64 (Lf.decodeE l)]) ∧ OwnI 53 w' w.heap.size v (Lf.decodeN l).1 ∧ OwnK 3 w' w.heap.size v' (Lf.decodeN l).2 ∧ Below w.heap.size w w' := by
  have HKd : Hid _ := hk
  clear hk
  have hl64 : Hid (l.length = 64) := hB.1
  have HL : Hid ((Crc.openL l).length = 60) := openL60 hB.1 hE
  have HB : Hid (IsB _ _ _ _) := hB
  have HE : Hid _ := hE
  clear hB
  obtain ⟨w0, hw0, V, bw0, -⟩ := boxedRow w 28 [.slice none 0 0, .slice none 0 0]
  go_enter Try.func13, Try.ntmps13
  go_wp2_with fail
  refine (open_said _ _ 64 _ l (by decide) hcap hnil (HB.out.below bw0)).mono ?_
  rintro ex w1 ⟨xa, xn, xc, rfl, ho, bw1⟩
  rw [hE]
  obtain rfl : xn = 60 := (owns_len ho).trans HL.out
  obtain ⟨hX, hXc, -⟩ := owns_isB ho
  obtain ⟨xb, xo, rfl, -⟩ := hX.place (by decide)
  have HX : Hid (IsB w1 (some ⟨xb, xo, none⟩) 60 (Crc.openL l)) := hX
  have V1 : Hid (Row w1 w.heap.size 28 [.slice none 0 0, .slice none 0 0]) := V.below bw1
  have BW1 : Hid (Below w.heap.size w w1) := on bw0 bw1
  have HB1 : Hid (IsB w1 a 64 l) := (HB.out.below bw0).below bw1
  clear ho hE V bw1 bw0 hX
  have HD : Hid _ := Lf.decode_read hl64.out HE.out HL.out HKd.out
  have HLT : Hid (w.heap.size < w1.heap.size) := V1.out.lt
  go_wp2_with fail
  refine (read_yes _ xb xo _ (Crc.openL l) HX.out HKd.out).mono ?_
  rintro ex w2 ⟨v, v', rfl, hoI, hoK, b2⟩
  obtain ⟨ia, ic, rfl, -, -⟩ := hoI.slice
  obtain ⟨ka, kc, rfl, -, -⟩ := hoK.slice
  obtain ⟨il, hil⟩ : ∃ il, il = (Lf.readN (Crc.openL l)).1.length := ⟨_, rfl⟩
  obtain ⟨kl, hkl⟩ : ∃ kl, kl = (Lf.readN (Crc.openL l)).2.length := ⟨_, rfl⟩
  rw [← hil] at hoI ⊢
  rw [← hkl] at hoK ⊢
  have HOI : Hid (OwnI 53 w2 w1.heap.size (.slice ia il ic) (Lf.readN (Crc.openL l)).1) := hoI
  have HOK : Hid (OwnK 3 w2 w1.heap.size (.slice ka kl kc) (Lf.readN (Crc.openL l)).2) := hoK
  have HLI : Hid ((Lf.readN (Crc.openL l)).1.length ≤ 255) := (by have := Lf.cnt_lt (Crc.openL l); show (Lf.readI (Crc.openL l)).length ≤ 255; rw [Lf.readI_len]; omega)
  have HLK : Hid ((Lf.readN (Crc.openL l)).2.length ≤ 256) := (by have := Lf.cnt_lt (Crc.openL l); show (Lf.readK (Crc.openL l)).length ≤ 256; unfold Lf.readK; split <;> simp; omega)
  clear hil hkl hoI hoK
  obtain ⟨w3, hw3, V3, b3, z3⟩ := boxedRow w2 28 [.slice ia il ic, .slice ka kl kc]
  have HV3 : Hid (Row w3 w2.heap.size 28 [.slice ia il ic, .slice ka kl kc]) := V3
  have R3 : Hid (Row w3 w.heap.size 28 [.slice none 0 0, .slice none 0 0]) := (V1.out.below b2).below b3
  have BW3 : Hid (Below w.heap.size w w3) := on (on BW1.out b2) b3
  have HB3 : Hid (IsB w3 a 64 l) := (HB1.out.below b2).below b3
  have HOI3 : Hid (OwnI 53 w3 w1.heap.size (.slice ia il ic) (Lf.readN (Crc.openL l)).1) := HOI.out.below b3
  have HOK3 : Hid (OwnK 3 w3 w1.heap.size (.slice ka kl kc) (Lf.readN (Crc.openL l)).2) := HOK.out.below b3
  obtain ⟨s0, s1⟩ := HV3.out.two
  clear V3 b3 z3 b2 HOI HOK
  go_wp2_with fail
  refine (encode_u _ _ _ ia ka il ic kl kc (Lf.readN (Crc.openL l)).1 (Lf.readN (Crc.openL l)).2 (HOI3.out.rd (by have := HLI.out; omega)) (HOK3.out.rd (by have := HLK.out; omega))).mono ?_
  rintro ex w4 ⟨ya, yn, yc, rfl, hoY, b4⟩
  have HV4 : Hid (Row w4 w2.heap.size 28 [.slice ia il ic, .slice ka kl kc]) := HV3.out.below b4
  have R4 : Hid (Row w4 w.heap.size 28 [.slice none 0 0, .slice none 0 0]) := R3.out.below b4
  have BW4 : Hid (Below w.heap.size w w4) := on BW3.out b4
  have HB4 : Hid (IsB w4 a 64 l) := HB3.out.below b4
  have HOI4 : Hid (OwnI 53 w4 w1.heap.size (.slice ia il ic) (Lf.readN (Crc.openL l)).1) := HOI3.out.below b4
  have HOK4 : Hid (OwnK 3 w4 w1.heap.size (.slice ka kl kc) (Lf.readN (Crc.openL l)).2) := HOK3.out.below b4
  clear s0 s1 b4 HV3 R3 HB3 HOI3 HOK3 hw3
  obtain ⟨s0, s1⟩ := HV4.out.two
  obtain ⟨z0, z1⟩ := R4.out.two
  have f0 := R4.out.frozen 0
  have f1 := R4.out.frozen 1
  obtain ⟨NN, hNN⟩ : ∃ NN, NN = Lf.readN (Crc.openL l) := ⟨_, rfl⟩
  rw [show ((Lf.readN (Crc.openL l)).1, (Lf.readN (Crc.openL l)).2) = NN from hNN.symm] at hoY ⊢
  rw [← hNN] at HOI4 HOK4 HD
  cases hok : Lf.ok NN
  · have e9 : Lf.encodeE NN = 9 := by unfold Lf.encodeE; rw [hok]; rfl
    have HD2 : Hid _ := HD.out.2 (fun h => by rw [hok] at h; cases h.1)
    rw [e9]
    clear e9 hok hoY hNN
    go_wp2
    rw [HD2.out.1, HD2.out.2]
    exact st_ret R4.out BW4.out (Nat.le_refl _) _ _ _ rfl rfl rfl Try.underlying28 rfl (by kernel_rfl) (fun w' _ b' => ⟨_, _, rfl, OwnI.nil _ _ _, OwnK.nil _ _ _, b'⟩)
  · have e0 : Lf.encodeE NN = 0 := if_pos hok
    have eL : Lf.encodeL NN = Lf.enc NN := if_pos hok
    rw [eL] at hoY
    rw [e0]
    have HOKN : Hid _ := hok
    obtain rfl : yn = 64 := (owns_len hoY).trans (Lf.enc_len (Lf.ok_iff.1 hok))
    have HY : Hid (IsB w4 ya 64 (Lf.enc NN)) := (owns_isB hoY).1
    obtain ⟨EE, hEE⟩ : ∃ EE, EE = Lf.enc NN := ⟨_, rfl⟩
    rw [← hEE] at HY HD
    clear e0 eL hok hoY hNN hEE
    cases hc : (EE == l)
    · have HC : Hid _ := hc
      have hcp : ¬ EE = l := beq_eq_false_iff_ne.1 hc
      have HD2 : Hid _ := HD.out.2 (fun h => hcp h.2)
      clear hcp hc
      go_wp2_with (go_at_call 33; refine (equal_u _ _ _ 64 _ 64 _ _ _ HY.out HB4.out _ HC.out).mono ?_; rintro e w9 ⟨rfl, rfl⟩)
      rw [HD2.out.1, HD2.out.2]
      exact st_ret R4.out BW4.out (Nat.le_refl _) _ _ _ rfl rfl rfl Try.underlying28 rfl (by kernel_rfl) (fun w' _ b' => ⟨_, _, rfl, OwnI.nil _ _ _, OwnK.nil _ _ _, b'⟩)
    · have HC : Hid _ := hc
      have hcp : EE = l := beq_iff_eq.1 hc
      have HD2 : Hid _ := HD.out.1 ⟨HOKN.out, hcp⟩
      clear hcp hc
      go_wp2_with (go_at_call 33; refine (equal_u _ _ _ 64 _ 64 _ _ _ HY.out HB4.out _ HC.out).mono ?_; rintro e w9 ⟨rfl, rfl⟩)
      rw [HD2.out.1, HD2.out.2]
      exact st_ret R4.out BW4.out (Nat.le_refl _) _ _ _ rfl rfl rfl Try.underlying28 rfl (by kernel_rfl) (fun w' k' b' => ⟨_, _, rfl, (HOI4.out.keptL k' HLT.out).mono BW1.out.size, (HOK4.out.keptL k' HLT.out).mono BW1.out.size, b'⟩)

theorem decode_u (w : World) (a : Option Addr) (n cap : Nat) (l : List UInt8) (hn : n ≤ 140737488351232) (hcap : n ≤ cap) (hnil : a = none → cap = 0) (hB : IsB w a n l) :
    Calls Try.prog 13 #[.slice a n cap] w fun e w' => ∃ v v', e = .returned (.tuple #[.agg #[v, v'], .int .i64 (Lf.decodeE l)]) ∧ OwnI 53 w' w.heap.size v (Lf.decodeN l).1 ∧ OwnK 3 w' w.heap.size v' (Lf.decodeN l).2 ∧ Below w.heap.size w w' := by
  have hl := hB.1
  by_cases h : n = 64
  · subst h
    by_cases hE : Crc.openE l = 0
    · by_cases hk : (Crc.openL l).getD 0 0 = 1 ∨ (Crc.openL l).getD 0 0 = 2
      · exact decode_in w a cap l hcap hnil hB hE hk
      · rw [(Lf.decode_kind hl hE hk).1, (Lf.decode_kind hl hE hk).2]
        exact decode_kind w a cap l hcap hnil hB hE hk
    · rw [(Lf.decode_refused hl hE).1, (Lf.decode_refused hl hE).2]
      exact decode_open w a cap l hcap hnil hB hE
  · rw [(Lf.decode_length (b := l) (by omega)).1, (Lf.decode_length (b := l) (by omega)).2]
    exact decode_short w a n cap hn h

end Go.Proofs.Ytbglgplfjhiafaa
