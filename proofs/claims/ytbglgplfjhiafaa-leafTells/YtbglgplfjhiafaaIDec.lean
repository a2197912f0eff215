/-
  The document's own Decode of a node. Conditions: those that each contract names.
-/
import Derived.Test.YtbglgplfjhiafaaITold
import Derived.Test.YtbglgplfjhiafaaIEnc
import Derived.Test.YtbglgplfjhiafaaIKid
import Derived.Test.YtbglgplfjhiafaaIOpen
namespace Go.Proofs.Ytbglgplfjhiafaa
open Go.RowKit
set_option linter.unusedVariables false

set_option maxHeartbeats 1000000 in
theorem refDecode_short (w : World) (a : Option Addr) (n cap : Nat) (hn : n ≤ 140737488351232) (h : n ≠ 64) :
    Calls Try.prog 14 #[.slice a n cap] w fun e w' => ∃ v v', e = .returned (.tuple #[.agg #[v, v'], .int .i64 8]) ∧ OwnI 53 w' w.heap.size v [] ∧ OwnK 3 w' w.heap.size v' [] ∧ Below w.heap.size w w' := by
  have hne : ((n : Int) != 64) = true := bne_iff_ne.2 (by omega)
  obtain ⟨w0, hw0, V, bw0, -⟩ := boxedRow w 25 [.slice none 0 0, .slice none 0 0]
  obtain ⟨z0, z1⟩ := V.two
  have f0 := V.frozen 0
  have f1 := V.frozen 1
  go_enter Try.func14, Try.ntmps14
  go_wp2
  exact st_ret V bw0 (Nat.le_refl _) _ _ _ rfl rfl rfl Try.underlying25 rfl (by kernel_rfl) (fun w' _ b' => ⟨_, _, rfl, OwnI.nil _ _ _, OwnK.nil _ _ _, b'⟩)

set_option maxHeartbeats 1000000 in
theorem refDecode_open (w : World) (a : Option Addr) (cap : Nat) (l : List UInt8) (hcap : 64 ≤ cap) (hnil : a = none → cap = 0) (hB : IsB w a 64 l) (hE : Crc.openE l ≠ 0) :
    Calls Try.prog 14 #[.slice a 64 cap] w fun e w' => ∃ v v', e = .returned (.tuple #[.agg #[v, v'], .int .i64 21]) ∧ OwnI 53 w' w.heap.size v [] ∧ OwnK 3 w' w.heap.size v' [] ∧ Below w.heap.size w w' := by
  have HB : Hid (IsB _ _ _ _) := hB
  clear hB
  obtain ⟨w0, hw0, V, bw0, -⟩ := boxedRow w 25 [.slice none 0 0, .slice none 0 0]
  go_enter Try.func14, Try.ntmps14
  go_wp2_with fail
  refine (refOpen_u _ _ 64 _ l (by decide) hcap (HB.out.below bw0)).mono ?_
  rintro ex w1 ⟨xa, xn, xc, rfl, ho, bw1⟩
  have hEb : (Crc.openE l != 0) = true := bne_iff_ne.2 hE
  have V := V.below bw1
  obtain ⟨z0, z1⟩ := V.two
  have f0 := V.frozen 0
  have f1 := V.frozen 1
  clear ho hE
  go_wp2
  exact st_ret V (on bw0 bw1) (Nat.le_refl _) _ _ _ rfl rfl rfl Try.underlying25 rfl (by kernel_rfl) (fun w' _ b' => ⟨_, _, rfl, OwnI.nil _ _ _, OwnK.nil _ _ _, b'⟩)

set_option maxHeartbeats 2000000 in
theorem refDecode_kind (w : World) (a : Option Addr) (cap : Nat) (l : List UInt8) (hcap : 64 ≤ cap) (hnil : a = none → cap = 0) (hB : IsB w a 64 l) (hE : Crc.openE l = 0) (hk : ¬ ((Crc.openL l).getD 0 0 = 1 ∨ (Crc.openL l).getD 0 0 = 2)) :
    Calls Try.prog 14 #[.slice a 64 cap] w fun e w' => ∃ v v', e = .returned (.tuple #[.agg #[v, v'], .int .i64 22]) ∧ OwnI 53 w' w.heap.size v [] ∧ OwnK 3 w' w.heap.size v' [] ∧ Below w.heap.size w w' := by
  have hl64 : Hid (l.length = 64) := hB.1
  have HL : Hid ((Crc.openL l).length = 60) := openL60 hB.1 hE
  have HB : Hid (IsB _ _ _ _) := hB
  have HE : Hid _ := hE
  clear hB
  obtain ⟨w0, hw0, V, bw0, -⟩ := boxedRow w 25 [.slice none 0 0, .slice none 0 0]
  go_enter Try.func14, Try.ntmps14
  go_wp2_with fail
  refine (refOpen_u _ _ 64 _ l (by decide) hcap (HB.out.below bw0)).mono ?_
  rintro ex w1 ⟨xa, xn, xc, rfl, ho, bw1⟩
  rw [hE]
  obtain rfl : xn = 60 := (owns_len ho).trans HL.out
  obtain ⟨hX, hXc, -⟩ := owns_isB ho
  obtain ⟨xb, xo, rfl, -⟩ := hX.place (by decide)
  have HX : Hid (IsB w1 (some ⟨xb, xo, none⟩) 60 (Crc.openL l)) := hX
  have V1 : Hid (Row w1 w.heap.size 25 [.slice none 0 0, .slice none 0 0]) := V.below bw1
  have BW1 : Hid (Below w.heap.size w w1) := on bw0 bw1
  have HB1 : Hid (IsB w1 a 64 l) := (HB.out.below bw0).below bw1
  clear ho hE V bw1 bw0 hX
  have x0 := head_at HX.out 0 (by decide)
  rw [Nat.add_zero] at x0
  obtain ⟨X, hX⟩ : ∃ X, X = (Crc.openL l).getD 0 0 := ⟨_, rfl⟩
  rw [← hX] at x0
  rw [← hX] at hk
  have k1 : ((X.toNat : Int) != 1) = true := u8_no (q := 1) (by decide) (fun e => hk (.inl e))
  have k2 : ((X.toNat : Int) != 2) = true := u8_no (q := 2) (by decide) (fun e => hk (.inr e))
  clear hk hX
  have V := V1.out
  obtain ⟨z0, z1⟩ := V.two
  have f0 := V.frozen 0
  have f1 := V.frozen 1
  go_wp2
  exact st_ret V BW1.out (Nat.le_refl _) _ _ _ rfl rfl rfl Try.underlying25 rfl (by kernel_rfl) (fun w' _ b' => ⟨_, _, rfl, OwnI.nil _ _ _, OwnK.nil _ _ _, b'⟩)

set_option maxRecDepth 20000 in
set_option maxHeartbeats 4000000 in
theorem refDecode_in (w : World) (a : Option Addr) (cap : Nat) (l : List UInt8) (hcap : 64 ≤ cap) (hnil : a = none → cap = 0) (hB : IsB w a 64 l) (hE : Crc.openE l = 0) (hk : (Crc.openL l).getD 0 0 = 1 ∨ (Crc.openL l).getD 0 0 = 2) :
    Calls Try.prog 14 #[.slice a 64 cap] w fun e w' => ∃ v v', e = .returned (.tuple #[.agg #[v, v'], .int .i64 (Lf.decodeE l)]) ∧ OwnI 53 w' w.heap.size v (Lf.decodeN l).1 ∧ OwnK 3 w' w.heap.size v' (Lf.decodeN l).2 ∧ Below w.heap.size w w' := by
  have HKd : Hid _ := hk
  clear hk
  have hl64 : Hid (l.length = 64) := hB.1
  have HL : Hid ((Crc.openL l).length = 60) := openL60 hB.1 hE
  have HB : Hid (IsB _ _ _ _) := hB
  have HE : Hid _ := hE
  clear hB
  obtain ⟨w0, hw0, V, bw0, -⟩ := boxedRow w 25 [.slice none 0 0, .slice none 0 0]
  go_enter Try.func14, Try.ntmps14
  go_wp2_with fail
  refine (refOpen_u _ _ 64 _ l (by decide) hcap (HB.out.below bw0)).mono ?_
  rintro ex w1 ⟨xa, xn, xc, rfl, ho, bw1⟩
  rw [hE]
  obtain rfl : xn = 60 := (owns_len ho).trans HL.out
  obtain ⟨hX, hXc, -⟩ := owns_isB ho
  obtain ⟨xb, xo, rfl, -⟩ := hX.place (by decide)
  have HX : Hid (IsB w1 (some ⟨xb, xo, none⟩) 60 (Crc.openL l)) := hX
  have V1 : Hid (Row w1 w.heap.size 25 [.slice none 0 0, .slice none 0 0]) := V.below bw1
  have BW1 : Hid (Below w.heap.size w w1) := on bw0 bw1
  have HB1 : Hid (IsB w1 a 64 l) := (HB.out.below bw0).below bw1
  clear ho hE V bw1 bw0 hX
  have HD : Hid _ := Lf.decode_told hl64.out HE.out HKd.out
  have x0 := head_at HX.out 0 (by decide)
  rw [Nat.add_zero] at x0
  obtain ⟨X, hX⟩ : ∃ X, X = (Crc.openL l).getD 0 0 := ⟨_, rfl⟩
  rw [← hX] at x0
  have HX12 : Hid (X = 1 ∨ X = 2) := by rw [hX]; exact HKd.out
  have k3 : (if ((X.toNat : Int) != 1) = true then ((X.toNat : Int) != 2) else false) = false := by
    rcases HX12.out with h | h <;> rw [h] <;> decide
  clear hX
  have hsplit : X = 1 ∨ X = 2 := HX12.out
  have CONT : True := trivial
  have HLT : Hid (w.heap.size < w1.heap.size) := V1.out.lt
  rcases hsplit with rfl | rfl
  · have x0 : w1.cell? ⟨xb, xo, none⟩ = some (.int .u8 1) := x0
    go_wp2_with fail
    refine (told_u _ _ _ (Crc.openL l) hXc HX.out HKd.out).mono ?_
    rintro ex w2 ⟨v, v', rfl, hoI, hoK, b2⟩
    obtain ⟨ia, ic, rfl, -, -⟩ := hoI.slice
    obtain ⟨ka, kc, rfl, -, -⟩ := hoK.slice
    obtain ⟨il, hil⟩ : ∃ il, il = (Lf.told (Crc.openL l)).1.length := ⟨_, rfl⟩
    obtain ⟨kl, hkl⟩ : ∃ kl, kl = (Lf.told (Crc.openL l)).2.length := ⟨_, rfl⟩
    rw [← hil] at hoI ⊢
    rw [← hkl] at hoK ⊢
    have HOI : Hid (OwnI 53 w2 w1.heap.size (.slice ia il ic) (Lf.told (Crc.openL l)).1) := hoI
    have HOK : Hid (OwnK 3 w2 w1.heap.size (.slice ka kl kc) (Lf.told (Crc.openL l)).2) := hoK
    have HLI : Hid ((Lf.told (Crc.openL l)).1.length ≤ 255) := (by unfold Hid; rw [Lf.told_len]; have := Lf.many_le (Crc.openL l); omega)
    have HLK : Hid ((Lf.told (Crc.openL l)).2.length ≤ 256) := (by unfold Hid Lf.told; have := Lf.many_le (Crc.openL l); simp only; split <;> simp; omega)
    clear hil hkl hoI hoK
    obtain ⟨w3, hw3, V3, b3, z3⟩ := boxedRow w2 25 [.slice ia il ic, .slice ka kl kc]
    have HV3 : Hid (Row w3 w2.heap.size 25 [.slice ia il ic, .slice ka kl kc]) := V3
    have R3 : Hid (Row w3 w.heap.size 25 [.slice none 0 0, .slice none 0 0]) := (V1.out.below b2).below b3
    have BW3 : Hid (Below w.heap.size w w3) := on (on BW1.out b2) b3
    have HB3 : Hid (IsB w3 a 64 l) := (HB1.out.below b2).below b3
    have HOI3 : Hid (OwnI 53 w3 w1.heap.size (.slice ia il ic) (Lf.told (Crc.openL l)).1) := HOI.out.below b3
    have HOK3 : Hid (OwnK 3 w3 w1.heap.size (.slice ka kl kc) (Lf.told (Crc.openL l)).2) := HOK.out.below b3
    obtain ⟨s0, s1⟩ := HV3.out.two
    clear V3 b3 z3 b2 HOI HOK
    go_wp2_with fail
    refine (refEncode_u _ _ _ ia ka il ic kl kc (Lf.told (Crc.openL l)).1 (Lf.told (Crc.openL l)).2 (HOI3.out.rd (by have := HLI.out; omega)) (HOK3.out.rd (by have := HLK.out; omega))).mono ?_
    rintro ex w4 ⟨ya, yn, yc, rfl, hoY, b4⟩
    have HV4 : Hid (Row w4 w2.heap.size 25 [.slice ia il ic, .slice ka kl kc]) := HV3.out.below b4
    have R4 : Hid (Row w4 w.heap.size 25 [.slice none 0 0, .slice none 0 0]) := R3.out.below b4
    have BW4 : Hid (Below w.heap.size w w4) := on BW3.out b4
    have HB4 : Hid (IsB w4 a 64 l) := HB3.out.below b4
    have HOI4 : Hid (OwnI 53 w4 w1.heap.size (.slice ia il ic) (Lf.told (Crc.openL l)).1) := HOI3.out.below b4
    have HOK4 : Hid (OwnK 3 w4 w1.heap.size (.slice ka kl kc) (Lf.told (Crc.openL l)).2) := HOK3.out.below b4
    clear s0 s1 b4 HV3 R3 HB3 HOI3 HOK3 hw3
    obtain ⟨s0, s1⟩ := HV4.out.two
    obtain ⟨z0, z1⟩ := R4.out.two
    have f0 := R4.out.frozen 0
    have f1 := R4.out.frozen 1
    obtain ⟨NN, hNN⟩ : ∃ NN, NN = Lf.told (Crc.openL l) := ⟨_, rfl⟩
    rw [show ((Lf.told (Crc.openL l)).1, (Lf.told (Crc.openL l)).2) = NN from hNN.symm] at hoY ⊢
    rw [← hNN] at HOI4 HOK4 HD
    cases hok : Lf.ok NN
    · have e9 : Lf.encodeE NN = 9 := by unfold Lf.encodeE; rw [hok]; rfl
      have HD2 : Hid _ := HD.out.2 (fun h => by rw [hok] at h; cases h.1)
      rw [e9]
      clear e9 hok hoY hNN
      go_wp2
      rw [HD2.out.1, HD2.out.2]
      exact st_ret R4.out BW4.out (Nat.le_refl _) _ _ _ rfl rfl rfl Try.underlying25 rfl (by kernel_rfl) (fun w' _ b' => ⟨_, _, rfl, OwnI.nil _ _ _, OwnK.nil _ _ _, b'⟩)
    · have e0 : Lf.encodeE NN = 0 := if_pos hok
      have eL : Lf.encodeL NN = Lf.enc NN := if_pos hok
      rw [eL] at hoY
      rw [e0]
      have HOKN : Hid _ := hok
      obtain rfl : yn = 64 := (owns_len hoY).trans (Lf.enc_len (Lf.ok_iff.1 hok))
      have HY : Hid (IsB w4 ya 64 (Lf.enc NN)) := (owns_isB hoY).1
      obtain ⟨EE, hEE⟩ : ∃ EE, EE = Lf.enc NN := ⟨_, rfl⟩
      rw [← hEE] at HY HD
      clear e0 eL hok hoY hNN hEE
      have hs1 := conv_bytes w4 ya 64 yc _ HY.out
      have hs2 := conv_bytes w4 a 64 cap _ HB4.out
      cases hc : (EE == l)
      · have hcn : (EE != l) = true := by rw [bne, hc]; rfl
        have hcp : ¬ EE = l := beq_eq_false_iff_ne.1 hc
        have HD2 : Hid _ := HD.out.2 (fun h => hcp h.2)
        clear hcp
        go_wp2
        rw [HD2.out.1, HD2.out.2]
        exact st_ret R4.out BW4.out (Nat.le_refl _) _ _ _ rfl rfl rfl Try.underlying25 rfl (by kernel_rfl) (fun w' _ b' => ⟨_, _, rfl, OwnI.nil _ _ _, OwnK.nil _ _ _, b'⟩)
      · have hcn : (EE != l) = false := by rw [bne, hc]; rfl
        have hcp : EE = l := beq_iff_eq.1 hc
        have HD2 : Hid _ := HD.out.1 ⟨HOKN.out, hcp⟩
        clear hcp
        go_wp2
        rw [HD2.out.1, HD2.out.2]
        exact st_ret R4.out BW4.out (Nat.le_refl _) _ _ _ rfl rfl rfl Try.underlying25 rfl (by kernel_rfl) (fun w' k' b' => ⟨_, _, rfl, (HOI4.out.keptL k' HLT.out).mono BW1.out.size, (HOK4.out.keptL k' HLT.out).mono BW1.out.size, b'⟩)
  · have x0 : w1.cell? ⟨xb, xo, none⟩ = some (.int .u8 2) := x0
    go_wp2_with fail
    refine (told_u _ _ _ (Crc.openL l) hXc HX.out HKd.out).mono ?_
    rintro ex w2 ⟨v, v', rfl, hoI, hoK, b2⟩
    obtain ⟨ia, ic, rfl, -, -⟩ := hoI.slice
    obtain ⟨ka, kc, rfl, -, -⟩ := hoK.slice
    obtain ⟨il, hil⟩ : ∃ il, il = (Lf.told (Crc.openL l)).1.length := ⟨_, rfl⟩
    obtain ⟨kl, hkl⟩ : ∃ kl, kl = (Lf.told (Crc.openL l)).2.length := ⟨_, rfl⟩
    rw [← hil] at hoI ⊢
    rw [← hkl] at hoK ⊢
    have HOI : Hid (OwnI 53 w2 w1.heap.size (.slice ia il ic) (Lf.told (Crc.openL l)).1) := hoI
    have HOK : Hid (OwnK 3 w2 w1.heap.size (.slice ka kl kc) (Lf.told (Crc.openL l)).2) := hoK
    have HLI : Hid ((Lf.told (Crc.openL l)).1.length ≤ 255) := (by unfold Hid; rw [Lf.told_len]; have := Lf.many_le (Crc.openL l); omega)
    have HLK : Hid ((Lf.told (Crc.openL l)).2.length ≤ 256) := (by unfold Hid Lf.told; have := Lf.many_le (Crc.openL l); simp only; split <;> simp; omega)
    clear hil hkl hoI hoK
    obtain ⟨w3, hw3, V3, b3, z3⟩ := boxedRow w2 25 [.slice ia il ic, .slice ka kl kc]
    have HV3 : Hid (Row w3 w2.heap.size 25 [.slice ia il ic, .slice ka kl kc]) := V3
    have R3 : Hid (Row w3 w.heap.size 25 [.slice none 0 0, .slice none 0 0]) := (V1.out.below b2).below b3
    have BW3 : Hid (Below w.heap.size w w3) := on (on BW1.out b2) b3
    have HB3 : Hid (IsB w3 a 64 l) := (HB1.out.below b2).below b3
    have HOI3 : Hid (OwnI 53 w3 w1.heap.size (.slice ia il ic) (Lf.told (Crc.openL l)).1) := HOI.out.below b3
    have HOK3 : Hid (OwnK 3 w3 w1.heap.size (.slice ka kl kc) (Lf.told (Crc.openL l)).2) := HOK.out.below b3
    obtain ⟨s0, s1⟩ := HV3.out.two
    clear V3 b3 z3 b2 HOI HOK
    go_wp2_with fail
    refine (refEncode_u _ _ _ ia ka il ic kl kc (Lf.told (Crc.openL l)).1 (Lf.told (Crc.openL l)).2 (HOI3.out.rd (by have := HLI.out; omega)) (HOK3.out.rd (by have := HLK.out; omega))).mono ?_
    rintro ex w4 ⟨ya, yn, yc, rfl, hoY, b4⟩
    have HV4 : Hid (Row w4 w2.heap.size 25 [.slice ia il ic, .slice ka kl kc]) := HV3.out.below b4
    have R4 : Hid (Row w4 w.heap.size 25 [.slice none 0 0, .slice none 0 0]) := R3.out.below b4
    have BW4 : Hid (Below w.heap.size w w4) := on BW3.out b4
    have HB4 : Hid (IsB w4 a 64 l) := HB3.out.below b4
    have HOI4 : Hid (OwnI 53 w4 w1.heap.size (.slice ia il ic) (Lf.told (Crc.openL l)).1) := HOI3.out.below b4
    have HOK4 : Hid (OwnK 3 w4 w1.heap.size (.slice ka kl kc) (Lf.told (Crc.openL l)).2) := HOK3.out.below b4
    clear s0 s1 b4 HV3 R3 HB3 HOI3 HOK3 hw3
    obtain ⟨s0, s1⟩ := HV4.out.two
    obtain ⟨z0, z1⟩ := R4.out.two
    have f0 := R4.out.frozen 0
    have f1 := R4.out.frozen 1
    obtain ⟨NN, hNN⟩ : ∃ NN, NN = Lf.told (Crc.openL l) := ⟨_, rfl⟩
    rw [show ((Lf.told (Crc.openL l)).1, (Lf.told (Crc.openL l)).2) = NN from hNN.symm] at hoY ⊢
    rw [← hNN] at HOI4 HOK4 HD
    cases hok : Lf.ok NN
    · have e9 : Lf.encodeE NN = 9 := by unfold Lf.encodeE; rw [hok]; rfl
      have HD2 : Hid _ := HD.out.2 (fun h => by rw [hok] at h; cases h.1)
      rw [e9]
      clear e9 hok hoY hNN
      go_wp2
      rw [HD2.out.1, HD2.out.2]
      exact st_ret R4.out BW4.out (Nat.le_refl _) _ _ _ rfl rfl rfl Try.underlying25 rfl (by kernel_rfl) (fun w' _ b' => ⟨_, _, rfl, OwnI.nil _ _ _, OwnK.nil _ _ _, b'⟩)
    · have e0 : Lf.encodeE NN = 0 := if_pos hok
      have eL : Lf.encodeL NN = Lf.enc NN := if_pos hok
      rw [eL] at hoY
      rw [e0]
      have HOKN : Hid _ := hok
      obtain rfl : yn = 64 := (owns_len hoY).trans (Lf.enc_len (Lf.ok_iff.1 hok))
      have HY : Hid (IsB w4 ya 64 (Lf.enc NN)) := (owns_isB hoY).1
      obtain ⟨EE, hEE⟩ : ∃ EE, EE = Lf.enc NN := ⟨_, rfl⟩
      rw [← hEE] at HY HD
      clear e0 eL hok hoY hNN hEE
      have hs1 := conv_bytes w4 ya 64 yc _ HY.out
      have hs2 := conv_bytes w4 a 64 cap _ HB4.out
      cases hc : (EE == l)
      · have hcn : (EE != l) = true := by rw [bne, hc]; rfl
        have hcp : ¬ EE = l := beq_eq_false_iff_ne.1 hc
        have HD2 : Hid _ := HD.out.2 (fun h => hcp h.2)
        clear hcp
        go_wp2
        rw [HD2.out.1, HD2.out.2]
        exact st_ret R4.out BW4.out (Nat.le_refl _) _ _ _ rfl rfl rfl Try.underlying25 rfl (by kernel_rfl) (fun w' _ b' => ⟨_, _, rfl, OwnI.nil _ _ _, OwnK.nil _ _ _, b'⟩)
      · have hcn : (EE != l) = false := by rw [bne, hc]; rfl
        have hcp : EE = l := beq_iff_eq.1 hc
        have HD2 : Hid _ := HD.out.1 ⟨HOKN.out, hcp⟩
        clear hcp
        go_wp2
        rw [HD2.out.1, HD2.out.2]
        exact st_ret R4.out BW4.out (Nat.le_refl _) _ _ _ rfl rfl rfl Try.underlying25 rfl (by kernel_rfl) (fun w' k' b' => ⟨_, _, rfl, (HOI4.out.keptL k' HLT.out).mono BW1.out.size, (HOK4.out.keptL k' HLT.out).mono BW1.out.size, b'⟩)

theorem refDecode_u (w : World) (a : Option Addr) (n cap : Nat) (l : List UInt8) (hn : n ≤ 140737488351232) (hcap : n ≤ cap) (hnil : a = none → cap = 0) (hB : IsB w a n l) :
    Calls Try.prog 14 #[.slice a n cap] w fun e w' => ∃ v v', e = .returned (.tuple #[.agg #[v, v'], .int .i64 (Lf.decodeE l)]) ∧ OwnI 53 w' w.heap.size v (Lf.decodeN l).1 ∧ OwnK 3 w' w.heap.size v' (Lf.decodeN l).2 ∧ Below w.heap.size w w' := by
  have hl := hB.1
  by_cases h : n = 64
  · subst h
    by_cases hE : Crc.openE l = 0
    · by_cases hk : (Crc.openL l).getD 0 0 = 1 ∨ (Crc.openL l).getD 0 0 = 2
      · exact refDecode_in w a cap l hcap hnil hB hE hk
      · rw [(Lf.decode_kind hl hE hk).1, (Lf.decode_kind hl hE hk).2]
        exact refDecode_kind w a cap l hcap hnil hB hE hk
    · rw [(Lf.decode_refused hl hE).1, (Lf.decode_refused hl hE).2]
      exact refDecode_open w a cap l hcap hnil hB hE
  · rw [(Lf.decode_length (b := l) (by omega)).1, (Lf.decode_length (b := l) (by omega)).2]
    exact refDecode_short w a n cap hn h

end Go.Proofs.Ytbglgplfjhiafaa
