/-
  Facts that the proof rests on, part 14. Conditions: those that each of them names.
-/
import Derived.Test.YtkbmadoaomoojaaGreatK05
import Derived.Test.YtkbmadoaomoojaaGreatK09
import Derived.Test.YtkbmadoaomoojaaGreatK10
import Derived.Test.YtkbmadoaomoojaaGreatK12
namespace Go.Proofs.YtkbmadoaomoojaaGreat
set_option maxRecDepth 20000
open Go.RowKit
set_option linter.unusedVariables false
theorem openL60 {l : List UInt8} (h : l.length = 64) (hE : Crc.openE l = 0) : (Crc.openL l).length = 60 := by
 rcases Crc.openE_cases l with ⟨g, _, _⟩ | ⟨g1, g2, g3, g4⟩ | ⟨_, _, g, _⟩
 · omega
 · rw [g4, List.length_take]; omega
 · rw [hE] at g; cases g
theorem head_at {w : World} {ab off : Nat} {b : List UInt8} (hB : IsB w (some ⟨ab, off, none⟩) 60 b) (j : Nat) (hj : j < 60) : w.cell? ⟨ab, off + j, none⟩ = some (.int .u8 ((b.getD j 0).toNat : Int)) := by
 have hl := hB.1
 have h := hB.2.2 _ rfl j (by omega)
 rw [Addr.add_lit] at h
 rw [h, show b.getD j 0 = b[j] by simp [List.getD, List.getElem?_eq_getElem (show j < b.length by omega)]]
theorem u8_no {x : UInt8} {q : Nat} (hq : q < 256) (h : x ≠ UInt8.ofNat q) : ((x.toNat : Int) != (q : Int)) = true := by
 rw [bne_iff_ne]
 intro e
 refine h (UInt8.toNat_inj.1 ?_)
 rw [UInt8.toNat_ofNat', Nat.mod_eq_of_lt hq]
 omega
set_option maxHeartbeats 1000000 in
theorem refDecode_short (w : World) (a : Option Addr) (n cap : Nat) (hn : n ≤ 140737488351232) (h : n ≠ 64) :
 Calls Tryz.prog 74 #[.slice a n cap] w fun e w' => ∃ v v', e = .returned (.tuple #[.agg #[v, v'], .int .i64 8]) ∧ OwnI 45 w' w.heap.size v [] ∧ OwnK 3 w' w.heap.size v' [] ∧ Below w.heap.size w w' := by
 have hne : ((n : Int) != 64) = true := bne_iff_ne.2 (by omega)
 obtain ⟨w0, hw0, V, bw0, -⟩ := boxedRow w 139 [.slice none 0 0, .slice none 0 0]
 obtain ⟨z0, z1⟩ := V.two
 have f0 := V.frozen 0
 have f1 := V.frozen 1
 go_enter Tryz.func74, Tryz.ntmps74
 go_wp2
 exact st_ret V bw0 (Nat.le_refl _) _ _ _ rfl rfl rfl Tryz.underlying139 rfl (by kernel_rfl) (fun w' _ b' => ⟨_, _, rfl, OwnI.nil _ _ _, OwnK.nil _ _ _, b'⟩)
set_option maxHeartbeats 1000000 in
theorem refDecode_open (w : World) (a : Option Addr) (cap : Nat) (l : List UInt8) (hcap : 64 ≤ cap) (hnil : a = none → cap = 0) (hB : IsB w a 64 l) (hE : Crc.openE l ≠ 0) :
 Calls Tryz.prog 74 #[.slice a 64 cap] w fun e w' => ∃ v v', e = .returned (.tuple #[.agg #[v, v'], .int .i64 21]) ∧ OwnI 45 w' w.heap.size v [] ∧ OwnK 3 w' w.heap.size v' [] ∧ Below w.heap.size w w' := by
 have HB : Hid (IsB _ _ _ _) := hB
 clear hB
 obtain ⟨w0, hw0, V, bw0, -⟩ := boxedRow w 139 [.slice none 0 0, .slice none 0 0]
 go_enter Tryz.func74, Tryz.ntmps74
 go_wp2_with fail
 refine (refOpen_u _ _ 64 _ l (by decide) hcap (HB.out.below bw0)).mono ?_
 rintro ex w1 ⟨xa, xn, xc, rfl, ho, bw1⟩
 have hEb : (Crc.openE l != 0) = true := bne_iff_ne.2 hE
 have V := V.below bw1
 obtain ⟨z0, z1⟩ := V.two
 have f0 := V.frozen 0
 have f1 := V.frozen 1
 clear ho hE
 go_wp2
 exact st_ret V (on bw0 bw1) (Nat.le_refl _) _ _ _ rfl rfl rfl Tryz.underlying139 rfl (by kernel_rfl) (fun w' _ b' => ⟨_, _, rfl, OwnI.nil _ _ _, OwnK.nil _ _ _, b'⟩)
set_option maxHeartbeats 2000000 in
theorem refDecode_kind (w : World) (a : Option Addr) (cap : Nat) (l : List UInt8) (hcap : 64 ≤ cap) (hnil : a = none → cap = 0) (hB : IsB w a 64 l) (hE : Crc.openE l = 0) (hk : ¬ ((Crc.openL l).getD 0 0 = 1 ∨ (Crc.openL l).getD 0 0 = 2)) :
 Calls Tryz.prog 74 #[.slice a 64 cap] w fun e w' => ∃ v v', e = .returned (.tuple #[.agg #[v, v'], .int .i64 22]) ∧ OwnI 45 w' w.heap.size v [] ∧ OwnK 3 w' w.heap.size v' [] ∧ Below w.heap.size w w' := by
 have hl64 : Hid (l.length = 64) := hB.1
 have HL : Hid ((Crc.openL l).length = 60) := openL60 hB.1 hE
 have HB : Hid (IsB _ _ _ _) := hB
 have HE : Hid _ := hE
 clear hB
 obtain ⟨w0, hw0, V, bw0, -⟩ := boxedRow w 139 [.slice none 0 0, .slice none 0 0]
 go_enter Tryz.func74, Tryz.ntmps74
 go_wp2_with fail
 refine (refOpen_u _ _ 64 _ l (by decide) hcap (HB.out.below bw0)).mono ?_
 rintro ex w1 ⟨xa, xn, xc, rfl, ho, bw1⟩
 rw [hE]
 obtain rfl : xn = 60 := (owns_len ho).trans HL.out
 obtain ⟨hX, hXc, -⟩ := owns_isB ho
 obtain ⟨xb, xo, rfl, -⟩ := hX.place (by decide)
 have HX : Hid (IsB w1 (some ⟨xb, xo, none⟩) 60 (Crc.openL l)) := hX
 have V1 : Hid (Row w1 w.heap.size 139 [.slice none 0 0, .slice none 0 0]) := V.below bw1
 have BW1 : Hid (Below w.heap.size w w1) := on bw0 bw1
 have HB1 : Hid (IsB w1 a 64 l) := (HB.out.below bw0).below bw1
 clear ho hE V bw1 bw0 hX
 have x0 := head_at HX.out 0 (by decide)
 rw [Nat.add_zero] at x0
 obtain ⟨X, hX⟩ : ∃ X, X = (Crc.openL l).getD 0 0 := ⟨_, rfl⟩
 rw [← hX] at x0
 rw [← hX] at hk
 have k1 : ((X.toNat : Int) != 1) = true := u8_no (q := 1) (by decide) (fun e => hk (.inl e))
 have k2 : ((X.toNat : Int) != 2) = true := u8_no (q := 2) (by decide) (fun e => hk (.inr e))
 clear hk hX
 have V := V1.out
 obtain ⟨z0, z1⟩ := V.two
 have f0 := V.frozen 0
 have f1 := V.frozen 1
 go_wp2
 exact st_ret V BW1.out (Nat.le_refl _) _ _ _ rfl rfl rfl Tryz.underlying139 rfl (by kernel_rfl) (fun w' _ b' => ⟨_, _, rfl, OwnI.nil _ _ _, OwnK.nil _ _ _, b'⟩)
set_option maxRecDepth 20000 in
set_option maxHeartbeats 4000000 in
theorem refDecode_in (w : World) (a : Option Addr) (cap : Nat) (l : List UInt8) (hcap : 64 ≤ cap) (hnil : a = none → cap = 0) (hB : IsB w a 64 l) (hE : Crc.openE l = 0) (hk : (Crc.openL l).getD 0 0 = 1 ∨ (Crc.openL l).getD 0 0 = 2) :
 Calls Tryz.prog 74 #[.slice a 64 cap] w fun e w' => ∃ v v', e = .returned (.tuple #[.agg #[v, v'], .int .i64 (Lf.decodeE l)]) ∧ OwnI 45 w' w.heap.size v (Lf.decodeN l).1 ∧ OwnK 3 w' w.heap.size v' (Lf.decodeN l).2 ∧ Below w.heap.size w w' := by
 have HKd : Hid _ := hk
 clear hk
 have hl64 : Hid (l.length = 64) := hB.1
 have HL : Hid ((Crc.openL l).length = 60) := openL60 hB.1 hE
 have HB : Hid (IsB _ _ _ _) := hB
 have HE : Hid _ := hE
 clear hB
 obtain ⟨w0, hw0, V, bw0, -⟩ := boxedRow w 139 [.slice none 0 0, .slice none 0 0]
 go_enter Tryz.func74, Tryz.ntmps74
 go_wp2_with fail
 refine (refOpen_u _ _ 64 _ l (by decide) hcap (HB.out.below bw0)).mono ?_
 rintro ex w1 ⟨xa, xn, xc, rfl, ho, bw1⟩
 rw [hE]
 obtain rfl : xn = 60 := (owns_len ho).trans HL.out
 obtain ⟨hX, hXc, -⟩ := owns_isB ho
 obtain ⟨xb, xo, rfl, -⟩ := hX.place (by decide)
 have HX : Hid (IsB w1 (some ⟨xb, xo, none⟩) 60 (Crc.openL l)) := hX
 have V1 : Hid (Row w1 w.heap.size 139 [.slice none 0 0, .slice none 0 0]) := V.below bw1
 have BW1 : Hid (Below w.heap.size w w1) := on bw0 bw1
 have HB1 : Hid (IsB w1 a 64 l) := (HB.out.below bw0).below bw1
 clear ho hE V bw1 bw0 hX
 have HD : Hid _ := Lf.decode_told hl64.out HE.out HKd.out
 have x0 := head_at HX.out 0 (by decide)
 rw [Nat.add_zero] at x0
 obtain ⟨X, hX⟩ : ∃ X, X = (Crc.openL l).getD 0 0 := ⟨_, rfl⟩
 rw [← hX] at x0
 have HX12 : Hid (X = 1 ∨ X = 2) := by rw [hX]; exact HKd.out
 have k3 : (if ((X.toNat : Int) != 1) = true then ((X.toNat : Int) != 2) else false) = false := by
  rcases HX12.out with h | h <;> rw [h] <;> decide
 clear hX
 have hsplit : X = 1 ∨ X = 2 := HX12.out
 have CONT : True := trivial
 have HLT : Hid (w.heap.size < w1.heap.size) := V1.out.lt
 rcases hsplit with rfl | rfl
 · have x0 : w1.cell? ⟨xb, xo, none⟩ = some (.int .u8 1) := x0
   go_wp2_with fail
   refine (told_u _ _ _ (Crc.openL l) hXc HX.out HKd.out).mono ?_
   rintro ex w2 ⟨v, v', rfl, hoI, hoK, b2⟩
   obtain ⟨ia, ic, rfl, -, -⟩ := hoI.slice
   obtain ⟨ka, kc, rfl, -, -⟩ := hoK.slice
   obtain ⟨il, hil⟩ : ∃ il, il = (Lf.told (Crc.openL l)).1.length := ⟨_, rfl⟩
   obtain ⟨kl, hkl⟩ : ∃ kl, kl = (Lf.told (Crc.openL l)).2.length := ⟨_, rfl⟩
   rw [← hil] at hoI ⊢
   rw [← hkl] at hoK ⊢
   have HOI : Hid _ := hoI
   have HOK : Hid _ := hoK
   have HLI : Hid ((Lf.told (Crc.openL l)).1.length ≤ 255) := (by unfold Hid; rw [Lf.told_len]; have := Lf.many_le (Crc.openL l); omega)
   have HLK : Hid ((Lf.told (Crc.openL l)).2.length ≤ 256) := (by unfold Hid Lf.told; have := Lf.many_le (Crc.openL l); simp only; split <;> simp; omega)
   clear hil hkl hoI hoK
   obtain ⟨w3, hw3, V3, b3, z3⟩ := boxedRow w2 139 [.slice ia il ic, .slice ka kl kc]
   have HV3 : Hid _ := V3
   have R3 : Hid _ := (V1.out.below b2).below b3
   have BW3 : Hid (Below w.heap.size w w3) := on (on BW1.out b2) b3
   have HB3 : Hid (IsB w3 a 64 l) := (HB1.out.below b2).below b3
   have HOI3 : Hid _ := HOI.out.below b3
   have HOK3 : Hid _ := HOK.out.below b3
   obtain ⟨s0, s1⟩ := HV3.out.two
   clear V3 b3 z3 b2 HOI HOK
   go_wp2_with fail
   refine (refEncode_u _ _ _ ia ka il ic kl kc (Lf.told (Crc.openL l)).1 (Lf.told (Crc.openL l)).2 (HOI3.out.rd (by have := HLI.out; omega)) (HOK3.out.rd (by have := HLK.out; omega))).mono ?_
   rintro ex w4 ⟨ya, yn, yc, rfl, hoY, b4⟩
   have HV4 : Hid _ := HV3.out.below b4
   have R4 : Hid _ := R3.out.below b4
   have BW4 : Hid _ := on BW3.out b4
   have HB4 : Hid (IsB w4 a 64 l) := HB3.out.below b4
   have HOI4 : Hid _ := HOI3.out.below b4
   have HOK4 : Hid _ := HOK3.out.below b4
   clear s0 s1 b4 HV3 R3 HB3 HOI3 HOK3 hw3
   obtain ⟨s0, s1⟩ := HV4.out.two
   obtain ⟨z0, z1⟩ := R4.out.two
   have f0 := R4.out.frozen 0
   have f1 := R4.out.frozen 1
   obtain ⟨NN, hNN⟩ : ∃ NN, NN = Lf.told (Crc.openL l) := ⟨_, rfl⟩
   rw [show ((Lf.told (Crc.openL l)).1, (Lf.told (Crc.openL l)).2) = NN from hNN.symm] at hoY ⊢
   rw [← hNN] at HOI4 HOK4 HD
   cases hok : Lf.ok NN
   · have e9 : Lf.encodeE NN = 9 := by unfold Lf.encodeE; rw [hok]; rfl
     have HD2 : Hid _ := HD.out.2 (fun h => by rw [hok] at h; cases h.1)
     rw [e9]
     clear e9 hok hoY hNN
     go_wp2
     rw [HD2.out.1, HD2.out.2]
     exact st_ret R4.out BW4.out (Nat.le_refl _) _ _ _ rfl rfl rfl Tryz.underlying139 rfl (by kernel_rfl) (fun w' _ b' => ⟨_, _, rfl, OwnI.nil _ _ _, OwnK.nil _ _ _, b'⟩)
   · have e0 : Lf.encodeE NN = 0 := if_pos hok
     have eL : Lf.encodeL NN = Lf.enc NN := if_pos hok
     rw [eL] at hoY
     rw [e0]
     have HOKN : Hid _ := hok
     obtain rfl : yn = 64 := (owns_len hoY).trans (Lf.enc_len (Lf.ok_iff.1 hok))
     have HY : Hid (IsB w4 ya 64 (Lf.enc NN)) := (owns_isB hoY).1
     obtain ⟨EE, hEE⟩ : ∃ EE, EE = Lf.enc NN := ⟨_, rfl⟩
     rw [← hEE] at HY HD
     clear e0 eL hok hoY hNN hEE
     have hs1 := conv_bytes w4 ya 64 yc _ HY.out
     have hs2 := conv_bytes w4 a 64 cap _ HB4.out
     cases hc : (EE == l)
     · have hcn : (EE != l) = true := by rw [bne, hc]; rfl
       have hcp : ¬ EE = l := beq_eq_false_iff_ne.1 hc
       have HD2 : Hid _ := HD.out.2 (fun h => hcp h.2)
       clear hcp
       go_wp2
       rw [HD2.out.1, HD2.out.2]
       exact st_ret R4.out BW4.out (Nat.le_refl _) _ _ _ rfl rfl rfl Tryz.underlying139 rfl (by kernel_rfl) (fun w' _ b' => ⟨_, _, rfl, OwnI.nil _ _ _, OwnK.nil _ _ _, b'⟩)
     · have hcn : (EE != l) = false := by rw [bne, hc]; rfl
       have hcp : EE = l := beq_iff_eq.1 hc
       have HD2 : Hid _ := HD.out.1 ⟨HOKN.out, hcp⟩
       clear hcp
       go_wp2
       rw [HD2.out.1, HD2.out.2]
       exact st_ret R4.out BW4.out (Nat.le_refl _) _ _ _ rfl rfl rfl Tryz.underlying139 rfl (by kernel_rfl) (fun w' k' b' => ⟨_, _, rfl, (HOI4.out.keptL k' HLT.out).mono BW1.out.size, (HOK4.out.keptL k' HLT.out).mono BW1.out.size, b'⟩)
 · have x0 : w1.cell? ⟨xb, xo, none⟩ = some (.int .u8 2) := x0
   go_wp2_with fail
   refine (told_u _ _ _ (Crc.openL l) hXc HX.out HKd.out).mono ?_
   rintro ex w2 ⟨v, v', rfl, hoI, hoK, b2⟩
   obtain ⟨ia, ic, rfl, -, -⟩ := hoI.slice
   obtain ⟨ka, kc, rfl, -, -⟩ := hoK.slice
   obtain ⟨il, hil⟩ : ∃ il, il = (Lf.told (Crc.openL l)).1.length := ⟨_, rfl⟩
   obtain ⟨kl, hkl⟩ : ∃ kl, kl = (Lf.told (Crc.openL l)).2.length := ⟨_, rfl⟩
   rw [← hil] at hoI ⊢
   rw [← hkl] at hoK ⊢
   have HOI : Hid _ := hoI
   have HOK : Hid _ := hoK
   have HLI : Hid ((Lf.told (Crc.openL l)).1.length ≤ 255) := (by unfold Hid; rw [Lf.told_len]; have := Lf.many_le (Crc.openL l); omega)
   have HLK : Hid ((Lf.told (Crc.openL l)).2.length ≤ 256) := (by unfold Hid Lf.told; have := Lf.many_le (Crc.openL l); simp only; split <;> simp; omega)
   clear hil hkl hoI hoK
   obtain ⟨w3, hw3, V3, b3, z3⟩ := boxedRow w2 139 [.slice ia il ic, .slice ka kl kc]
   have HV3 : Hid _ := V3
   have R3 : Hid _ := (V1.out.below b2).below b3
   have BW3 : Hid (Below w.heap.size w w3) := on (on BW1.out b2) b3
   have HB3 : Hid (IsB w3 a 64 l) := (HB1.out.below b2).below b3
   have HOI3 : Hid _ := HOI.out.below b3
   have HOK3 : Hid _ := HOK.out.below b3
   obtain ⟨s0, s1⟩ := HV3.out.two
   clear V3 b3 z3 b2 HOI HOK
   go_wp2_with fail
   refine (refEncode_u _ _ _ ia ka il ic kl kc (Lf.told (Crc.openL l)).1 (Lf.told (Crc.openL l)).2 (HOI3.out.rd (by have := HLI.out; omega)) (HOK3.out.rd (by have := HLK.out; omega))).mono ?_
   rintro ex w4 ⟨ya, yn, yc, rfl, hoY, b4⟩
   have HV4 : Hid _ := HV3.out.below b4
   have R4 : Hid _ := R3.out.below b4
   have BW4 : Hid _ := on BW3.out b4
   have HB4 : Hid (IsB w4 a 64 l) := HB3.out.below b4
   have HOI4 : Hid _ := HOI3.out.below b4
   have HOK4 : Hid _ := HOK3.out.below b4
   clear s0 s1 b4 HV3 R3 HB3 HOI3 HOK3 hw3
   obtain ⟨s0, s1⟩ := HV4.out.two
   obtain ⟨z0, z1⟩ := R4.out.two
   have f0 := R4.out.frozen 0
   have f1 := R4.out.frozen 1
   obtain ⟨NN, hNN⟩ : ∃ NN, NN = Lf.told (Crc.openL l) := ⟨_, rfl⟩
   rw [show ((Lf.told (Crc.openL l)).1, (Lf.told (Crc.openL l)).2) = NN from hNN.symm] at hoY ⊢
   rw [← hNN] at HOI4 HOK4 HD
   cases hok : Lf.ok NN
   · have e9 : Lf.encodeE NN = 9 := by unfold Lf.encodeE; rw [hok]; rfl
     have HD2 : Hid _ := HD.out.2 (fun h => by rw [hok] at h; cases h.1)
     rw [e9]
     clear e9 hok hoY hNN
     go_wp2
     rw [HD2.out.1, HD2.out.2]
     exact st_ret R4.out BW4.out (Nat.le_refl _) _ _ _ rfl rfl rfl Tryz.underlying139 rfl (by kernel_rfl) (fun w' _ b' => ⟨_, _, rfl, OwnI.nil _ _ _, OwnK.nil _ _ _, b'⟩)
   · have e0 : Lf.encodeE NN = 0 := if_pos hok
     have eL : Lf.encodeL NN = Lf.enc NN := if_pos hok
     rw [eL] at hoY
     rw [e0]
     have HOKN : Hid _ := hok
     obtain rfl : yn = 64 := (owns_len hoY).trans (Lf.enc_len (Lf.ok_iff.1 hok))
     have HY : Hid (IsB w4 ya 64 (Lf.enc NN)) := (owns_isB hoY).1
     obtain ⟨EE, hEE⟩ : ∃ EE, EE = Lf.enc NN := ⟨_, rfl⟩
     rw [← hEE] at HY HD
     clear e0 eL hok hoY hNN hEE
     have hs1 := conv_bytes w4 ya 64 yc _ HY.out
     have hs2 := conv_bytes w4 a 64 cap _ HB4.out
     cases hc : (EE == l)
     · have hcn : (EE != l) = true := by rw [bne, hc]; rfl
       have hcp : ¬ EE = l := beq_eq_false_iff_ne.1 hc
       have HD2 : Hid _ := HD.out.2 (fun h => hcp h.2)
       clear hcp
       go_wp2
       rw [HD2.out.1, HD2.out.2]
       exact st_ret R4.out BW4.out (Nat.le_refl _) _ _ _ rfl rfl rfl Tryz.underlying139 rfl (by kernel_rfl) (fun w' _ b' => ⟨_, _, rfl, OwnI.nil _ _ _, OwnK.nil _ _ _, b'⟩)
     · have hcn : (EE != l) = false := by rw [bne, hc]; rfl
       have hcp : EE = l := beq_iff_eq.1 hc
       have HD2 : Hid _ := HD.out.1 ⟨HOKN.out, hcp⟩
       clear hcp
       go_wp2
       rw [HD2.out.1, HD2.out.2]
       exact st_ret R4.out BW4.out (Nat.le_refl _) _ _ _ rfl rfl rfl Tryz.underlying139 rfl (by kernel_rfl) (fun w' k' b' => ⟨_, _, rfl, (HOI4.out.keptL k' HLT.out).mono BW1.out.size, (HOK4.out.keptL k' HLT.out).mono BW1.out.size, b'⟩)
theorem refDecode_u (w : World) (a : Option Addr) (n cap : Nat) (l : List UInt8) (hn : n ≤ 140737488351232) (hcap : n ≤ cap) (hnil : a = none → cap = 0) (hB : IsB w a n l) :
 Calls Tryz.prog 74 #[.slice a n cap] w fun e w' => ∃ v v', e = .returned (.tuple #[.agg #[v, v'], .int .i64 (Lf.decodeE l)]) ∧ OwnI 45 w' w.heap.size v (Lf.decodeN l).1 ∧ OwnK 3 w' w.heap.size v' (Lf.decodeN l).2 ∧ Below w.heap.size w w' := by
 have hl := hB.1
 by_cases h : n = 64
 · subst h
   by_cases hE : Crc.openE l = 0
   · by_cases hk : (Crc.openL l).getD 0 0 = 1 ∨ (Crc.openL l).getD 0 0 = 2
     · exact refDecode_in w a cap l hcap hnil hB hE hk
     · rw [(Lf.decode_kind hl hE hk).1, (Lf.decode_kind hl hE hk).2]
       exact refDecode_kind w a cap l hcap hnil hB hE hk
   · rw [(Lf.decode_refused hl hE).1, (Lf.decode_refused hl hE).2]
     exact refDecode_open w a cap l hcap hnil hB hE
 · rw [(Lf.decode_length (b := l) (by omega)).1, (Lf.decode_length (b := l) (by omega)).2]
   exact refDecode_short w a n cap hn h
def NodeDone (s : Pgs) (f : Nat) (g gm : Nat) (P : Nat → Prop) (pa : Option Addr) (pc : Nat) (oa : Option Addr) (on_ oc base : Nat) (k : Tr.Wk) (p : Int) (lo hi : Bnd) (w : World) (e : Ending) (w' : World) : Prop :=
 ∃ oa' on' oc', e = .returned (.tuple #[]) ∧ Walks w' g gm P pa pc oa' on' oc' base s (Tr.node s f p lo hi k) ∧ Quiet g gm oa on_ oc w w' ∧ ∀ q, (Value.slice oa' on' oc').ownBlock = some q → (Value.slice oa on_ oc).ownBlock = some q ∨ w.heap.size ≤ q
theorem NodeDone.of {s : Pgs} {f : Nat} {g gm : Nat} {P : Nat → Prop} {pa : Option Addr} {pc : Nat} {oa : Option Addr} {on_ oc base : Nat} {k : Tr.Wk} {p : Int} {lo hi : Bnd} {w : World} {e : Ending} {w' : World}
 (h : ∃ oa' on' oc', e = .returned (.tuple #[]) ∧ Walks w' g gm P pa pc oa' on' oc' base s (Tr.node s f p lo hi k) ∧ Quiet g gm oa on_ oc w w' ∧ ∀ q, (Value.slice oa' on' oc').ownBlock = some q → (Value.slice oa on_ oc).ownBlock = some q ∨ w.heap.size ≤ q) : NodeDone s f g gm P pa pc oa on_ oc base k p lo hi w e w' := h
def NodeSaid (s : Pgs) (f : Nat) : Prop := ∀ (w : World) (B g gm : Nat) (P : Nat → Prop) (pa : Option Addr) (pc : Nat) (oa : Option Addr) (on_ oc base : Nat) (k : Tr.Wk) (p : Int) (lv : Int) (lo hi : Bnd) (va vb : Value),
 lv = 17 - (f : Int) → Apart P B g gm base → Walks w g gm P pa pc oa on_ oc base s k → IsBnd w va lo → IsBnd w vb hi → (∀ q, va.ownBlock = some q ∨ vb.ownBlock = some q → q ≠ g ∧ q ≠ gm ∧ (Value.slice oa on_ oc).ownBlock ≠ some q) → base ≤ w.heap.size → -9223372036854775808 ≤ p → p ≤ 9223372036854775807 →
 Calls Tryz.prog 61 #[.pointer (some ⟨g, 0, none⟩), .int .i64 p, .int .i64 lv, va, vb] w fun e w' => NodeDone s f g gm P pa pc oa on_ oc base k p lo hi w e w'
theorem Quiet.bad {w : World} {g gm : Nat} {oa : Option Addr} {on_ oc : Nat} (x : Value) (j : Nat) : Quiet g gm oa on_ oc w (w.setCell ⟨g, j, none⟩ x) := (Kept.refl _ w).setCell (p := ⟨g, j, none⟩) (fun h => h.2.1 rfl) x
set_option maxRecDepth 20000 in
set_option maxHeartbeats 2000000 in
theorem node_zero (s : Pgs) (hs : s.length ≤ 2048) : NodeSaid s 0 := by
 intro w B g gm P pa pc oa on_ oc base k p lv lo hi va vb hlv hA hW hVa hVb hFr hbs hp0 hp1
 have A : Hid _ := hA
 have H : Hid _ := hW
 have HVa : Hid (IsBnd w va lo) := hVa
 have HVb : Hid (IsBnd w vb hi) := hVb
 have HFr : Hid _ := hFr
 have HBs : Hid (base ≤ w.heap.size) := hbs
 obtain ⟨c0, c1, c2, c3, c4⟩ := hW.five
 have f4 := hW.row.frozen 4
 have hlen : s.length ≤ 2048 := hs
 clear hA hW hVa hVb hFr hbs
 have hlz : lv > 16 := by omega
 clear hlv
 have HEq : Hid (Tr.node s 0 p lo hi k = { k with bad := true }) := rfl
 cases hb : k.bad
 · rw [hb] at c4
   clear hb
   go_enter Tryz.func61, Tryz.ntmps61
   go_wp2
   (try simp only [Exit.inBlock, Exit.then])
   refine bodyPost_ret (results_none rfl _ _ _) rfl ?_
   exact NodeDone.of ⟨oa, on_, oc, rfl, by rw [HEq.out]; exact H.out.setBad A.out true, Quiet.bad _ _, fun q hq => .inl hq⟩
 · rw [hb] at c4
   clear hb
   go_enter Tryz.func61, Tryz.ntmps61
   go_wp2
   (try simp only [Exit.inBlock, Exit.then])
   refine bodyPost_ret (results_none rfl _ _ _) rfl ?_
   exact NodeDone.of ⟨oa, on_, oc, rfl, by rw [HEq.out]; exact H.out.setBad A.out true, Quiet.bad _ _, fun q hq => .inl hq⟩
set_option maxRecDepth 20000 in
set_option maxHeartbeats 4000000 in
theorem node_shut (s : Pgs) (hs : s.length ≤ 2048) (f : Nat) (hf : f < 16) (w : World) (B g gm : Nat) (P : Nat → Prop) (pa : Option Addr) (pc : Nat) (oa : Option Addr) (on_ oc base : Nat) (k : Tr.Wk) (p : Int) (lv : Int) (lo hi : Bnd) (va vb : Value)
 (hlv : lv = 17 - ((f + 1 : Nat) : Int)) (hA : Apart P B g gm base) (hW : Walks w g gm P pa pc oa on_ oc base s k) (hp0 : -9223372036854775808 ≤ p) (hp1 : p ≤ 9223372036854775807) (ho : Tr.open_ s p k = false) :
 Calls Tryz.prog 61 #[.pointer (some ⟨g, 0, none⟩), .int .i64 p, .int .i64 lv, va, vb] w fun e w' => NodeDone s (f + 1) g gm P pa pc oa on_ oc base k p lo hi w e w' := by
 have A : Hid _ := hA
 have H : Hid _ := hW
 obtain ⟨c0, c1, c2, c3, c4⟩ := hW.five
 have f4 := hW.row.frozen 4
 have hlen : s.length ≤ 2048 := hs
 have hlz : ¬ lv > 16 := by omega
 have HEq : Hid (Tr.node s (f + 1) p lo hi k = { k with bad := true }) := by unfold Hid Tr.node; rw [ho]; rfl
 have HO : Hid (¬ (k.bad = false ∧ 1 ≤ p ∧ p ≤ s.length ∧ k.met.getD (p.toNat - 1) false = false)) := fun h => by rw [Tr.open_iff.2 h] at ho; cases ho
 have HM : Hid (∀ q : Nat, q < s.length → w.cell? ⟨gm, q, none⟩ = some (.bool (k.met.getD q false))) := fun q hq => by
  have hq' : q < k.met.length := by rw [hW.len]; exact hq
  refine hW.met.cell ?_
  simp [boolCells, List.getD, List.getElem?_eq_getElem hq']
 clear hA hW hlv ho
 cases hb : k.bad
 · rw [hb] at c4
   by_cases p1 : p < 1
   · clear hb
     go_enter Tryz.func61, Tryz.ntmps61
     go_wp2
     (try simp only [Exit.inBlock, Exit.then])
     refine bodyPost_ret (results_none rfl _ _ _) rfl ?_
     exact NodeDone.of ⟨oa, on_, oc, rfl, by rw [HEq.out]; exact H.out.setBad A.out true, Quiet.bad _ _, fun q hq => .inl hq⟩
   · by_cases p2 : p > (s.length : Int)
     · clear hb
       go_enter Tryz.func61, Tryz.ntmps61
       go_wp2
       (try simp only [Exit.inBlock, Exit.then])
       refine bodyPost_ret (results_none rfl _ _ _) rfl ?_
       exact NodeDone.of ⟨oa, on_, oc, rfl, by rw [HEq.out]; exact H.out.setBad A.out true, Quiet.bad _ _, fun q hq => .inl hq⟩
     · have hm : k.met.getD (p.toNat - 1) false = true := by
        cases hx : k.met.getD (p.toNat - 1) false with
        | true => rfl
        | false => exact absurd ⟨hb, by omega, by omega, hx⟩ HO.out
       have hc := HM.out (p.toNat - 1) (by omega)
       rw [hm] at hc
       have k1z : (p - 1).toNat = p.toNat - 1 := by omega
       have k2z : (0 : Int) ≤ p - 1 := by omega
       have k3z : p - 1 < (s.length : Int) := by omega
       clear hb hm
       go_enter Tryz.func61, Tryz.ntmps61
       go_wp2
       (try simp only [Exit.inBlock, Exit.then])
       refine bodyPost_ret (results_none rfl _ _ _) rfl ?_
       exact NodeDone.of ⟨oa, on_, oc, rfl, by rw [HEq.out]; exact H.out.setBad A.out true, Quiet.bad _ _, fun q hq => .inl hq⟩
 · rw [hb] at c4
   clear hb
   go_enter Tryz.func61, Tryz.ntmps61
   go_wp2
   (try simp only [Exit.inBlock, Exit.then])
   refine bodyPost_ret (results_none rfl _ _ _) rfl ?_
   exact NodeDone.of ⟨oa, on_, oc, rfl, by rw [HEq.out]; exact H.out.setBad A.out true, Quiet.bad _ _, fun q hq => .inl hq⟩
end Go.Proofs.YtkbmadoaomoojaaGreat
