/-
  The landed free: Take and Free, at whatever state and span. Conditions: those that each contract names.
-/
import Derived.Test.YtbbjbajdoekheaaYC
import Derived.Test.YtbbjbajdoekheaaYF
import Derived.Test.YtbbjbajdoekheaaYV
import Derived.Test.YtbbjbajdoekheaaFSaid
namespace Go.Proofs.Ytbbjbajdoekheaa
open Go.RowKit
set_option linter.unusedVariables false

set_option maxRecDepth 20000 in
set_option maxHeartbeats 4000000 in
theorem freeTake_u (w : World) (P : Nat → Prop) (z : Int) (a : Option Addr) (n c : Nat) (l : List Spn) (hL : rSpns.rd w P [.slice a n c] l) (x : Spn) (hx : In2 x) :
    Calls Try.prog 14 #[.agg #[.int .i64 z, .slice a n c], .agg #[.int .i64 x.1, .int .i64 x.2]] w fun e w' => ∃ v, e = .returned (.tuple #[.agg #[.int .i64 (Fr.takeZ z l x), v], .int .i64 (Fr.takeE z l x)]) ∧ OwnS 26 w' w.heap.size v (Fr.takeL z l x) ∧ Below w.heap.size w w' := by
  have HR : Hid _ := hL
  have HX : Hid (In2 x) := hx
  obtain ⟨w0, hw0, V0, b0, z0⟩ := boxedRow w 27 [.int .i64 z, .slice a n c]
  obtain ⟨w1, hw1, V1, b1, z1⟩ := boxedRow w0 26 [.int .i64 x.1, .int .i64 x.2]
  obtain ⟨w2, hw2, V2, b2, z2⟩ := boxedRow w1 27 [.int .i64 0, .slice none 0 0]
  rw [z0] at V1 z1
  rw [z1] at V2
  have B2 : Hid (Below w.heap.size w w2) := on (on b0 b1) b2
  have HV0 : Hid (Row w2 w.heap.size 27 [.int .i64 z, .slice a n c]) := (V0.below b1).below b2
  have HV1 : Hid (Row w2 (w.heap.size + 1) 26 [.int .i64 x.1, .int .i64 x.2]) := V1.below b2
  have HV2 : Hid (Row w2 (w.heap.size + 1 + 1) 27 [.int .i64 0, .slice none 0 0]) := V2
  obtain ⟨d0, d1⟩ := HV0.out.two
  obtain ⟨d2, d3⟩ := HV1.out.two
  clear hL hx V0 V1 V2 b0 b1 b2 z2
  obtain ⟨q, hq⟩ : ∃ q, Fr.spanE z l x = q := ⟨_, rfl⟩
  have HQ : Hid (Fr.spanE z l x = q) := hq
  by_cases hq0 : q = 0
  · subst hq0
    obtain ⟨hO, hI⟩ := Fr.spanE_zero.1 hq
    have HO : Hid (Fr.Ok z l) := hO
    have HI : Hid (Fr.Inside x z) := hI
    have HXE : Hid (In64 (x.1 + x.2)) := by unfold Hid In64; have := hO.high; omega
    have HMid : Hid (∀ y ∈ l, In64 (y.1 + y.2)) := fun y hy => by have := hO.mid y hy; unfold Fr.Mid at this; unfold In64; omega
    have HSaid : Hid _ := Fr.take_said hq
    clear hO hI hq
    cases hw' : Fr.whole l x
    · have HW : Hid (Fr.whole l x = false) := hw'
      clear hw'
      obtain ⟨t1, t2, t3⟩ := HSaid.out.2 HW.out
      rw [t1, t2, t3]
      clear t1 t2 t3
      go_enter Try.func14, Try.ntmps14
      go_wp2_with fail
      refine (checkSpan_u _ P z a n c l (Rep.below HR.out B2.out) x HX.out _ HQ.out).mono ?_
      rintro e w3 ⟨rfl, b3⟩
      have B3 : Hid (Below w.heap.size w w3) := on B2.out b3
      have HW0 : Hid (Row w3 w.heap.size 27 [.int .i64 z, .slice a n c]) := HV0.out.below b3
      have HW1 : Hid (Row w3 (w.heap.size + 1) 26 [.int .i64 x.1, .int .i64 x.2]) := HV1.out.below b3
      have HW2 : Hid (Row w3 (w.heap.size + 1 + 1) 27 [.int .i64 0, .slice none 0 0]) := HV2.out.below b3
      obtain ⟨f0, f1⟩ := HW0.out.two
      clear b3
      go_wp2_with fail
      refine (containsFunc_u 38 #[.pointer (some ⟨w.heap.size + 1, 0, none⟩)] (enters_of Try.func38 (by kernel_rfl) rfl) w3 P a n c l (Rep.below HR.out B3.out) (fun y => decide (y.1 ≤ x.1) && decide (x.1 + x.2 ≤ y.1 + y.2)) (fun wq hbq y hy => takeAsk_u wq _ x y HXE.out (HMid.out y hy) (HW1.out.below hbq)) _ HW.out).mono ?_
      rintro e w4 ⟨rfl, b4⟩
      have B4 : Hid (Below w.heap.size w w4) := on B3.out b4
      have HX0 : Hid (Row w4 w.heap.size 27 [.int .i64 z, .slice a n c]) := HW0.out.below b4
      have HX1 : Hid (Row w4 (w.heap.size + 1) 26 [.int .i64 x.1, .int .i64 x.2]) := HW1.out.below b4
      have HX2 : Hid (Row w4 (w.heap.size + 1 + 1) 27 [.int .i64 0, .slice none 0 0]) := HW2.out.below b4
      obtain ⟨r0, r1⟩ := HX2.out.two
      have r2 := HX2.out.frozen 0
      have r3 := HX2.out.frozen 1
      have BR : Hid (Below w.heap.size w w4) := B4.out
      have HVR : Hid (Row w4 (w.heap.size + 1 + 1) 27 [.int .i64 0, .slice none 0 0]) := HX2.out
      clear b4
      go_wp2
      refine st_ret HVR.out BR.out (by omega) _ _ _ rfl rfl rfl Try.underlying27 rfl (by kernel_rfl) ?_
      intro w' K' B'
      exact ⟨_, rfl, OwnS.nil _ _ _, B'⟩
    · have HW : Hid (Fr.whole l x = true) := hw'
      clear hw'
      obtain ⟨t1, t2, t3⟩ := HSaid.out.1 HW.out
      rw [t1, t2, t3]
      clear t1 t2 t3
      go_enter Try.func14, Try.ntmps14
      go_wp2_with fail
      refine (checkSpan_u _ P z a n c l (Rep.below HR.out B2.out) x HX.out _ HQ.out).mono ?_
      rintro e w3 ⟨rfl, b3⟩
      have B3 : Hid (Below w.heap.size w w3) := on B2.out b3
      have HW0 : Hid (Row w3 w.heap.size 27 [.int .i64 z, .slice a n c]) := HV0.out.below b3
      have HW1 : Hid (Row w3 (w.heap.size + 1) 26 [.int .i64 x.1, .int .i64 x.2]) := HV1.out.below b3
      have HW2 : Hid (Row w3 (w.heap.size + 1 + 1) 27 [.int .i64 0, .slice none 0 0]) := HV2.out.below b3
      obtain ⟨f0, f1⟩ := HW0.out.two
      clear b3
      go_wp2_with fail
      refine (containsFunc_u 38 #[.pointer (some ⟨w.heap.size + 1, 0, none⟩)] (enters_of Try.func38 (by kernel_rfl) rfl) w3 P a n c l (Rep.below HR.out B3.out) (fun y => decide (y.1 ≤ x.1) && decide (x.1 + x.2 ≤ y.1 + y.2)) (fun wq hbq y hy => takeAsk_u wq _ x y HXE.out (HMid.out y hy) (HW1.out.below hbq)) _ HW.out).mono ?_
      rintro e w4 ⟨rfl, b4⟩
      have B4 : Hid (Below w.heap.size w w4) := on B3.out b4
      have HX0 : Hid (Row w4 w.heap.size 27 [.int .i64 z, .slice a n c]) := HW0.out.below b4
      have HX1 : Hid (Row w4 (w.heap.size + 1) 26 [.int .i64 x.1, .int .i64 x.2]) := HW1.out.below b4
      have HX2 : Hid (Row w4 (w.heap.size + 1 + 1) 27 [.int .i64 0, .slice none 0 0]) := HW2.out.below b4
      have HWR : Hid _ := take2_writes w4 P z a n c l (Rep.below HR.out B4.out) HO.out x HI.out w.heap.size (w.heap.size + 1) HX0.out HX1.out
      obtain ⟨s0, s1⟩ := HX0.out.two
      clear b4
      go_wp2_with fail
      refine (laid_u w4 _ _ (enters_of Try.func41 (by kernel_rfl) rfl) z _ _ (Fr.taken_laid HO.out.fit HI.out) HWR.out).mono ?_
      rintro e w5 ⟨v5, rfl, ho5, b5⟩
      have BR : Hid (Below w.heap.size w w5) := on B4.out b5
      have HVR : Hid (Row w5 (w.heap.size + 1 + 1) 27 [.int .i64 0, .slice none 0 0]) := HX2.out.below b5
      have HO5 : Hid (OwnS _ _ _ _ _) := ho5
      have HZ5 : Hid (w.heap.size + 1 + 1 < w4.heap.size) := HX2.out.lt
      obtain ⟨a5, c5, rfl, -, -⟩ := ho5.slice
      obtain ⟨r0, r1⟩ := HVR.out.two
      have r2 := HVR.out.frozen 0
      have r3 := HVR.out.frozen 1
      clear ho5 b5
      go_wp2
      refine st_ret HVR.out BR.out (by omega) _ _ _ rfl rfl rfl Try.underlying27 rfl (by kernel_rfl) ?_
      intro w' K' B'
      exact ⟨_, rfl, (HO5.out.kept K' HZ5.out).mono B4.out.size, B'⟩
  · obtain ⟨t1, t2, t3⟩ := Fr.take_not hq hq0
    rw [t1, t2, t3]
    have hq' : (q == 0) = false := beq_eq_false_iff_ne.2 hq0
    clear hq t1 t2 t3
    go_enter Try.func14, Try.ntmps14
    go_wp2_with fail
    refine (checkSpan_u _ P z a n c l (Rep.below HR.out B2.out) x HX.out _ HQ.out).mono ?_
    rintro e w3 ⟨rfl, b3⟩
    have BR : Hid (Below w.heap.size w w3) := on B2.out b3
    have HVR : Hid (Row w3 (w.heap.size + 1 + 1) 27 [.int .i64 0, .slice none 0 0]) := HV2.out.below b3
    obtain ⟨r0, r1⟩ := HVR.out.two
    have r2 := HVR.out.frozen 0
    have r3 := HVR.out.frozen 1
    clear b3
    go_wp2
    refine st_ret HVR.out BR.out (by omega) _ _ _ rfl rfl rfl Try.underlying27 rfl (by kernel_rfl) ?_
    intro w' K' B'
    exact ⟨_, rfl, OwnS.nil _ _ _, B'⟩

set_option maxRecDepth 20000 in
set_option maxHeartbeats 4000000 in
theorem freeFree_u (w : World) (P : Nat → Prop) (z : Int) (a : Option Addr) (n c : Nat) (l : List Spn) (hL : rSpns.rd w P [.slice a n c] l) (x : Spn) (hx : In2 x) :
    Calls Try.prog 16 #[.agg #[.int .i64 z, .slice a n c], .agg #[.int .i64 x.1, .int .i64 x.2]] w fun e w' => ∃ v, e = .returned (.tuple #[.agg #[.int .i64 (Fr.freeZ z l x), v], .int .i64 (Fr.freeE z l x)]) ∧ OwnS 26 w' w.heap.size v (Fr.freeL z l x) ∧ Below w.heap.size w w' := by
  have HR : Hid _ := hL
  have HX : Hid (In2 x) := hx
  obtain ⟨w0, hw0, V0, b0, z0⟩ := boxedRow w 27 [.int .i64 z, .slice a n c]
  obtain ⟨w1, hw1, V1, b1, z1⟩ := boxedRow w0 26 [.int .i64 x.1, .int .i64 x.2]
  obtain ⟨w2, hw2, V2, b2, z2⟩ := boxedRow w1 27 [.int .i64 0, .slice none 0 0]
  rw [z0] at V1 z1
  rw [z1] at V2
  have B2 : Hid (Below w.heap.size w w2) := on (on b0 b1) b2
  have HV0 : Hid (Row w2 w.heap.size 27 [.int .i64 z, .slice a n c]) := (V0.below b1).below b2
  have HV1 : Hid (Row w2 (w.heap.size + 1) 26 [.int .i64 x.1, .int .i64 x.2]) := V1.below b2
  have HV2 : Hid (Row w2 (w.heap.size + 1 + 1) 27 [.int .i64 0, .slice none 0 0]) := V2
  obtain ⟨d0, d1⟩ := HV0.out.two
  obtain ⟨d2, d3⟩ := HV1.out.two
  clear hL hx V0 V1 V2 b0 b1 b2 z2
  obtain ⟨q, hq⟩ : ∃ q, Fr.spanE z l x = q := ⟨_, rfl⟩
  have HQ : Hid (Fr.spanE z l x = q) := hq
  by_cases hq0 : q = 0
  · subst hq0
    obtain ⟨hO, hI⟩ := Fr.spanE_zero.1 hq
    have HO : Hid (Fr.Ok z l) := hO
    have HI : Hid (Fr.Inside x z) := hI
    have HXE : Hid (In64 (x.1 + x.2)) := by unfold Hid In64; have := hO.high; omega
    have HMid : Hid (∀ y ∈ l, In64 (y.1 + y.2)) := fun y hy => by have := hO.mid y hy; unfold Fr.Mid at this; unfold In64; omega
    have HSaid : Hid _ := Fr.free_said hq
    clear hO hI hq
    cases hw' : l.any (fun y => decide (y.1 < x.1 + x.2) && decide (x.1 < y.1 + y.2))
    · have HW : Hid (l.any (fun y => decide (y.1 < x.1 + x.2) && decide (x.1 < y.1 + y.2)) = false) := hw'
      clear hw'
      obtain ⟨t1, t2, t3⟩ := HSaid.out.1 ((Fr.some_turned l x).symm.trans HW.out)
      rw [t1, t2, t3]
      clear t1 t2 t3
      go_enter Try.func16, Try.ntmps16
      go_wp2_with fail
      refine (checkSpan_u _ P z a n c l (Rep.below HR.out B2.out) x HX.out _ HQ.out).mono ?_
      rintro e w3 ⟨rfl, b3⟩
      have B3 : Hid (Below w.heap.size w w3) := on B2.out b3
      have HW0 : Hid (Row w3 w.heap.size 27 [.int .i64 z, .slice a n c]) := HV0.out.below b3
      have HW1 : Hid (Row w3 (w.heap.size + 1) 26 [.int .i64 x.1, .int .i64 x.2]) := HV1.out.below b3
      have HW2 : Hid (Row w3 (w.heap.size + 1 + 1) 27 [.int .i64 0, .slice none 0 0]) := HV2.out.below b3
      obtain ⟨f0, f1⟩ := HW0.out.two
      clear b3
      go_wp2_with fail
      refine (containsFunc_u 46 #[.pointer (some ⟨w.heap.size + 1, 0, none⟩)] (enters_of Try.func46 (by kernel_rfl) rfl) w3 P a n c l (Rep.below HR.out B3.out) (fun y => decide (y.1 < x.1 + x.2) && decide (x.1 < y.1 + y.2)) (fun wq hbq y hy => freeAsk_u wq _ x y HXE.out (HMid.out y hy) (HW1.out.below hbq)) _ HW.out).mono ?_
      rintro e w4 ⟨rfl, b4⟩
      have B4 : Hid (Below w.heap.size w w4) := on B3.out b4
      have HX0 : Hid (Row w4 w.heap.size 27 [.int .i64 z, .slice a n c]) := HW0.out.below b4
      have HX1 : Hid (Row w4 (w.heap.size + 1) 26 [.int .i64 x.1, .int .i64 x.2]) := HW1.out.below b4
      have HX2 : Hid (Row w4 (w.heap.size + 1 + 1) 27 [.int .i64 0, .slice none 0 0]) := HW2.out.below b4
      have HWR : Hid _ := free2_writes w4 P z a n c l (Rep.below HR.out B4.out) HO.out x HI.out w.heap.size (w.heap.size + 1) HX0.out HX1.out
      obtain ⟨s0, s1⟩ := HX0.out.two
      clear b4
      go_wp2_with fail
      refine (laid_u w4 _ _ (enters_of Try.func47 (by kernel_rfl) rfl) z _ _ (Fr.freed_laid HO.out.fit HI.out ((Fr.some_turned l x).symm.trans HW.out)) HWR.out).mono ?_
      rintro e w5 ⟨v5, rfl, ho5, b5⟩
      have BR : Hid (Below w.heap.size w w5) := on B4.out b5
      have HVR : Hid (Row w5 (w.heap.size + 1 + 1) 27 [.int .i64 0, .slice none 0 0]) := HX2.out.below b5
      have HO5 : Hid (OwnS _ _ _ _ _) := ho5
      have HZ5 : Hid (w.heap.size + 1 + 1 < w4.heap.size) := HX2.out.lt
      obtain ⟨a5, c5, rfl, -, -⟩ := ho5.slice
      obtain ⟨r0, r1⟩ := HVR.out.two
      have r2 := HVR.out.frozen 0
      have r3 := HVR.out.frozen 1
      clear ho5 b5
      go_wp2
      refine st_ret HVR.out BR.out (by omega) _ _ _ rfl rfl rfl Try.underlying27 rfl (by kernel_rfl) ?_
      intro w' K' B'
      exact ⟨_, rfl, (HO5.out.kept K' HZ5.out).mono B4.out.size, B'⟩
    · have HW : Hid (l.any (fun y => decide (y.1 < x.1 + x.2) && decide (x.1 < y.1 + y.2)) = true) := hw'
      clear hw'
      obtain ⟨t1, t2, t3⟩ := HSaid.out.2 ((Fr.some_turned l x).symm.trans HW.out)
      rw [t1, t2, t3]
      clear t1 t2 t3
      go_enter Try.func16, Try.ntmps16
      go_wp2_with fail
      refine (checkSpan_u _ P z a n c l (Rep.below HR.out B2.out) x HX.out _ HQ.out).mono ?_
      rintro e w3 ⟨rfl, b3⟩
      have B3 : Hid (Below w.heap.size w w3) := on B2.out b3
      have HW0 : Hid (Row w3 w.heap.size 27 [.int .i64 z, .slice a n c]) := HV0.out.below b3
      have HW1 : Hid (Row w3 (w.heap.size + 1) 26 [.int .i64 x.1, .int .i64 x.2]) := HV1.out.below b3
      have HW2 : Hid (Row w3 (w.heap.size + 1 + 1) 27 [.int .i64 0, .slice none 0 0]) := HV2.out.below b3
      obtain ⟨f0, f1⟩ := HW0.out.two
      clear b3
      go_wp2_with fail
      refine (containsFunc_u 46 #[.pointer (some ⟨w.heap.size + 1, 0, none⟩)] (enters_of Try.func46 (by kernel_rfl) rfl) w3 P a n c l (Rep.below HR.out B3.out) (fun y => decide (y.1 < x.1 + x.2) && decide (x.1 < y.1 + y.2)) (fun wq hbq y hy => freeAsk_u wq _ x y HXE.out (HMid.out y hy) (HW1.out.below hbq)) _ HW.out).mono ?_
      rintro e w4 ⟨rfl, b4⟩
      have B4 : Hid (Below w.heap.size w w4) := on B3.out b4
      have HX0 : Hid (Row w4 w.heap.size 27 [.int .i64 z, .slice a n c]) := HW0.out.below b4
      have HX1 : Hid (Row w4 (w.heap.size + 1) 26 [.int .i64 x.1, .int .i64 x.2]) := HW1.out.below b4
      have HX2 : Hid (Row w4 (w.heap.size + 1 + 1) 27 [.int .i64 0, .slice none 0 0]) := HW2.out.below b4
      obtain ⟨r0, r1⟩ := HX2.out.two
      have r2 := HX2.out.frozen 0
      have r3 := HX2.out.frozen 1
      have BR : Hid (Below w.heap.size w w4) := B4.out
      have HVR : Hid (Row w4 (w.heap.size + 1 + 1) 27 [.int .i64 0, .slice none 0 0]) := HX2.out
      clear b4
      go_wp2
      refine st_ret HVR.out BR.out (by omega) _ _ _ rfl rfl rfl Try.underlying27 rfl (by kernel_rfl) ?_
      intro w' K' B'
      exact ⟨_, rfl, OwnS.nil _ _ _, B'⟩
  · obtain ⟨t1, t2, t3⟩ := Fr.free_not hq hq0
    rw [t1, t2, t3]
    have hq' : (q == 0) = false := beq_eq_false_iff_ne.2 hq0
    clear hq t1 t2 t3
    go_enter Try.func16, Try.ntmps16
    go_wp2_with fail
    refine (checkSpan_u _ P z a n c l (Rep.below HR.out B2.out) x HX.out _ HQ.out).mono ?_
    rintro e w3 ⟨rfl, b3⟩
    have BR : Hid (Below w.heap.size w w3) := on B2.out b3
    have HVR : Hid (Row w3 (w.heap.size + 1 + 1) 27 [.int .i64 0, .slice none 0 0]) := HV2.out.below b3
    obtain ⟨r0, r1⟩ := HVR.out.two
    have r2 := HVR.out.frozen 0
    have r3 := HVR.out.frozen 1
    clear b3
    go_wp2
    refine st_ret HVR.out BR.out (by omega) _ _ _ rfl rfl rfl Try.underlying27 rfl (by kernel_rfl) ?_
    intro w' K' B'
    exact ⟨_, rfl, OwnS.nil _ _ _, B'⟩

end Go.Proofs.Ytbbjbajdoekheaa
