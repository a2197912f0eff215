/-
  The landed free: Without and New, at whatever size and spans. Conditions: those that each contract names.
-/
import Derived.Test.YtbbjbajdoekheaaYX
import Derived.Test.YtbbjbajdoekheaaYF
import Derived.Test.YtbbjbajdoekheaaFWos
namespace Go.Proofs.Ytbbjbajdoekheaa
open Go.RowKit
set_option linter.unusedVariables false

set_option maxRecDepth 20000 in
set_option maxHeartbeats 4000000 in
theorem freeWithout_u (w : World) (P : Nat → Prop) (z : Int) (a : Option Addr) (n c : Nat) (u : List Spn) (hL : rSpns.rd w P [.slice a n c] u) :
    Calls Try.prog 32 #[.int .i64 z, .slice a n c] w fun e w' => ∃ v, e = .returned (.tuple #[.agg #[.int .i64 (Fr.withoutZ z u), v], .int .i64 (Fr.withoutE z u)]) ∧ OwnS 26 w' w.heap.size v (Fr.withoutL z u) ∧ Below w.heap.size w w' := by
  have HR : Hid _ := hL
  have HN : Hid (u.length = n) := (rList_len hL).1
  have HIn : Hid _ := rSpns_in hL
  obtain ⟨w0, hw0, V0, b0, z0⟩ := boxedRow w 3 [.int .i64 z]
  obtain ⟨w2, hw2, V2, b2, z2⟩ := boxedRow w0 27 [.int .i64 0, .slice none 0 0]
  rw [z0] at V2
  have B2 : Hid (Below w.heap.size w w2) := on b0 b2
  have HV0 : Hid (Row w2 w.heap.size 3 [.int .i64 z]) := V0.below b2
  have HV2 : Hid (Row w2 (w.heap.size + 1) 27 [.int .i64 0, .slice none 0 0]) := V2
  have d0 := HV0.out.cell (j := 0) rfl
  obtain ⟨r0, r1⟩ := HV2.out.two
  have r2 := HV2.out.frozen 0
  have r3 := HV2.out.frozen 1
  clear hL V0 V2 b0 b2 z2
  cases hs : Fr.sizeB z
  · have HSz : Hid (Fr.sizeB z = false) := hs
    obtain ⟨t1, t2, t3⟩ := Fr.wo_range (u := u) hs
    rw [t1, t2, t3]
    clear t1 t2 t3 hs
    go_enter Try.func32, Try.ntmps32
    go_wp2_with (go_at_call 50; refine (mayBeSize_u _ z _ HSz.out).mono ?_; rintro e w9 ⟨rfl, rfl⟩)
    refine st_ret HV2.out B2.out (by omega) _ _ _ rfl rfl rfl Try.underlying27 rfl (by kernel_rfl) ?_
    intro w' K' B'
    exact ⟨_, rfl, OwnS.nil _ _ _, B'⟩
  · have HSz : Hid (Fr.sizeB z = true) := hs
    obtain ⟨hz0, hz1⟩ : 0 ≤ z ∧ z ≤ 65536 := by unfold Fr.sizeB at hs; simpa using hs
    by_cases hc : 1024 < n
    · obtain ⟨t1, t2, t3⟩ := Fr.wo_count (u := u) hs (by rw [HN.out]; omega)
      rw [t1, t2, t3]
      clear t1 t2 t3 hs
      go_enter Try.func32, Try.ntmps32
      go_wp2_with (go_at_call 50; refine (mayBeSize_u _ z _ HSz.out).mono ?_; rintro e w9 ⟨rfl, rfl⟩)
      refine st_ret HV2.out B2.out (by omega) _ _ _ rfl rfl rfl Try.underlying27 rfl (by kernel_rfl) ?_
      intro w' K' B'
      exact ⟨_, rfl, OwnS.nil _ _ _, B'⟩
    · cases hw' : u.any (fun y => !Fr.inB z y)
      · have HW : Hid (u.any (fun y => !Fr.inB z y) = false) := hw'
        have hall : ∀ x ∈ u, Fr.Inside x z := Fr.all_in hw'
        obtain ⟨t1, t2, t3⟩ := Fr.wo_said hs (show u.length ≤ 1024 by rw [HN.out]; omega) hall
        rw [t1, t2, t3]
        have HAll : Hid _ := hall
        have HNu : Hid (u.length ≤ 1024) := by unfold Hid; rw [HN.out]; omega
        clear t1 t2 t3 hs hw' hall
        go_enter Try.func32, Try.ntmps32
        go_wp2_with (go_at_call 50; refine (mayBeSize_u _ z _ HSz.out).mono ?_; rintro e w9 ⟨rfl, rfl⟩)
        refine (containsFunc_u 54 #[.pointer (some ⟨w.heap.size, 0, none⟩)] (enters_of Try.func54 (by kernel_rfl) rfl) w2 P a n c u (Rep.below HR.out B2.out) (fun y => !Fr.inB z y) (fun wq hbq y hy => withoutAsk_u wq _ z y (HIn.out y hy) hz0 hz1 (HV0.out.below hbq)) _ HW.out).mono ?_
        rintro e w4 ⟨rfl, b4⟩
        have B4 : Hid (Below w.heap.size w w4) := on B2.out b4
        have HX0 : Hid (Row w4 w.heap.size 3 [.int .i64 z]) := HV0.out.below b4
        have HX2 : Hid (Row w4 (w.heap.size + 1) 27 [.int .i64 0, .slice none 0 0]) := HV2.out.below b4
        clear b4
        clear r0 r1 r2 r3 d0
        go_wp2_with fail
        refine (clone_u _ P a n c u (Rep.below HR.out B4.out)).mono ?_
        rintro e w5 ⟨v5, rfl, ho5, b5⟩
        have B5 : Hid (Below w.heap.size w w5) := on B4.out b5
        obtain ⟨a5, c5, hv5, -, -⟩ := ho5.slice
        subst hv5
        obtain ⟨w6, hw6, V6, b6, z6⟩ := boxedRow w5 22 [.slice a5 u.length c5]
        have B6 : Hid (Below w.heap.size w w6) := on B5.out b6
        have HY0 : Hid (Row w6 w.heap.size 3 [.int .i64 z]) := (HX0.out.below b5).below b6
        have HY2 : Hid (Row w6 (w.heap.size + 1) 27 [.int .i64 0, .slice none 0 0]) := (HX2.out.below b5).below b6
        have HY3 : Hid (Row w6 w5.heap.size 22 [.slice a5 u.length c5]) := V6
        have HO6 : Hid (OwnS 26 w6 w4.heap.size (.slice a5 u.length c5) u) := ho5.below b6
        have HZ4 : Hid (w.heap.size + 1 < w4.heap.size) := HX2.out.lt
        have HOb : Hid (∀ k, (Value.slice a5 u.length c5).ownBlock = some k → w4.heap.size ≤ k ∧ k < w5.heap.size) := fun k e => ho5.row.lt k e
        have f3 := V6.cell (j := 0) rfl
        clear ho5 b5 V6 b6 z6
        go_wp2_with fail
        refine (sortSpns_u _ _ _ _ _ u HO6.out HNu.out).mono ?_
        rintro e w7 ⟨rfl, D, hperm, hsort, hD, ht7⟩
        have HZ0 : Hid (Row w7 w.heap.size 3 [.int .i64 z]) := ht7.row HY0.out (fun e => by have := (HOb.out _ e).1; have := HZ4.out; omega)
        have HZ2 : Hid (Row w7 (w.heap.size + 1) 27 [.int .i64 0, .slice none 0 0]) := ht7.row HY2.out (fun e => by have := (HOb.out _ e).1; have := HZ4.out; omega)
        have HZ3 : Hid (Row w7 w5.heap.size 22 [.slice a5 u.length c5]) := ht7.row HY3.out (fun e => by have := (HOb.out _ e).2; omega)
        have B7 : Hid (Below w.heap.size w w7) := B6.out.trans (ht7.below B6.out.size (fun k hk => by have := (HOb.out _ hk).1; have := HZ4.out; omega))
        have HDI : Hid (∀ x ∈ D, Fr.Inside x z) := fun x hx => HAll.out x (hperm.mem_iff.1 hx)
        have HLd : Hid (Fr.layAll [] (Fr.gapPs z 0 D) = Fr.leftOf (Fr.newL z) u) := Fr.left_laid hz0 HAll.out hperm (Fr.rising_of hsort)
        have HWR : Hid _ := without3_writes w7 _ a5 u.length c5 D hD z hz0 hz1 HDI.out HNu.out w5.heap.size w.heap.size HZ3.out HZ0.out
        have HZB : Hid (w.heap.size + 1 < w7.heap.size) := HZ2.out.lt
        have f0 := HZ0.out.cell (j := 0) rfl
        clear hperm hsort hD ht7 f3
        go_wp2_with fail
        refine (laid_u w7 _ _ (enters_of Try.func59 (by kernel_rfl) rfl) z _ _ HLd.out HWR.out).mono ?_
        rintro e w8 ⟨v8, rfl, ho8, b8⟩
        have BR : Hid (Below w.heap.size w w8) := on B7.out b8
        have HVR : Hid (Row w8 (w.heap.size + 1) 27 [.int .i64 0, .slice none 0 0]) := HZ2.out.below b8
        have HO8 : Hid (OwnS _ _ _ _ _) := ho8
        obtain ⟨a8, c8, hv8, -, -⟩ := ho8.slice
        subst hv8
        obtain ⟨r0, r1⟩ := HVR.out.two
        have r2 := HVR.out.frozen 0
        have r3 := HVR.out.frozen 1
        clear ho8 b8
        go_wp2
        refine st_ret HVR.out BR.out (by omega) _ _ _ rfl rfl rfl Try.underlying27 rfl (by kernel_rfl) ?_
        intro w' K' B'
        exact ⟨_, rfl, (HO8.out.kept K' HZB.out).mono B7.out.size, B'⟩
      · have HW : Hid (u.any (fun y => !Fr.inB z y) = true) := hw'
        obtain ⟨t1, t2, t3⟩ := Fr.wo_out hs (show u.length ≤ 1024 by rw [HN.out]; omega) hw'
        rw [t1, t2, t3]
        clear t1 t2 t3 hs hw'
        go_enter Try.func32, Try.ntmps32
        go_wp2_with (go_at_call 50; refine (mayBeSize_u _ z _ HSz.out).mono ?_; rintro e w9 ⟨rfl, rfl⟩)
        refine (containsFunc_u 54 #[.pointer (some ⟨w.heap.size, 0, none⟩)] (enters_of Try.func54 (by kernel_rfl) rfl) w2 P a n c u (Rep.below HR.out B2.out) (fun y => !Fr.inB z y) (fun wq hbq y hy => withoutAsk_u wq _ z y (HIn.out y hy) hz0 hz1 (HV0.out.below hbq)) _ HW.out).mono ?_
        rintro e w4 ⟨rfl, b4⟩
        have B4 : Hid (Below w.heap.size w w4) := on B2.out b4
        have HX0 : Hid (Row w4 w.heap.size 3 [.int .i64 z]) := HV0.out.below b4
        have HX2 : Hid (Row w4 (w.heap.size + 1) 27 [.int .i64 0, .slice none 0 0]) := HV2.out.below b4
        clear b4
        obtain ⟨s0, s1⟩ := HX2.out.two
        have s2 := HX2.out.frozen 0
        have s3 := HX2.out.frozen 1
        go_wp2
        refine st_ret HX2.out B4.out (by omega) _ _ _ rfl rfl rfl Try.underlying27 rfl (by kernel_rfl) ?_
        intro w' K' B'
        exact ⟨_, rfl, OwnS.nil _ _ _, B'⟩

set_option maxRecDepth 20000 in
set_option maxHeartbeats 2000000 in
theorem freeNew_u (w : World) (z : Int) :
    Calls Try.prog 30 #[.int .i64 z] w fun e w' => ∃ v, e = .returned (.tuple #[.agg #[.int .i64 (Fr.withoutZ z []), v], .int .i64 (Fr.withoutE z [])]) ∧ OwnS 26 w' w.heap.size v (Fr.withoutL z []) ∧ Below w.heap.size w w' := by
  obtain ⟨w0, hw0, V0, b0, z0⟩ := boxedRow w 27 [.int .i64 0, .slice none 0 0]
  have B0 : Hid (Below w.heap.size w w0) := b0
  have HV0 : Hid (Row w0 w.heap.size 27 [.int .i64 0, .slice none 0 0]) := V0
  have HZ0 : Hid (w.heap.size < w0.heap.size) := V0.lt
  clear V0 b0 z0
  go_enter Try.func30, Try.ntmps30
  go_wp2_with fail
  refine (freeWithout_u _ (fun _ => True) z none 0 0 [] ((OwnS.nil 26 w0 0).rd (by decide) |> fun h => rSpns.weaken h (fun _ _ _ => trivial))).mono ?_
  rintro e w1 ⟨v1, rfl, ho1, b1⟩
  have B1 : Hid (Below w.heap.size w w1) := on B0.out b1
  have HV1 : Hid (Row w1 w.heap.size 27 [.int .i64 0, .slice none 0 0]) := HV0.out.below b1
  have HO1 : Hid (OwnS _ _ _ _ _) := ho1
  obtain ⟨a1, c1, hv1, -, -⟩ := ho1.slice
  subst hv1
  obtain ⟨r0, r1⟩ := HV1.out.two
  have r2 := HV1.out.frozen 0
  have r3 := HV1.out.frozen 1
  clear ho1 b1
  go_wp2
  refine st_ret HV1.out B1.out (Nat.le_refl _) _ _ _ rfl rfl rfl Try.underlying27 rfl (by kernel_rfl) ?_
  intro w' K' B'
  exact ⟨_, rfl, (HO1.out.kept K' HZ0.out).mono B0.out.size, B'⟩

end Go.Proofs.Ytbbjbajdoekheaa
