/-
  Of any state: its last sector in use, its room, another size; a new one, and one without what is used, are as the page says: at whatever state, size and spans. Conditions: none.
-/
import Derived.Test.YtbbjbajdoekheaaFAlive
import Derived.Test.YtbbjbajdoekheaaFFrame
import Derived.Test.YtbbjbajdoekheaaYN
import Derived.Test.YtbbjbajdoekheaaYR
import Derived.Test.YtbbjbajdoekheaaRFN
import Derived.Test.YtbbjbajdoekheaaRFR
namespace Go.Proofs.Ytbbjbajdoekheaa
open Go.ChangeShapes Go.WideShapes Go.ChangeAt Go.RowKit
set_option linter.unusedVariables false

set_option maxRecDepth 20000 in
set_option maxHeartbeats 8000000 in
theorem fsizes_walk (cs : List Value) (st : Int × List Spn) (m : Int) (au : Option Addr) (nu cu : Nat) (u : List Spn) (W : World) (h0 : rState.rd W (fun b => b < W.heap.size) cs st) (hm0 : -9223372036854775808 ≤ m) (hm1 : m ≤ 9223372036854775807) (hu : rSpns.rd W (fun b => b < W.heap.size) [.slice au nu cu] u) :
    Calls Try.prog 4 #[.agg cs.toArray, .int .i64 m, .slice au nu cu] W fun e W' => e = .returned (.bool true) ∧ Below W.heap.size W W' := by
  obtain ⟨a, n, c, rfl, hz, hL⟩ := rState_rd h0
  obtain ⟨z, l⟩ := st
  simp only at hz hL
  have HL : Hid (l.length = n) := (rList_len hL).1
  have HLB : Hid (l.length ≤ 8796093021952) := by unfold Hid; rw [HL.out]; have h : n * 16 ≤ 140737488351232 := (rList_len hL).2.2.2; omega
  have HZI : Hid (In64 z) := hz
  rw [show ([.int .i64 z, .slice a n c] : List Value).toArray = #[.int .i64 z, .slice a n c] from rfl]
  obtain ⟨w0, hw0, V0, b0, z0⟩ := boxedRow W 24 [.int .i64 z, .slice a n c]
  obtain ⟨w1, hw1⟩ : ∃ w1, w1 = w0 := ⟨_, rfl⟩
  rw [← hw1] at hw0 V0 b0
  have Rs_1 : Hid (Row w1 W.heap.size 24 [.int .i64 z, .slice a n c]) := V0
  have B_1 : Hid (Below W.heap.size W w1) := b0
  have Ls_1 : Hid (rSpns.rd w1 (fun b => b < W.heap.size) [.slice a n c] (l)) := Rep.below hL B_1.out
  clear V0 b0 z0 h0 hL hz hw1
  have HUB : Hid (u.length ≤ 8796093021952) := by unfold Hid; rw [(rList_len hu).1]; have h : nu * 16 ≤ 140737488351232 := (rList_len hu).2.2.2; omega
  have Lu_1 : Hid (rSpns.rd w1 (fun b => b < W.heap.size) [.slice au nu cu] (u)) := Rep.below hu B_1.out
  clear hu
  go_enter Try.func4, Try.ntmps4
  obtain ⟨qs0, qs1⟩ := Rs_1.out.two
  go_wp2_with (go_at_call 18; refine (num6_u _ _).mono ?_; rintro e w99 ⟨rfl, rfl⟩)
  refine (of_u _ _ z _ _ _ l Ls_1.out).mono ?_
  rintro e w2 ⟨v2, rfl, ho2, b2⟩
  obtain ⟨ao, co, hv2, -, -⟩ := ho2.slice
  subst hv2
  have Lo_2 : Hid (rSpns.rd w2 (fun b => w1.heap.size ≤ b) [.slice ao (l).length co] (l)) := ho2.rd (HLB.out)
  have Rs_2 : Hid (Row w2 (W.heap.size) 24 [.int .i64 z, .slice a n c]) := Rs_1.out.below b2
  have Ls_2 : Hid (rSpns.rd w2 (fun b => b < W.heap.size) [.slice a n c] (l)) := Rep.below Ls_1.out b2
  have Lu_2 : Hid (rSpns.rd w2 (fun b => b < W.heap.size) [.slice au nu cu] (u)) := Rep.below Lu_1.out b2
  have B_2 : Hid (Below W.heap.size W w2) := on B_1.out b2
  clear qs0 qs1
  clear Rs_1 Ls_1 Lu_1
  clear ho2 b2
  go_wp2_with (go_at_call 18; refine (num6_u _ _).mono ?_; rintro e w99 ⟨rfl, rfl⟩)
  refine (copySpns_u _ _ _ _ _ u Lu_2.out).mono ?_
  rintro e w3 ⟨v3, rfl, ho3, b3⟩
  obtain ⟨ai, ci, hv3, -, -⟩ := ho3.slice
  subst hv3
  have Li_3 : Hid (rSpns.rd w3 (fun b => w2.heap.size ≤ b) [.slice ai (u).length ci] (u)) := ho3.rd (HUB.out)
  have Rs_3 : Hid (Row w3 (W.heap.size) 24 [.int .i64 z, .slice a n c]) := Rs_2.out.below b3
  have Ls_3 : Hid (rSpns.rd w3 (fun b => b < W.heap.size) [.slice a n c] (l)) := Rep.below Ls_2.out b3
  have Lu_3 : Hid (rSpns.rd w3 (fun b => b < W.heap.size) [.slice au nu cu] (u)) := Rep.below Lu_2.out b3
  have Lo_3 : Hid (rSpns.rd w3 (fun b => w1.heap.size ≤ b) [.slice ao (l).length co] (l)) := Rep.below Lo_2.out b3
  have B_3 : Hid (Below W.heap.size W w3) := on B_2.out b3
  clear Rs_2 Ls_2 Lu_2 Lo_2
  clear ho3 b3
  obtain ⟨w4, hw4, V4, b4, z4⟩ := boxedRow w3 27 [.int .i64 (z), .slice ao (l).length co]
  have Ro_4 : Hid (Row w4 w3.heap.size 27 [.int .i64 (z), .slice ao (l).length co]) := V4
  have Rs_4 : Hid (Row w4 (W.heap.size) 24 [.int .i64 z, .slice a n c]) := Rs_3.out.below b4
  have Ls_4 : Hid (rSpns.rd w4 (fun b => b < W.heap.size) [.slice a n c] (l)) := Rep.below Ls_3.out b4
  have Lu_4 : Hid (rSpns.rd w4 (fun b => b < W.heap.size) [.slice au nu cu] (u)) := Rep.below Lu_3.out b4
  have Lo_4 : Hid (rSpns.rd w4 (fun b => w1.heap.size ≤ b) [.slice ao (l).length co] (l)) := Rep.below Lo_3.out b4
  have Li_4 : Hid (rSpns.rd w4 (fun b => w2.heap.size ≤ b) [.slice ai (u).length ci] (u)) := Rep.below Li_3.out b4
  have B_4 : Hid (Below W.heap.size W w4) := on B_3.out b4
  clear Rs_3 Ls_3 Lu_3 Lo_3 Li_3
  clear V4 b4 z4
  obtain ⟨qo0, qo1⟩ := Ro_4.out.two
  go_wp2_with (go_at_call 18; refine (num6_u _ _).mono ?_; rintro e w99 ⟨rfl, rfl⟩)
  refine (freeHighest_u _ _ z _ _ _ l Lo_4.out).mono ?_
  rintro e w5 ⟨rfl, b5⟩
  have Rs_5 : Hid (Row w5 (W.heap.size) 24 [.int .i64 z, .slice a n c]) := Rs_4.out.below b5
  have Ro_5 : Hid (Row w5 (w3.heap.size) 27 [.int .i64 (z), .slice ao (l).length co]) := Ro_4.out.below b5
  have Ls_5 : Hid (rSpns.rd w5 (fun b => b < W.heap.size) [.slice a n c] (l)) := Rep.below Ls_4.out b5
  have Lu_5 : Hid (rSpns.rd w5 (fun b => b < W.heap.size) [.slice au nu cu] (u)) := Rep.below Lu_4.out b5
  have Lo_5 : Hid (rSpns.rd w5 (fun b => w1.heap.size ≤ b) [.slice ao (l).length co] (l)) := Rep.below Lo_4.out b5
  have Li_5 : Hid (rSpns.rd w5 (fun b => w2.heap.size ≤ b) [.slice ai (u).length ci] (u)) := Rep.below Li_4.out b5
  have B_5 : Hid (Below W.heap.size W w5) := on B_4.out b5
  clear qo0 qo1
  clear Rs_4 Ro_4 Ls_4 Lu_4 Lo_4 Li_4
  clear b5
  obtain ⟨qs0, qs1⟩ := Rs_5.out.two
  go_wp2_with (go_at_call 18; refine (num6_u _ _).mono ?_; rintro e w99 ⟨rfl, rfl⟩)
  refine (refHighest_u _ _ z _ _ _ l Ls_5.out).mono ?_
  rintro e w6 ⟨rfl, b6⟩
  have Rs_6 : Hid (Row w6 (W.heap.size) 24 [.int .i64 z, .slice a n c]) := Rs_5.out.below b6
  have Ro_6 : Hid (Row w6 (w3.heap.size) 27 [.int .i64 (z), .slice ao (l).length co]) := Ro_5.out.below b6
  have Ls_6 : Hid (rSpns.rd w6 (fun b => b < W.heap.size) [.slice a n c] (l)) := Rep.below Ls_5.out b6
  have Lu_6 : Hid (rSpns.rd w6 (fun b => b < W.heap.size) [.slice au nu cu] (u)) := Rep.below Lu_5.out b6
  have Lo_6 : Hid (rSpns.rd w6 (fun b => w1.heap.size ≤ b) [.slice ao (l).length co] (l)) := Rep.below Lo_5.out b6
  have Li_6 : Hid (rSpns.rd w6 (fun b => w2.heap.size ≤ b) [.slice ai (u).length ci] (u)) := Rep.below Li_5.out b6
  have B_6 : Hid (Below W.heap.size W w6) := on B_5.out b6
  clear qs0 qs1
  clear Rs_5 Ro_5 Ls_5 Lu_5 Lo_5 Li_5
  clear b6
  obtain ⟨qo0, qo1⟩ := Ro_6.out.two
  go_wp2_with (go_at_call 18; refine (num6_u _ _).mono ?_; rintro e w99 ⟨rfl, rfl⟩)
  refine (freeRoom_u _ _ z _ _ _ l Lo_6.out).mono ?_
  rintro e w7 ⟨rfl, b7⟩
  have Rs_7 : Hid (Row w7 (W.heap.size) 24 [.int .i64 z, .slice a n c]) := Rs_6.out.below b7
  have Ro_7 : Hid (Row w7 (w3.heap.size) 27 [.int .i64 (z), .slice ao (l).length co]) := Ro_6.out.below b7
  have Ls_7 : Hid (rSpns.rd w7 (fun b => b < W.heap.size) [.slice a n c] (l)) := Rep.below Ls_6.out b7
  have Lu_7 : Hid (rSpns.rd w7 (fun b => b < W.heap.size) [.slice au nu cu] (u)) := Rep.below Lu_6.out b7
  have Lo_7 : Hid (rSpns.rd w7 (fun b => w1.heap.size ≤ b) [.slice ao (l).length co] (l)) := Rep.below Lo_6.out b7
  have Li_7 : Hid (rSpns.rd w7 (fun b => w2.heap.size ≤ b) [.slice ai (u).length ci] (u)) := Rep.below Li_6.out b7
  have B_7 : Hid (Below W.heap.size W w7) := on B_6.out b7
  clear qo0 qo1
  clear Rs_6 Ro_6 Ls_6 Lu_6 Lo_6 Li_6
  clear b7
  obtain ⟨qs0, qs1⟩ := Rs_7.out.two
  go_wp2_with (go_at_call 18; refine (num6_u _ _).mono ?_; rintro e w99 ⟨rfl, rfl⟩)
  refine (refRoom_u _ _ z _ _ _ l Ls_7.out).mono ?_
  rintro e w8 ⟨rfl, b8⟩
  have Rs_8 : Hid (Row w8 (W.heap.size) 24 [.int .i64 z, .slice a n c]) := Rs_7.out.below b8
  have Ro_8 : Hid (Row w8 (w3.heap.size) 27 [.int .i64 (z), .slice ao (l).length co]) := Ro_7.out.below b8
  have Ls_8 : Hid (rSpns.rd w8 (fun b => b < W.heap.size) [.slice a n c] (l)) := Rep.below Ls_7.out b8
  have Lu_8 : Hid (rSpns.rd w8 (fun b => b < W.heap.size) [.slice au nu cu] (u)) := Rep.below Lu_7.out b8
  have Lo_8 : Hid (rSpns.rd w8 (fun b => w1.heap.size ≤ b) [.slice ao (l).length co] (l)) := Rep.below Lo_7.out b8
  have Li_8 : Hid (rSpns.rd w8 (fun b => w2.heap.size ≤ b) [.slice ai (u).length ci] (u)) := Rep.below Li_7.out b8
  have B_8 : Hid (Below W.heap.size W w8) := on B_7.out b8
  clear qs0 qs1
  clear Rs_7 Ro_7 Ls_7 Lu_7 Lo_7 Li_7
  clear b8
  obtain ⟨qo0, qo1⟩ := Ro_8.out.two
  go_wp2_with (go_at_call 18; refine (num6_u _ _).mono ?_; rintro e w99 ⟨rfl, rfl⟩)
  refine (freeResize_u _ _ z _ _ _ l Lo_8.out m).mono ?_
  rintro e w9 ⟨v9, rfl, ho9, b9⟩
  obtain ⟨ap, cp, hv9, -, -⟩ := ho9.slice
  subst hv9
  have Lp_9 : Hid (rSpns.rd w9 (fun b => w8.heap.size ≤ b) [.slice ap (Fr.resizeL z l m).length cp] (Fr.resizeL z l m)) := ho9.rd (by have := Fr.resizeL_len z l m; omega)
  have Rs_9 : Hid (Row w9 (W.heap.size) 24 [.int .i64 z, .slice a n c]) := Rs_8.out.below b9
  have Ro_9 : Hid (Row w9 (w3.heap.size) 27 [.int .i64 (z), .slice ao (l).length co]) := Ro_8.out.below b9
  have Ls_9 : Hid (rSpns.rd w9 (fun b => b < W.heap.size) [.slice a n c] (l)) := Rep.below Ls_8.out b9
  have Lu_9 : Hid (rSpns.rd w9 (fun b => b < W.heap.size) [.slice au nu cu] (u)) := Rep.below Lu_8.out b9
  have Lo_9 : Hid (rSpns.rd w9 (fun b => w1.heap.size ≤ b) [.slice ao (l).length co] (l)) := Rep.below Lo_8.out b9
  have Li_9 : Hid (rSpns.rd w9 (fun b => w2.heap.size ≤ b) [.slice ai (u).length ci] (u)) := Rep.below Li_8.out b9
  have B_9 : Hid (Below W.heap.size W w9) := on B_8.out b9
  clear qo0 qo1
  clear Rs_8 Ro_8 Ls_8 Lu_8 Lo_8 Li_8
  clear ho9 b9
  obtain ⟨w10, hw10, V10, b10, z10⟩ := boxedRow w9 27 [.int .i64 (Fr.resizeZ z l m), .slice ap (Fr.resizeL z l m).length cp]
  have Rp_10 : Hid (Row w10 w9.heap.size 27 [.int .i64 (Fr.resizeZ z l m), .slice ap (Fr.resizeL z l m).length cp]) := V10
  have Rs_10 : Hid (Row w10 (W.heap.size) 24 [.int .i64 z, .slice a n c]) := Rs_9.out.below b10
  have Ro_10 : Hid (Row w10 (w3.heap.size) 27 [.int .i64 (z), .slice ao (l).length co]) := Ro_9.out.below b10
  have Ls_10 : Hid (rSpns.rd w10 (fun b => b < W.heap.size) [.slice a n c] (l)) := Rep.below Ls_9.out b10
  have Lu_10 : Hid (rSpns.rd w10 (fun b => b < W.heap.size) [.slice au nu cu] (u)) := Rep.below Lu_9.out b10
  have Lo_10 : Hid (rSpns.rd w10 (fun b => w1.heap.size ≤ b) [.slice ao (l).length co] (l)) := Rep.below Lo_9.out b10
  have Li_10 : Hid (rSpns.rd w10 (fun b => w2.heap.size ≤ b) [.slice ai (u).length ci] (u)) := Rep.below Li_9.out b10
  have Lp_10 : Hid (rSpns.rd w10 (fun b => w8.heap.size ≤ b) [.slice ap (Fr.resizeL z l m).length cp] (Fr.resizeL z l m)) := Rep.below Lp_9.out b10
  have B_10 : Hid (Below W.heap.size W w10) := on B_9.out b10
  clear Rs_9 Ro_9 Ls_9 Lu_9 Lo_9 Li_9 Lp_9
  clear V10 b10 z10
  obtain ⟨qs0, qs1⟩ := Rs_10.out.two
  go_wp2_with (go_at_call 18; refine (num6_u _ _).mono ?_; rintro e w99 ⟨rfl, rfl⟩)
  refine (refResize_u _ _ z _ _ _ l Ls_10.out m).mono ?_
  rintro e w11 ⟨v11, rfl, ho11, b11⟩
  obtain ⟨ar, cr, hv11, -, -⟩ := ho11.slice
  subst hv11
  have Lr_11 : Hid (rSpns.rd w11 (fun b => w10.heap.size ≤ b) [.slice ar (Fr.resizeL z l m).length cr] (Fr.resizeL z l m)) := ho11.rd (by have := Fr.resizeL_len z l m; omega)
  have Rs_11 : Hid (Row w11 (W.heap.size) 24 [.int .i64 z, .slice a n c]) := Rs_10.out.below b11
  have Ro_11 : Hid (Row w11 (w3.heap.size) 27 [.int .i64 (z), .slice ao (l).length co]) := Ro_10.out.below b11
  have Rp_11 : Hid (Row w11 (w9.heap.size) 27 [.int .i64 (Fr.resizeZ z l m), .slice ap (Fr.resizeL z l m).length cp]) := Rp_10.out.below b11
  have Ls_11 : Hid (rSpns.rd w11 (fun b => b < W.heap.size) [.slice a n c] (l)) := Rep.below Ls_10.out b11
  have Lu_11 : Hid (rSpns.rd w11 (fun b => b < W.heap.size) [.slice au nu cu] (u)) := Rep.below Lu_10.out b11
  have Lo_11 : Hid (rSpns.rd w11 (fun b => w1.heap.size ≤ b) [.slice ao (l).length co] (l)) := Rep.below Lo_10.out b11
  have Li_11 : Hid (rSpns.rd w11 (fun b => w2.heap.size ≤ b) [.slice ai (u).length ci] (u)) := Rep.below Li_10.out b11
  have Lp_11 : Hid (rSpns.rd w11 (fun b => w8.heap.size ≤ b) [.slice ap (Fr.resizeL z l m).length cp] (Fr.resizeL z l m)) := Rep.below Lp_10.out b11
  have B_11 : Hid (Below W.heap.size W w11) := on B_10.out b11
  clear qs0 qs1
  clear Rs_10 Ro_10 Rp_10 Ls_10 Lu_10 Lo_10 Li_10 Lp_10
  clear ho11 b11
  obtain ⟨w12, hw12, V12, b12, z12⟩ := boxedRow w11 24 [.int .i64 (Fr.resizeZ z l m), .slice ar (Fr.resizeL z l m).length cr]
  have Rr_12 : Hid (Row w12 w11.heap.size 24 [.int .i64 (Fr.resizeZ z l m), .slice ar (Fr.resizeL z l m).length cr]) := V12
  have Rs_12 : Hid (Row w12 (W.heap.size) 24 [.int .i64 z, .slice a n c]) := Rs_11.out.below b12
  have Ro_12 : Hid (Row w12 (w3.heap.size) 27 [.int .i64 (z), .slice ao (l).length co]) := Ro_11.out.below b12
  have Rp_12 : Hid (Row w12 (w9.heap.size) 27 [.int .i64 (Fr.resizeZ z l m), .slice ap (Fr.resizeL z l m).length cp]) := Rp_11.out.below b12
  have Ls_12 : Hid (rSpns.rd w12 (fun b => b < W.heap.size) [.slice a n c] (l)) := Rep.below Ls_11.out b12
  have Lu_12 : Hid (rSpns.rd w12 (fun b => b < W.heap.size) [.slice au nu cu] (u)) := Rep.below Lu_11.out b12
  have Lo_12 : Hid (rSpns.rd w12 (fun b => w1.heap.size ≤ b) [.slice ao (l).length co] (l)) := Rep.below Lo_11.out b12
  have Li_12 : Hid (rSpns.rd w12 (fun b => w2.heap.size ≤ b) [.slice ai (u).length ci] (u)) := Rep.below Li_11.out b12
  have Lp_12 : Hid (rSpns.rd w12 (fun b => w8.heap.size ≤ b) [.slice ap (Fr.resizeL z l m).length cp] (Fr.resizeL z l m)) := Rep.below Lp_11.out b12
  have Lr_12 : Hid (rSpns.rd w12 (fun b => w10.heap.size ≤ b) [.slice ar (Fr.resizeL z l m).length cr] (Fr.resizeL z l m)) := Rep.below Lr_11.out b12
  have B_12 : Hid (Below W.heap.size W w12) := on B_11.out b12
  clear Rs_11 Ro_11 Rp_11 Ls_11 Lu_11 Lo_11 Li_11 Lp_11 Lr_11
  clear V12 b12 z12
  go_wp2_with (go_at_call 18; refine (num6_u _ _).mono ?_; rintro e w99 ⟨rfl, rfl⟩)
  refine (freeNew_u _ m).mono ?_
  rintro e w13 ⟨v13, rfl, ho13, b13⟩
  obtain ⟨ak, ck, hv13, -, -⟩ := ho13.slice
  subst hv13
  have Lk_13 : Hid (rSpns.rd w13 (fun b => w12.heap.size ≤ b) [.slice ak (Fr.withoutL m []).length ck] (Fr.withoutL m [])) := ho13.rd (by have := Fr.withoutL_len m []; omega)
  have Rs_13 : Hid (Row w13 (W.heap.size) 24 [.int .i64 z, .slice a n c]) := Rs_12.out.below b13
  have Ro_13 : Hid (Row w13 (w3.heap.size) 27 [.int .i64 (z), .slice ao (l).length co]) := Ro_12.out.below b13
  have Rp_13 : Hid (Row w13 (w9.heap.size) 27 [.int .i64 (Fr.resizeZ z l m), .slice ap (Fr.resizeL z l m).length cp]) := Rp_12.out.below b13
  have Rr_13 : Hid (Row w13 (w11.heap.size) 24 [.int .i64 (Fr.resizeZ z l m), .slice ar (Fr.resizeL z l m).length cr]) := Rr_12.out.below b13
  have Ls_13 : Hid (rSpns.rd w13 (fun b => b < W.heap.size) [.slice a n c] (l)) := Rep.below Ls_12.out b13
  have Lu_13 : Hid (rSpns.rd w13 (fun b => b < W.heap.size) [.slice au nu cu] (u)) := Rep.below Lu_12.out b13
  have Lo_13 : Hid (rSpns.rd w13 (fun b => w1.heap.size ≤ b) [.slice ao (l).length co] (l)) := Rep.below Lo_12.out b13
  have Li_13 : Hid (rSpns.rd w13 (fun b => w2.heap.size ≤ b) [.slice ai (u).length ci] (u)) := Rep.below Li_12.out b13
  have Lp_13 : Hid (rSpns.rd w13 (fun b => w8.heap.size ≤ b) [.slice ap (Fr.resizeL z l m).length cp] (Fr.resizeL z l m)) := Rep.below Lp_12.out b13
  have Lr_13 : Hid (rSpns.rd w13 (fun b => w10.heap.size ≤ b) [.slice ar (Fr.resizeL z l m).length cr] (Fr.resizeL z l m)) := Rep.below Lr_12.out b13
  have B_13 : Hid (Below W.heap.size W w13) := on B_12.out b13
  clear Rs_12 Ro_12 Rp_12 Rr_12 Ls_12 Lu_12 Lo_12 Li_12 Lp_12 Lr_12
  clear ho13 b13
  obtain ⟨w14, hw14, V14, b14, z14⟩ := boxedRow w13 27 [.int .i64 (Fr.withoutZ m []), .slice ak (Fr.withoutL m []).length ck]
  have Rk_14 : Hid (Row w14 w13.heap.size 27 [.int .i64 (Fr.withoutZ m []), .slice ak (Fr.withoutL m []).length ck]) := V14
  have Rs_14 : Hid (Row w14 (W.heap.size) 24 [.int .i64 z, .slice a n c]) := Rs_13.out.below b14
  have Ro_14 : Hid (Row w14 (w3.heap.size) 27 [.int .i64 (z), .slice ao (l).length co]) := Ro_13.out.below b14
  have Rp_14 : Hid (Row w14 (w9.heap.size) 27 [.int .i64 (Fr.resizeZ z l m), .slice ap (Fr.resizeL z l m).length cp]) := Rp_13.out.below b14
  have Rr_14 : Hid (Row w14 (w11.heap.size) 24 [.int .i64 (Fr.resizeZ z l m), .slice ar (Fr.resizeL z l m).length cr]) := Rr_13.out.below b14
  have Ls_14 : Hid (rSpns.rd w14 (fun b => b < W.heap.size) [.slice a n c] (l)) := Rep.below Ls_13.out b14
  have Lu_14 : Hid (rSpns.rd w14 (fun b => b < W.heap.size) [.slice au nu cu] (u)) := Rep.below Lu_13.out b14
  have Lo_14 : Hid (rSpns.rd w14 (fun b => w1.heap.size ≤ b) [.slice ao (l).length co] (l)) := Rep.below Lo_13.out b14
  have Li_14 : Hid (rSpns.rd w14 (fun b => w2.heap.size ≤ b) [.slice ai (u).length ci] (u)) := Rep.below Li_13.out b14
  have Lp_14 : Hid (rSpns.rd w14 (fun b => w8.heap.size ≤ b) [.slice ap (Fr.resizeL z l m).length cp] (Fr.resizeL z l m)) := Rep.below Lp_13.out b14
  have Lr_14 : Hid (rSpns.rd w14 (fun b => w10.heap.size ≤ b) [.slice ar (Fr.resizeL z l m).length cr] (Fr.resizeL z l m)) := Rep.below Lr_13.out b14
  have Lk_14 : Hid (rSpns.rd w14 (fun b => w12.heap.size ≤ b) [.slice ak (Fr.withoutL m []).length ck] (Fr.withoutL m [])) := Rep.below Lk_13.out b14
  have B_14 : Hid (Below W.heap.size W w14) := on B_13.out b14
  clear Rs_13 Ro_13 Rp_13 Rr_13 Ls_13 Lu_13 Lo_13 Li_13 Lp_13 Lr_13 Lk_13
  clear V14 b14 z14
  go_wp2_with (go_at_call 18; refine (num6_u _ _).mono ?_; rintro e w99 ⟨rfl, rfl⟩)
  refine (refNew_u _ m).mono ?_
  rintro e w15 ⟨v15, rfl, ho15, b15⟩
  obtain ⟨ag, cg, hv15, -, -⟩ := ho15.slice
  subst hv15
  have Lg_15 : Hid (rSpns.rd w15 (fun b => w14.heap.size ≤ b) [.slice ag (Fr.withoutL m []).length cg] (Fr.withoutL m [])) := ho15.rd (by have := Fr.withoutL_len m []; omega)
  have Rs_15 : Hid (Row w15 (W.heap.size) 24 [.int .i64 z, .slice a n c]) := Rs_14.out.below b15
  have Ro_15 : Hid (Row w15 (w3.heap.size) 27 [.int .i64 (z), .slice ao (l).length co]) := Ro_14.out.below b15
  have Rp_15 : Hid (Row w15 (w9.heap.size) 27 [.int .i64 (Fr.resizeZ z l m), .slice ap (Fr.resizeL z l m).length cp]) := Rp_14.out.below b15
  have Rr_15 : Hid (Row w15 (w11.heap.size) 24 [.int .i64 (Fr.resizeZ z l m), .slice ar (Fr.resizeL z l m).length cr]) := Rr_14.out.below b15
  have Rk_15 : Hid (Row w15 (w13.heap.size) 27 [.int .i64 (Fr.withoutZ m []), .slice ak (Fr.withoutL m []).length ck]) := Rk_14.out.below b15
  have Ls_15 : Hid (rSpns.rd w15 (fun b => b < W.heap.size) [.slice a n c] (l)) := Rep.below Ls_14.out b15
  have Lu_15 : Hid (rSpns.rd w15 (fun b => b < W.heap.size) [.slice au nu cu] (u)) := Rep.below Lu_14.out b15
  have Lo_15 : Hid (rSpns.rd w15 (fun b => w1.heap.size ≤ b) [.slice ao (l).length co] (l)) := Rep.below Lo_14.out b15
  have Li_15 : Hid (rSpns.rd w15 (fun b => w2.heap.size ≤ b) [.slice ai (u).length ci] (u)) := Rep.below Li_14.out b15
  have Lp_15 : Hid (rSpns.rd w15 (fun b => w8.heap.size ≤ b) [.slice ap (Fr.resizeL z l m).length cp] (Fr.resizeL z l m)) := Rep.below Lp_14.out b15
  have Lr_15 : Hid (rSpns.rd w15 (fun b => w10.heap.size ≤ b) [.slice ar (Fr.resizeL z l m).length cr] (Fr.resizeL z l m)) := Rep.below Lr_14.out b15
  have Lk_15 : Hid (rSpns.rd w15 (fun b => w12.heap.size ≤ b) [.slice ak (Fr.withoutL m []).length ck] (Fr.withoutL m [])) := Rep.below Lk_14.out b15
  have B_15 : Hid (Below W.heap.size W w15) := on B_14.out b15
  clear Rs_14 Ro_14 Rp_14 Rr_14 Rk_14 Ls_14 Lu_14 Lo_14 Li_14 Lp_14 Lr_14 Lk_14
  clear ho15 b15
  obtain ⟨w16, hw16, V16, b16, z16⟩ := boxedRow w15 24 [.int .i64 (Fr.withoutZ m []), .slice ag (Fr.withoutL m []).length cg]
  have Rg_16 : Hid (Row w16 w15.heap.size 24 [.int .i64 (Fr.withoutZ m []), .slice ag (Fr.withoutL m []).length cg]) := V16
  have Rs_16 : Hid (Row w16 (W.heap.size) 24 [.int .i64 z, .slice a n c]) := Rs_15.out.below b16
  have Ro_16 : Hid (Row w16 (w3.heap.size) 27 [.int .i64 (z), .slice ao (l).length co]) := Ro_15.out.below b16
  have Rp_16 : Hid (Row w16 (w9.heap.size) 27 [.int .i64 (Fr.resizeZ z l m), .slice ap (Fr.resizeL z l m).length cp]) := Rp_15.out.below b16
  have Rr_16 : Hid (Row w16 (w11.heap.size) 24 [.int .i64 (Fr.resizeZ z l m), .slice ar (Fr.resizeL z l m).length cr]) := Rr_15.out.below b16
  have Rk_16 : Hid (Row w16 (w13.heap.size) 27 [.int .i64 (Fr.withoutZ m []), .slice ak (Fr.withoutL m []).length ck]) := Rk_15.out.below b16
  have Ls_16 : Hid (rSpns.rd w16 (fun b => b < W.heap.size) [.slice a n c] (l)) := Rep.below Ls_15.out b16
  have Lu_16 : Hid (rSpns.rd w16 (fun b => b < W.heap.size) [.slice au nu cu] (u)) := Rep.below Lu_15.out b16
  have Lo_16 : Hid (rSpns.rd w16 (fun b => w1.heap.size ≤ b) [.slice ao (l).length co] (l)) := Rep.below Lo_15.out b16
  have Li_16 : Hid (rSpns.rd w16 (fun b => w2.heap.size ≤ b) [.slice ai (u).length ci] (u)) := Rep.below Li_15.out b16
  have Lp_16 : Hid (rSpns.rd w16 (fun b => w8.heap.size ≤ b) [.slice ap (Fr.resizeL z l m).length cp] (Fr.resizeL z l m)) := Rep.below Lp_15.out b16
  have Lr_16 : Hid (rSpns.rd w16 (fun b => w10.heap.size ≤ b) [.slice ar (Fr.resizeL z l m).length cr] (Fr.resizeL z l m)) := Rep.below Lr_15.out b16
  have Lk_16 : Hid (rSpns.rd w16 (fun b => w12.heap.size ≤ b) [.slice ak (Fr.withoutL m []).length ck] (Fr.withoutL m [])) := Rep.below Lk_15.out b16
  have Lg_16 : Hid (rSpns.rd w16 (fun b => w14.heap.size ≤ b) [.slice ag (Fr.withoutL m []).length cg] (Fr.withoutL m [])) := Rep.below Lg_15.out b16
  have B_16 : Hid (Below W.heap.size W w16) := on B_15.out b16
  clear Rs_15 Ro_15 Rp_15 Rr_15 Rk_15 Ls_15 Lu_15 Lo_15 Li_15 Lp_15 Lr_15 Lk_15 Lg_15
  clear V16 b16 z16
  go_wp2_with (go_at_call 18; refine (num6_u _ _).mono ?_; rintro e w99 ⟨rfl, rfl⟩)
  refine (freeWithout_u _ _ m _ _ _ u Li_16.out).mono ?_
  rintro e w17 ⟨v17, rfl, ho17, b17⟩
  obtain ⟨af, cf, hv17, -, -⟩ := ho17.slice
  subst hv17
  have Lf_17 : Hid (rSpns.rd w17 (fun b => w16.heap.size ≤ b) [.slice af (Fr.withoutL m u).length cf] (Fr.withoutL m u)) := ho17.rd (by have := Fr.withoutL_len m u; omega)
  have Rs_17 : Hid (Row w17 (W.heap.size) 24 [.int .i64 z, .slice a n c]) := Rs_16.out.below b17
  have Ro_17 : Hid (Row w17 (w3.heap.size) 27 [.int .i64 (z), .slice ao (l).length co]) := Ro_16.out.below b17
  have Rp_17 : Hid (Row w17 (w9.heap.size) 27 [.int .i64 (Fr.resizeZ z l m), .slice ap (Fr.resizeL z l m).length cp]) := Rp_16.out.below b17
  have Rr_17 : Hid (Row w17 (w11.heap.size) 24 [.int .i64 (Fr.resizeZ z l m), .slice ar (Fr.resizeL z l m).length cr]) := Rr_16.out.below b17
  have Rk_17 : Hid (Row w17 (w13.heap.size) 27 [.int .i64 (Fr.withoutZ m []), .slice ak (Fr.withoutL m []).length ck]) := Rk_16.out.below b17
  have Rg_17 : Hid (Row w17 (w15.heap.size) 24 [.int .i64 (Fr.withoutZ m []), .slice ag (Fr.withoutL m []).length cg]) := Rg_16.out.below b17
  have Ls_17 : Hid (rSpns.rd w17 (fun b => b < W.heap.size) [.slice a n c] (l)) := Rep.below Ls_16.out b17
  have Lu_17 : Hid (rSpns.rd w17 (fun b => b < W.heap.size) [.slice au nu cu] (u)) := Rep.below Lu_16.out b17
  have Lo_17 : Hid (rSpns.rd w17 (fun b => w1.heap.size ≤ b) [.slice ao (l).length co] (l)) := Rep.below Lo_16.out b17
  have Li_17 : Hid (rSpns.rd w17 (fun b => w2.heap.size ≤ b) [.slice ai (u).length ci] (u)) := Rep.below Li_16.out b17
  have Lp_17 : Hid (rSpns.rd w17 (fun b => w8.heap.size ≤ b) [.slice ap (Fr.resizeL z l m).length cp] (Fr.resizeL z l m)) := Rep.below Lp_16.out b17
  have Lr_17 : Hid (rSpns.rd w17 (fun b => w10.heap.size ≤ b) [.slice ar (Fr.resizeL z l m).length cr] (Fr.resizeL z l m)) := Rep.below Lr_16.out b17
  have Lk_17 : Hid (rSpns.rd w17 (fun b => w12.heap.size ≤ b) [.slice ak (Fr.withoutL m []).length ck] (Fr.withoutL m [])) := Rep.below Lk_16.out b17
  have Lg_17 : Hid (rSpns.rd w17 (fun b => w14.heap.size ≤ b) [.slice ag (Fr.withoutL m []).length cg] (Fr.withoutL m [])) := Rep.below Lg_16.out b17
  have B_17 : Hid (Below W.heap.size W w17) := on B_16.out b17
  clear Rs_16 Ro_16 Rp_16 Rr_16 Rk_16 Rg_16 Ls_16 Lu_16 Lo_16 Li_16 Lp_16 Lr_16 Lk_16 Lg_16
  clear ho17 b17
  obtain ⟨w18, hw18, V18, b18, z18⟩ := boxedRow w17 27 [.int .i64 (Fr.withoutZ m u), .slice af (Fr.withoutL m u).length cf]
  have Rf_18 : Hid (Row w18 w17.heap.size 27 [.int .i64 (Fr.withoutZ m u), .slice af (Fr.withoutL m u).length cf]) := V18
  have Rs_18 : Hid (Row w18 (W.heap.size) 24 [.int .i64 z, .slice a n c]) := Rs_17.out.below b18
  have Ro_18 : Hid (Row w18 (w3.heap.size) 27 [.int .i64 (z), .slice ao (l).length co]) := Ro_17.out.below b18
  have Rp_18 : Hid (Row w18 (w9.heap.size) 27 [.int .i64 (Fr.resizeZ z l m), .slice ap (Fr.resizeL z l m).length cp]) := Rp_17.out.below b18
  have Rr_18 : Hid (Row w18 (w11.heap.size) 24 [.int .i64 (Fr.resizeZ z l m), .slice ar (Fr.resizeL z l m).length cr]) := Rr_17.out.below b18
  have Rk_18 : Hid (Row w18 (w13.heap.size) 27 [.int .i64 (Fr.withoutZ m []), .slice ak (Fr.withoutL m []).length ck]) := Rk_17.out.below b18
  have Rg_18 : Hid (Row w18 (w15.heap.size) 24 [.int .i64 (Fr.withoutZ m []), .slice ag (Fr.withoutL m []).length cg]) := Rg_17.out.below b18
  have Ls_18 : Hid (rSpns.rd w18 (fun b => b < W.heap.size) [.slice a n c] (l)) := Rep.below Ls_17.out b18
  have Lu_18 : Hid (rSpns.rd w18 (fun b => b < W.heap.size) [.slice au nu cu] (u)) := Rep.below Lu_17.out b18
  have Lo_18 : Hid (rSpns.rd w18 (fun b => w1.heap.size ≤ b) [.slice ao (l).length co] (l)) := Rep.below Lo_17.out b18
  have Li_18 : Hid (rSpns.rd w18 (fun b => w2.heap.size ≤ b) [.slice ai (u).length ci] (u)) := Rep.below Li_17.out b18
  have Lp_18 : Hid (rSpns.rd w18 (fun b => w8.heap.size ≤ b) [.slice ap (Fr.resizeL z l m).length cp] (Fr.resizeL z l m)) := Rep.below Lp_17.out b18
  have Lr_18 : Hid (rSpns.rd w18 (fun b => w10.heap.size ≤ b) [.slice ar (Fr.resizeL z l m).length cr] (Fr.resizeL z l m)) := Rep.below Lr_17.out b18
  have Lk_18 : Hid (rSpns.rd w18 (fun b => w12.heap.size ≤ b) [.slice ak (Fr.withoutL m []).length ck] (Fr.withoutL m [])) := Rep.below Lk_17.out b18
  have Lg_18 : Hid (rSpns.rd w18 (fun b => w14.heap.size ≤ b) [.slice ag (Fr.withoutL m []).length cg] (Fr.withoutL m [])) := Rep.below Lg_17.out b18
  have Lf_18 : Hid (rSpns.rd w18 (fun b => w16.heap.size ≤ b) [.slice af (Fr.withoutL m u).length cf] (Fr.withoutL m u)) := Rep.below Lf_17.out b18
  have B_18 : Hid (Below W.heap.size W w18) := on B_17.out b18
  clear Rs_17 Ro_17 Rp_17 Rr_17 Rk_17 Rg_17 Ls_17 Lu_17 Lo_17 Li_17 Lp_17 Lr_17 Lk_17 Lg_17 Lf_17
  clear V18 b18 z18
  go_wp2_with (go_at_call 18; refine (num6_u _ _).mono ?_; rintro e w99 ⟨rfl, rfl⟩)
  refine (refWithout_u _ _ m _ _ _ u Lu_18.out).mono ?_
  rintro e w19 ⟨v19, rfl, ho19, b19⟩
  obtain ⟨ah, ch, hv19, -, -⟩ := ho19.slice
  subst hv19
  have Lh_19 : Hid (rSpns.rd w19 (fun b => w18.heap.size ≤ b) [.slice ah (Fr.withoutL m u).length ch] (Fr.withoutL m u)) := ho19.rd (by have := Fr.withoutL_len m u; omega)
  have Rs_19 : Hid (Row w19 (W.heap.size) 24 [.int .i64 z, .slice a n c]) := Rs_18.out.below b19
  have Ro_19 : Hid (Row w19 (w3.heap.size) 27 [.int .i64 (z), .slice ao (l).length co]) := Ro_18.out.below b19
  have Rp_19 : Hid (Row w19 (w9.heap.size) 27 [.int .i64 (Fr.resizeZ z l m), .slice ap (Fr.resizeL z l m).length cp]) := Rp_18.out.below b19
  have Rr_19 : Hid (Row w19 (w11.heap.size) 24 [.int .i64 (Fr.resizeZ z l m), .slice ar (Fr.resizeL z l m).length cr]) := Rr_18.out.below b19
  have Rk_19 : Hid (Row w19 (w13.heap.size) 27 [.int .i64 (Fr.withoutZ m []), .slice ak (Fr.withoutL m []).length ck]) := Rk_18.out.below b19
  have Rg_19 : Hid (Row w19 (w15.heap.size) 24 [.int .i64 (Fr.withoutZ m []), .slice ag (Fr.withoutL m []).length cg]) := Rg_18.out.below b19
  have Rf_19 : Hid (Row w19 (w17.heap.size) 27 [.int .i64 (Fr.withoutZ m u), .slice af (Fr.withoutL m u).length cf]) := Rf_18.out.below b19
  have Ls_19 : Hid (rSpns.rd w19 (fun b => b < W.heap.size) [.slice a n c] (l)) := Rep.below Ls_18.out b19
  have Lu_19 : Hid (rSpns.rd w19 (fun b => b < W.heap.size) [.slice au nu cu] (u)) := Rep.below Lu_18.out b19
  have Lo_19 : Hid (rSpns.rd w19 (fun b => w1.heap.size ≤ b) [.slice ao (l).length co] (l)) := Rep.below Lo_18.out b19
  have Li_19 : Hid (rSpns.rd w19 (fun b => w2.heap.size ≤ b) [.slice ai (u).length ci] (u)) := Rep.below Li_18.out b19
  have Lp_19 : Hid (rSpns.rd w19 (fun b => w8.heap.size ≤ b) [.slice ap (Fr.resizeL z l m).length cp] (Fr.resizeL z l m)) := Rep.below Lp_18.out b19
  have Lr_19 : Hid (rSpns.rd w19 (fun b => w10.heap.size ≤ b) [.slice ar (Fr.resizeL z l m).length cr] (Fr.resizeL z l m)) := Rep.below Lr_18.out b19
  have Lk_19 : Hid (rSpns.rd w19 (fun b => w12.heap.size ≤ b) [.slice ak (Fr.withoutL m []).length ck] (Fr.withoutL m [])) := Rep.below Lk_18.out b19
  have Lg_19 : Hid (rSpns.rd w19 (fun b => w14.heap.size ≤ b) [.slice ag (Fr.withoutL m []).length cg] (Fr.withoutL m [])) := Rep.below Lg_18.out b19
  have Lf_19 : Hid (rSpns.rd w19 (fun b => w16.heap.size ≤ b) [.slice af (Fr.withoutL m u).length cf] (Fr.withoutL m u)) := Rep.below Lf_18.out b19
  have B_19 : Hid (Below W.heap.size W w19) := on B_18.out b19
  clear Rs_18 Ro_18 Rp_18 Rr_18 Rk_18 Rg_18 Rf_18 Ls_18 Lu_18 Lo_18 Li_18 Lp_18 Lr_18 Lk_18 Lg_18 Lf_18
  clear ho19 b19
  obtain ⟨w20, hw20, V20, b20, z20⟩ := boxedRow w19 24 [.int .i64 (Fr.withoutZ m u), .slice ah (Fr.withoutL m u).length ch]
  have Rh_20 : Hid (Row w20 w19.heap.size 24 [.int .i64 (Fr.withoutZ m u), .slice ah (Fr.withoutL m u).length ch]) := V20
  have Rs_20 : Hid (Row w20 (W.heap.size) 24 [.int .i64 z, .slice a n c]) := Rs_19.out.below b20
  have Ro_20 : Hid (Row w20 (w3.heap.size) 27 [.int .i64 (z), .slice ao (l).length co]) := Ro_19.out.below b20
  have Rp_20 : Hid (Row w20 (w9.heap.size) 27 [.int .i64 (Fr.resizeZ z l m), .slice ap (Fr.resizeL z l m).length cp]) := Rp_19.out.below b20
  have Rr_20 : Hid (Row w20 (w11.heap.size) 24 [.int .i64 (Fr.resizeZ z l m), .slice ar (Fr.resizeL z l m).length cr]) := Rr_19.out.below b20
  have Rk_20 : Hid (Row w20 (w13.heap.size) 27 [.int .i64 (Fr.withoutZ m []), .slice ak (Fr.withoutL m []).length ck]) := Rk_19.out.below b20
  have Rg_20 : Hid (Row w20 (w15.heap.size) 24 [.int .i64 (Fr.withoutZ m []), .slice ag (Fr.withoutL m []).length cg]) := Rg_19.out.below b20
  have Rf_20 : Hid (Row w20 (w17.heap.size) 27 [.int .i64 (Fr.withoutZ m u), .slice af (Fr.withoutL m u).length cf]) := Rf_19.out.below b20
  have Ls_20 : Hid (rSpns.rd w20 (fun b => b < W.heap.size) [.slice a n c] (l)) := Rep.below Ls_19.out b20
  have Lu_20 : Hid (rSpns.rd w20 (fun b => b < W.heap.size) [.slice au nu cu] (u)) := Rep.below Lu_19.out b20
  have Lo_20 : Hid (rSpns.rd w20 (fun b => w1.heap.size ≤ b) [.slice ao (l).length co] (l)) := Rep.below Lo_19.out b20
  have Li_20 : Hid (rSpns.rd w20 (fun b => w2.heap.size ≤ b) [.slice ai (u).length ci] (u)) := Rep.below Li_19.out b20
  have Lp_20 : Hid (rSpns.rd w20 (fun b => w8.heap.size ≤ b) [.slice ap (Fr.resizeL z l m).length cp] (Fr.resizeL z l m)) := Rep.below Lp_19.out b20
  have Lr_20 : Hid (rSpns.rd w20 (fun b => w10.heap.size ≤ b) [.slice ar (Fr.resizeL z l m).length cr] (Fr.resizeL z l m)) := Rep.below Lr_19.out b20
  have Lk_20 : Hid (rSpns.rd w20 (fun b => w12.heap.size ≤ b) [.slice ak (Fr.withoutL m []).length ck] (Fr.withoutL m [])) := Rep.below Lk_19.out b20
  have Lg_20 : Hid (rSpns.rd w20 (fun b => w14.heap.size ≤ b) [.slice ag (Fr.withoutL m []).length cg] (Fr.withoutL m [])) := Rep.below Lg_19.out b20
  have Lf_20 : Hid (rSpns.rd w20 (fun b => w16.heap.size ≤ b) [.slice af (Fr.withoutL m u).length cf] (Fr.withoutL m u)) := Rep.below Lf_19.out b20
  have Lh_20 : Hid (rSpns.rd w20 (fun b => w18.heap.size ≤ b) [.slice ah (Fr.withoutL m u).length ch] (Fr.withoutL m u)) := Rep.below Lh_19.out b20
  have B_20 : Hid (Below W.heap.size W w20) := on B_19.out b20
  clear Rs_19 Ro_19 Rp_19 Rr_19 Rk_19 Rg_19 Rf_19 Ls_19 Lu_19 Lo_19 Li_19 Lp_19 Lr_19 Lk_19 Lg_19 Lf_19 Lh_19
  clear V20 b20 z20
  have ee1 : (Fr.highA z l == Fr.highA z l) = true := beq_self_eq_true _
  have ee2 : (Fr.checkE z l == Fr.checkE z l) = true := beq_self_eq_true _
  have ee3 : (Fr.roomA z l == Fr.roomA z l) = true := beq_self_eq_true _
  have ee4 : (Fr.roomB z l == Fr.roomB z l) = true := beq_self_eq_true _
  have ee5 : (Fr.resizeE z l m == Fr.resizeE z l m) = true := beq_self_eq_true _
  have ee6 : (Fr.withoutE m [] == Fr.withoutE m []) = true := beq_self_eq_true _
  have ee7 : (Fr.withoutE m u == Fr.withoutE m u) = true := beq_self_eq_true _
  obtain ⟨qp0, qp1⟩ := Rp_20.out.two
  obtain ⟨qr0, qr1⟩ := Rr_20.out.two
  go_wp2_with (go_at_call 18; refine (num6_u _ _).mono ?_; rintro e w99 ⟨rfl, rfl⟩)
  refine (alike_u _ _ _ _ _ _ _ _ _ _ _ Lp_20.out Lr_20.out).mono ?_
  rintro e w21 ⟨rfl, b21⟩
  have Rs_21 : Hid (Row w21 (W.heap.size) 24 [.int .i64 z, .slice a n c]) := Rs_20.out.below b21
  have Ro_21 : Hid (Row w21 (w3.heap.size) 27 [.int .i64 (z), .slice ao (l).length co]) := Ro_20.out.below b21
  have Rp_21 : Hid (Row w21 (w9.heap.size) 27 [.int .i64 (Fr.resizeZ z l m), .slice ap (Fr.resizeL z l m).length cp]) := Rp_20.out.below b21
  have Rr_21 : Hid (Row w21 (w11.heap.size) 24 [.int .i64 (Fr.resizeZ z l m), .slice ar (Fr.resizeL z l m).length cr]) := Rr_20.out.below b21
  have Rk_21 : Hid (Row w21 (w13.heap.size) 27 [.int .i64 (Fr.withoutZ m []), .slice ak (Fr.withoutL m []).length ck]) := Rk_20.out.below b21
  have Rg_21 : Hid (Row w21 (w15.heap.size) 24 [.int .i64 (Fr.withoutZ m []), .slice ag (Fr.withoutL m []).length cg]) := Rg_20.out.below b21
  have Rf_21 : Hid (Row w21 (w17.heap.size) 27 [.int .i64 (Fr.withoutZ m u), .slice af (Fr.withoutL m u).length cf]) := Rf_20.out.below b21
  have Rh_21 : Hid (Row w21 (w19.heap.size) 24 [.int .i64 (Fr.withoutZ m u), .slice ah (Fr.withoutL m u).length ch]) := Rh_20.out.below b21
  have Ls_21 : Hid (rSpns.rd w21 (fun b => b < W.heap.size) [.slice a n c] (l)) := Rep.below Ls_20.out b21
  have Lu_21 : Hid (rSpns.rd w21 (fun b => b < W.heap.size) [.slice au nu cu] (u)) := Rep.below Lu_20.out b21
  have Lo_21 : Hid (rSpns.rd w21 (fun b => w1.heap.size ≤ b) [.slice ao (l).length co] (l)) := Rep.below Lo_20.out b21
  have Li_21 : Hid (rSpns.rd w21 (fun b => w2.heap.size ≤ b) [.slice ai (u).length ci] (u)) := Rep.below Li_20.out b21
  have Lp_21 : Hid (rSpns.rd w21 (fun b => w8.heap.size ≤ b) [.slice ap (Fr.resizeL z l m).length cp] (Fr.resizeL z l m)) := Rep.below Lp_20.out b21
  have Lr_21 : Hid (rSpns.rd w21 (fun b => w10.heap.size ≤ b) [.slice ar (Fr.resizeL z l m).length cr] (Fr.resizeL z l m)) := Rep.below Lr_20.out b21
  have Lk_21 : Hid (rSpns.rd w21 (fun b => w12.heap.size ≤ b) [.slice ak (Fr.withoutL m []).length ck] (Fr.withoutL m [])) := Rep.below Lk_20.out b21
  have Lg_21 : Hid (rSpns.rd w21 (fun b => w14.heap.size ≤ b) [.slice ag (Fr.withoutL m []).length cg] (Fr.withoutL m [])) := Rep.below Lg_20.out b21
  have Lf_21 : Hid (rSpns.rd w21 (fun b => w16.heap.size ≤ b) [.slice af (Fr.withoutL m u).length cf] (Fr.withoutL m u)) := Rep.below Lf_20.out b21
  have Lh_21 : Hid (rSpns.rd w21 (fun b => w18.heap.size ≤ b) [.slice ah (Fr.withoutL m u).length ch] (Fr.withoutL m u)) := Rep.below Lh_20.out b21
  have B_21 : Hid (Below W.heap.size W w21) := on B_20.out b21
  clear qp0 qp1 qr0 qr1
  clear Rs_20 Ro_20 Rp_20 Rr_20 Rk_20 Rg_20 Rf_20 Rh_20 Ls_20 Lu_20 Lo_20 Li_20 Lp_20 Lr_20 Lk_20 Lg_20 Lf_20 Lh_20
  clear b21
  obtain ⟨qk0, qk1⟩ := Rk_21.out.two
  obtain ⟨qg0, qg1⟩ := Rg_21.out.two
  go_wp2_with (go_at_call 18; refine (num6_u _ _).mono ?_; rintro e w99 ⟨rfl, rfl⟩)
  refine (alike_u _ _ _ _ _ _ _ _ _ _ _ Lk_21.out Lg_21.out).mono ?_
  rintro e w22 ⟨rfl, b22⟩
  have Rs_22 : Hid (Row w22 (W.heap.size) 24 [.int .i64 z, .slice a n c]) := Rs_21.out.below b22
  have Ro_22 : Hid (Row w22 (w3.heap.size) 27 [.int .i64 (z), .slice ao (l).length co]) := Ro_21.out.below b22
  have Rp_22 : Hid (Row w22 (w9.heap.size) 27 [.int .i64 (Fr.resizeZ z l m), .slice ap (Fr.resizeL z l m).length cp]) := Rp_21.out.below b22
  have Rr_22 : Hid (Row w22 (w11.heap.size) 24 [.int .i64 (Fr.resizeZ z l m), .slice ar (Fr.resizeL z l m).length cr]) := Rr_21.out.below b22
  have Rk_22 : Hid (Row w22 (w13.heap.size) 27 [.int .i64 (Fr.withoutZ m []), .slice ak (Fr.withoutL m []).length ck]) := Rk_21.out.below b22
  have Rg_22 : Hid (Row w22 (w15.heap.size) 24 [.int .i64 (Fr.withoutZ m []), .slice ag (Fr.withoutL m []).length cg]) := Rg_21.out.below b22
  have Rf_22 : Hid (Row w22 (w17.heap.size) 27 [.int .i64 (Fr.withoutZ m u), .slice af (Fr.withoutL m u).length cf]) := Rf_21.out.below b22
  have Rh_22 : Hid (Row w22 (w19.heap.size) 24 [.int .i64 (Fr.withoutZ m u), .slice ah (Fr.withoutL m u).length ch]) := Rh_21.out.below b22
  have Ls_22 : Hid (rSpns.rd w22 (fun b => b < W.heap.size) [.slice a n c] (l)) := Rep.below Ls_21.out b22
  have Lu_22 : Hid (rSpns.rd w22 (fun b => b < W.heap.size) [.slice au nu cu] (u)) := Rep.below Lu_21.out b22
  have Lo_22 : Hid (rSpns.rd w22 (fun b => w1.heap.size ≤ b) [.slice ao (l).length co] (l)) := Rep.below Lo_21.out b22
  have Li_22 : Hid (rSpns.rd w22 (fun b => w2.heap.size ≤ b) [.slice ai (u).length ci] (u)) := Rep.below Li_21.out b22
  have Lp_22 : Hid (rSpns.rd w22 (fun b => w8.heap.size ≤ b) [.slice ap (Fr.resizeL z l m).length cp] (Fr.resizeL z l m)) := Rep.below Lp_21.out b22
  have Lr_22 : Hid (rSpns.rd w22 (fun b => w10.heap.size ≤ b) [.slice ar (Fr.resizeL z l m).length cr] (Fr.resizeL z l m)) := Rep.below Lr_21.out b22
  have Lk_22 : Hid (rSpns.rd w22 (fun b => w12.heap.size ≤ b) [.slice ak (Fr.withoutL m []).length ck] (Fr.withoutL m [])) := Rep.below Lk_21.out b22
  have Lg_22 : Hid (rSpns.rd w22 (fun b => w14.heap.size ≤ b) [.slice ag (Fr.withoutL m []).length cg] (Fr.withoutL m [])) := Rep.below Lg_21.out b22
  have Lf_22 : Hid (rSpns.rd w22 (fun b => w16.heap.size ≤ b) [.slice af (Fr.withoutL m u).length cf] (Fr.withoutL m u)) := Rep.below Lf_21.out b22
  have Lh_22 : Hid (rSpns.rd w22 (fun b => w18.heap.size ≤ b) [.slice ah (Fr.withoutL m u).length ch] (Fr.withoutL m u)) := Rep.below Lh_21.out b22
  have B_22 : Hid (Below W.heap.size W w22) := on B_21.out b22
  clear qk0 qk1 qg0 qg1
  clear Rs_21 Ro_21 Rp_21 Rr_21 Rk_21 Rg_21 Rf_21 Rh_21 Ls_21 Lu_21 Lo_21 Li_21 Lp_21 Lr_21 Lk_21 Lg_21 Lf_21 Lh_21
  clear b22
  obtain ⟨qf0, qf1⟩ := Rf_22.out.two
  obtain ⟨qh0, qh1⟩ := Rh_22.out.two
  go_wp2_with (go_at_call 18; refine (num6_u _ _).mono ?_; rintro e w99 ⟨rfl, rfl⟩)
  refine (alike_u _ _ _ _ _ _ _ _ _ _ _ Lf_22.out Lh_22.out).mono ?_
  rintro e w23 ⟨rfl, b23⟩
  have Rs_23 : Hid (Row w23 (W.heap.size) 24 [.int .i64 z, .slice a n c]) := Rs_22.out.below b23
  have Ro_23 : Hid (Row w23 (w3.heap.size) 27 [.int .i64 (z), .slice ao (l).length co]) := Ro_22.out.below b23
  have Rp_23 : Hid (Row w23 (w9.heap.size) 27 [.int .i64 (Fr.resizeZ z l m), .slice ap (Fr.resizeL z l m).length cp]) := Rp_22.out.below b23
  have Rr_23 : Hid (Row w23 (w11.heap.size) 24 [.int .i64 (Fr.resizeZ z l m), .slice ar (Fr.resizeL z l m).length cr]) := Rr_22.out.below b23
  have Rk_23 : Hid (Row w23 (w13.heap.size) 27 [.int .i64 (Fr.withoutZ m []), .slice ak (Fr.withoutL m []).length ck]) := Rk_22.out.below b23
  have Rg_23 : Hid (Row w23 (w15.heap.size) 24 [.int .i64 (Fr.withoutZ m []), .slice ag (Fr.withoutL m []).length cg]) := Rg_22.out.below b23
  have Rf_23 : Hid (Row w23 (w17.heap.size) 27 [.int .i64 (Fr.withoutZ m u), .slice af (Fr.withoutL m u).length cf]) := Rf_22.out.below b23
  have Rh_23 : Hid (Row w23 (w19.heap.size) 24 [.int .i64 (Fr.withoutZ m u), .slice ah (Fr.withoutL m u).length ch]) := Rh_22.out.below b23
  have Ls_23 : Hid (rSpns.rd w23 (fun b => b < W.heap.size) [.slice a n c] (l)) := Rep.below Ls_22.out b23
  have Lu_23 : Hid (rSpns.rd w23 (fun b => b < W.heap.size) [.slice au nu cu] (u)) := Rep.below Lu_22.out b23
  have Lo_23 : Hid (rSpns.rd w23 (fun b => w1.heap.size ≤ b) [.slice ao (l).length co] (l)) := Rep.below Lo_22.out b23
  have Li_23 : Hid (rSpns.rd w23 (fun b => w2.heap.size ≤ b) [.slice ai (u).length ci] (u)) := Rep.below Li_22.out b23
  have Lp_23 : Hid (rSpns.rd w23 (fun b => w8.heap.size ≤ b) [.slice ap (Fr.resizeL z l m).length cp] (Fr.resizeL z l m)) := Rep.below Lp_22.out b23
  have Lr_23 : Hid (rSpns.rd w23 (fun b => w10.heap.size ≤ b) [.slice ar (Fr.resizeL z l m).length cr] (Fr.resizeL z l m)) := Rep.below Lr_22.out b23
  have Lk_23 : Hid (rSpns.rd w23 (fun b => w12.heap.size ≤ b) [.slice ak (Fr.withoutL m []).length ck] (Fr.withoutL m [])) := Rep.below Lk_22.out b23
  have Lg_23 : Hid (rSpns.rd w23 (fun b => w14.heap.size ≤ b) [.slice ag (Fr.withoutL m []).length cg] (Fr.withoutL m [])) := Rep.below Lg_22.out b23
  have Lf_23 : Hid (rSpns.rd w23 (fun b => w16.heap.size ≤ b) [.slice af (Fr.withoutL m u).length cf] (Fr.withoutL m u)) := Rep.below Lf_22.out b23
  have Lh_23 : Hid (rSpns.rd w23 (fun b => w18.heap.size ≤ b) [.slice ah (Fr.withoutL m u).length ch] (Fr.withoutL m u)) := Rep.below Lh_22.out b23
  have B_23 : Hid (Below W.heap.size W w23) := on B_22.out b23
  clear qf0 qf1 qh0 qh1
  clear Rs_22 Ro_22 Rp_22 Rr_22 Rk_22 Rg_22 Rf_22 Rh_22 Ls_22 Lu_22 Lo_22 Li_22 Lp_22 Lr_22 Lk_22 Lg_22 Lf_22 Lh_22
  clear b23
  clear Rp_23 Rr_23 Rk_23 Rg_23 Rf_23 Rh_23 Lp_23 Lr_23 Lk_23 Lg_23 Lf_23 Lh_23
  obtain ⟨qo0, qo1⟩ := Ro_23.out.two
  obtain ⟨qs0, qs1⟩ := Rs_23.out.two
  go_wp2_with (go_at_call 18; refine (num6_u _ _).mono ?_; rintro e w99 ⟨rfl, rfl⟩)
  refine (alike_u _ _ _ z _ _ _ _ _ _ l Lo_23.out Ls_23.out).mono ?_
  rintro e w24 ⟨rfl, b24⟩
  have Rs_24 : Hid (Row w24 (W.heap.size) 24 [.int .i64 z, .slice a n c]) := Rs_23.out.below b24
  have Ro_24 : Hid (Row w24 (w3.heap.size) 27 [.int .i64 (z), .slice ao (l).length co]) := Ro_23.out.below b24
  have Ls_24 : Hid (rSpns.rd w24 (fun b => b < W.heap.size) [.slice a n c] (l)) := Rep.below Ls_23.out b24
  have Lu_24 : Hid (rSpns.rd w24 (fun b => b < W.heap.size) [.slice au nu cu] (u)) := Rep.below Lu_23.out b24
  have Lo_24 : Hid (rSpns.rd w24 (fun b => w1.heap.size ≤ b) [.slice ao (l).length co] (l)) := Rep.below Lo_23.out b24
  have Li_24 : Hid (rSpns.rd w24 (fun b => w2.heap.size ≤ b) [.slice ai (u).length ci] (u)) := Rep.below Li_23.out b24
  have B_24 : Hid (Below W.heap.size W w24) := on B_23.out b24
  clear qo0 qo1 qs0 qs1
  clear Rs_23 Ro_23 Ls_23 Lu_23 Lo_23 Li_23
  clear b24
  go_wp2_with (go_at_call 18; refine (num6_u _ _).mono ?_; rintro e w99 ⟨rfl, rfl⟩)
  refine (sameSpns_u _ _ _ _ _ _ _ _ _ u u Li_24.out Lu_24.out).mono ?_
  rintro e w25 ⟨rfl, b25⟩
  have Rs_25 : Hid (Row w25 (W.heap.size) 24 [.int .i64 z, .slice a n c]) := Rs_24.out.below b25
  have Ro_25 : Hid (Row w25 (w3.heap.size) 27 [.int .i64 (z), .slice ao (l).length co]) := Ro_24.out.below b25
  have Ls_25 : Hid (rSpns.rd w25 (fun b => b < W.heap.size) [.slice a n c] (l)) := Rep.below Ls_24.out b25
  have Lu_25 : Hid (rSpns.rd w25 (fun b => b < W.heap.size) [.slice au nu cu] (u)) := Rep.below Lu_24.out b25
  have Lo_25 : Hid (rSpns.rd w25 (fun b => w1.heap.size ≤ b) [.slice ao (l).length co] (l)) := Rep.below Lo_24.out b25
  have Li_25 : Hid (rSpns.rd w25 (fun b => w2.heap.size ≤ b) [.slice ai (u).length ci] (u)) := Rep.below Li_24.out b25
  have B_25 : Hid (Below W.heap.size W w25) := on B_24.out b25
  clear Rs_24 Ro_24 Ls_24 Lu_24 Lo_24 Li_24
  clear b25
  rw [decide_eq_true rfl]
  go_wp2_with (go_at_call 18; refine (num6_u _ _).mono ?_; rintro e w99 ⟨rfl, rfl⟩)
  refine (alive6_u _).mono ?_
  rintro e w26 ⟨rfl, b26⟩
  have Rs_26 : Hid (Row w26 (W.heap.size) 24 [.int .i64 z, .slice a n c]) := Rs_25.out.below b26
  have Ro_26 : Hid (Row w26 (w3.heap.size) 27 [.int .i64 (z), .slice ao (l).length co]) := Ro_25.out.below b26
  have Ls_26 : Hid (rSpns.rd w26 (fun b => b < W.heap.size) [.slice a n c] (l)) := Rep.below Ls_25.out b26
  have Lu_26 : Hid (rSpns.rd w26 (fun b => b < W.heap.size) [.slice au nu cu] (u)) := Rep.below Lu_25.out b26
  have Lo_26 : Hid (rSpns.rd w26 (fun b => w1.heap.size ≤ b) [.slice ao (l).length co] (l)) := Rep.below Lo_25.out b26
  have Li_26 : Hid (rSpns.rd w26 (fun b => w2.heap.size ≤ b) [.slice ai (u).length ci] (u)) := Rep.below Li_25.out b26
  have B_26 : Hid (Below W.heap.size W w26) := on B_25.out b26
  clear Rs_25 Ro_25 Ls_25 Lu_25 Lo_25 Li_25
  clear b26
  go_wp2_with (go_at_call 18; refine (num6_u _ _).mono ?_; rintro e w99 ⟨rfl, rfl⟩)
  go_ret
  exact ⟨rfl, B_26.out⟩

set_option maxRecDepth 100000 in
theorem fsizes_lifted (os : Os) (started : os.Started) (H : Type) (enc : TypeId × Value → H) :
    ReturnsInHanded {} Try.checked os 4 .any (Rows.freeSizesSpec.pre6 enc Try.prog Try.f4 Rows.freeSizesRow.domain false) (Rows.freeSizesSpec.post enc Try.prog Try.f4 false true false false) := by
  refine returnsInHanded_of_change_sized (C := Try.checked) own started (by kernel_rfl) Try.func4
    (ChangeSpec.witness6 (enc := enc) (C := Try.checked) false ⟨#[], #[.agg #[.int .i64 0, .slice none 0 0], .int .i64 0, .slice none 0 0], []⟩ 8 (by kernel_rfl) (by kernel_rfl) (by kernel_rfl) (by kernel_rfl)) ?_
  intro W base args ds gs before hval0 hW _ hsz0 _
  have hsz : (DataW.weightsEach Try.prog (Try.f4.params.toList ++ Rows.freeSizesSpec.plain.varTypes Try.prog) (ds ++ gs)).all (· ≤ reachBytes) = true := hsz0
  clear hsz0
  have hval : ∀ (j : Nat) t v, Try.f4.params[j]? = some t → args[j]? = some v → Value.okWide Try.prog W .any base t v := hval0
  have hW' := hW
  obtain ⟨p, q, hA0, hV, rfl, hfz, hnd⟩ := hW
  have hA : DataW.TrodAll enc Try.prog W 0 (fun _ => true) true Try.f4.params.toList args.toList ds p := hA0
  rw [Try.params4] at hA hval hsz
  obtain ⟨v0, vs0, d0, ds0, p0, q0, hargs, rfl, rfl, h0, r0⟩ := trodAll_cons hA
  obtain ⟨v1, vs1, d1, ds1, p1, q1, rfl, rfl, rfl, h1, r1⟩ := trodAll_cons r0
  obtain ⟨v2, vs2, d2, ds2, p2, q2, rfl, rfl, rfl, h2, r2⟩ := trodAll_cons r1
  obtain ⟨rfl, rfl, rfl⟩ := trodAll_nil r2
  obtain rfl : args = #[v0, v1, v2] := by cases args; simp_all
  obtain ⟨rfl, rfl⟩ := trodVars_none hV
  obtain ⟨c0, rfl, -⟩ := okWide_struct Try.underlying24 (hval 0 24 v0 rfl rfl)
  have k0 := h0
  have lt0 : ∀ x ∈ p0, x.block < W.heap.size := by obtain ⟨m, hm⟩ := k0; exact DataW.trod_lt m _ _ _ hm
  obtain ⟨x0, hx0⟩ := opens_state.arg h0 hsz (j := 0) rfl rfl
  obtain ⟨a1, rfl, rfl, rfl, w1⟩ := open_int Try.underlying3 (hval 1 3 v1 rfl rfl) h1
  have i1 := bounds_i64 w1
  obtain ⟨a2, len2, cap2, rfl⟩ := okWide_slice Try.underlying22 (hval 2 22 v2 rfl rfl)
  have k2 := h2
  have lt2 : ∀ x ∈ p2, x.block < W.heap.size := by obtain ⟨m, hm⟩ := k2; exact DataW.trod_lt m _ _ _ hm
  obtain ⟨x2, hx2⟩ := opens_spans.arg h2 hsz (j := 2) rfl rfl
  clear hA0 hval0
  refine (fsizes_walk c0.toList x0 a1 a2 len2 cap2 x2 W hx0 (by omega) (by omega) hx2).mono fun e W' ⟨he, bel⟩ => ?_
  subst he
  exact ⟨_, rfl, _, _, _, [], _, [], hW', trodAll_mk1 (shut_bool Try.underlying4 _), (trodAll_cons_mk (Below.trod laidOut (by kernel_rfl) (of_decide_eq_true (by kernel_rfl)) k0 bel lt0) (trodAll_cons_mk (shut_int Try.underlying3 w1) (trodAll_cons_mk (Below.trod laidOut (by kernel_rfl) (of_decide_eq_true (by kernel_rfl)) k2 bel lt2) trodAll_mk0))), rfl, bel.frame _, fun h => by cases h⟩

theorem freeSizes_holds : Rows.FreeSizesSaid :=
  OpenClaim.holds_of_wide 4 Try.f4 rfl rfl rfl rfl rfl rfl rfl ⟨rfl, rfl, rfl, rfl, rfl⟩ rfl rfl rfl rfl rfl (by kernel_rfl) Try.func4 (by kernel_rfl)
    (of_decide_eq_true (by kernel_rfl)) (by unfold Func.isWrapper; first | (rw [if_pos (by decide +kernel)]; kernel_rfl) | (rw [if_neg (by decide +kernel)]; exact ⟨rfl, rfl⟩))
    (fun os started H enc _ => fsizes_lifted os started H enc)

end Go.Proofs.Ytbbjbajdoekheaa
