/-
  Of any state: what fits best, what is left behind it, sectors taken and freed, are as the page says, and it stays: at whatever state, number, line and span. Conditions: none.
-/
import Derived.Test.YtbbjbajdoekheaaFAlive
import Derived.Test.YtbbjbajdoekheaaFFrame
import Derived.Test.YtbbjbajdoekheaaRFB
namespace Go.Proofs.Ytbbjbajdoekheaa
open Go.ChangeShapes Go.WideShapes Go.ChangeAt Go.RowKit
set_option linter.unusedVariables false

set_option maxRecDepth 20000 in
set_option maxHeartbeats 8000000 in
theorem ftells_walk (cs : List Value) (st : Int × List Spn) (q line : Int) (xs : List Value) (x : Spn) (W : World) (h0 : rState.rd W (fun b => b < W.heap.size) cs st) (hq0 : -9223372036854775808 ≤ q) (hq : q ≤ 9223372036854775807) (hl0 : -9223372036854775808 ≤ line) (hl2 : line ≤ 9223372036854775807) (h1 : rSpn.rd W (fun b => b < W.heap.size) xs x) :
    Calls Try.prog 3 #[.agg cs.toArray, .int .i64 q, .int .i64 line, .agg xs.toArray] W fun e W' => e = .returned (.bool true) ∧ Below W.heap.size W W' := by
  obtain ⟨a, n, c, rfl, hz, hL⟩ := rState_rd h0
  obtain ⟨z, l⟩ := st
  simp only at hz hL
  have HL : Hid (l.length = n) := (rList_len hL).1
  have HLB : Hid (l.length ≤ 8796093021952) := by unfold Hid; rw [HL.out]; have h : n * 16 ≤ 140737488351232 := (rList_len hL).2.2.2; omega
  have HZI : Hid (In64 z) := hz
  obtain ⟨rfl, hx2⟩ := rSpn_rd.1 h1
  have HX : Hid (In2 x) := hx2
  rw [show (spn2 x).toArray = #[.int .i64 x.1, .int .i64 x.2] from rfl]
  rw [show ([.int .i64 z, .slice a n c] : List Value).toArray = #[.int .i64 z, .slice a n c] from rfl]
  obtain ⟨w0, hw0, V0, b0, z0⟩ := boxedRow W 24 [.int .i64 z, .slice a n c]
  obtain ⟨w1, hw1, V1, b1, z1⟩ := boxedRow w0 26 [.int .i64 x.1, .int .i64 x.2]
  rw [z0] at V1
  have Rs_1 : Hid (Row w1 W.heap.size 24 [.int .i64 z, .slice a n c]) := V0.below b1
  have Rx_1 : Hid (Row w1 (W.heap.size + 1) 26 [.int .i64 x.1, .int .i64 x.2]) := V1
  have B_1 : Hid (Below W.heap.size W w1) := on b0 b1
  have Ls_1 : Hid (rSpns.rd w1 (fun b => b < W.heap.size) [.slice a n c] (l)) := Rep.below hL B_1.out
  clear V0 V1 b0 b1 z1 h0 h1 hL hz hx2
  go_enter Try.func3, Try.ntmps3
  obtain ⟨qs0, qs1⟩ := Rs_1.out.two
  go_wp2_with (go_at_call 18; refine (num6_u _ _).mono ?_; rintro e w99 ⟨rfl, rfl⟩)
  refine (of_u _ _ z _ _ _ l Ls_1.out).mono ?_
  rintro e w2 ⟨v2, rfl, ho2, b2⟩
  obtain ⟨ao, co, hv2, -, -⟩ := ho2.slice
  subst hv2
  have Lo_2 : Hid (rSpns.rd w2 (fun b => w1.heap.size ≤ b) [.slice ao (l).length co] (l)) := ho2.rd (HLB.out)
  have Rs_2 : Hid (Row w2 (W.heap.size) 24 [.int .i64 z, .slice a n c]) := Rs_1.out.below b2
  have Rx_2 : Hid (Row w2 (W.heap.size + 1) 26 [.int .i64 x.1, .int .i64 x.2]) := Rx_1.out.below b2
  have Ls_2 : Hid (rSpns.rd w2 (fun b => b < W.heap.size) [.slice a n c] (l)) := Rep.below Ls_1.out b2
  have B_2 : Hid (Below W.heap.size W w2) := on B_1.out b2
  clear qs0 qs1
  clear Rs_1 Rx_1 Ls_1
  clear ho2 b2
  obtain ⟨w3, hw3, V3, b3, z3⟩ := boxedRow w2 27 [.int .i64 (z), .slice ao (l).length co]
  have Ro_3 : Hid (Row w3 w2.heap.size 27 [.int .i64 (z), .slice ao (l).length co]) := V3
  have Rs_3 : Hid (Row w3 (W.heap.size) 24 [.int .i64 z, .slice a n c]) := Rs_2.out.below b3
  have Rx_3 : Hid (Row w3 (W.heap.size + 1) 26 [.int .i64 x.1, .int .i64 x.2]) := Rx_2.out.below b3
  have Ls_3 : Hid (rSpns.rd w3 (fun b => b < W.heap.size) [.slice a n c] (l)) := Rep.below Ls_2.out b3
  have Lo_3 : Hid (rSpns.rd w3 (fun b => w1.heap.size ≤ b) [.slice ao (l).length co] (l)) := Rep.below Lo_2.out b3
  have B_3 : Hid (Below W.heap.size W w3) := on B_2.out b3
  clear Rs_2 Rx_2 Ls_2 Lo_2
  clear V3 b3 z3
  obtain ⟨qo0, qo1⟩ := Ro_3.out.two
  go_wp2_with (go_at_call 18; refine (num6_u _ _).mono ?_; rintro e w99 ⟨rfl, rfl⟩)
  refine (freeBest_u _ _ z _ _ _ l Lo_3.out q line hq hl2).mono ?_
  rintro e w4 ⟨rfl, b4⟩
  have Rs_4 : Hid (Row w4 (W.heap.size) 24 [.int .i64 z, .slice a n c]) := Rs_3.out.below b4
  have Rx_4 : Hid (Row w4 (W.heap.size + 1) 26 [.int .i64 x.1, .int .i64 x.2]) := Rx_3.out.below b4
  have Ro_4 : Hid (Row w4 (w2.heap.size) 27 [.int .i64 (z), .slice ao (l).length co]) := Ro_3.out.below b4
  have Ls_4 : Hid (rSpns.rd w4 (fun b => b < W.heap.size) [.slice a n c] (l)) := Rep.below Ls_3.out b4
  have Lo_4 : Hid (rSpns.rd w4 (fun b => w1.heap.size ≤ b) [.slice ao (l).length co] (l)) := Rep.below Lo_3.out b4
  have B_4 : Hid (Below W.heap.size W w4) := on B_3.out b4
  clear qo0 qo1
  clear Rs_3 Rx_3 Ro_3 Ls_3 Lo_3
  clear b4
  obtain ⟨qs0, qs1⟩ := Rs_4.out.two
  go_wp2_with (go_at_call 18; refine (num6_u _ _).mono ?_; rintro e w99 ⟨rfl, rfl⟩)
  refine (refBest_u _ _ z _ _ _ l Ls_4.out q line hq hl2).mono ?_
  rintro e w5 ⟨rfl, b5⟩
  have Rs_5 : Hid (Row w5 (W.heap.size) 24 [.int .i64 z, .slice a n c]) := Rs_4.out.below b5
  have Rx_5 : Hid (Row w5 (W.heap.size + 1) 26 [.int .i64 x.1, .int .i64 x.2]) := Rx_4.out.below b5
  have Ro_5 : Hid (Row w5 (w2.heap.size) 27 [.int .i64 (z), .slice ao (l).length co]) := Ro_4.out.below b5
  have Ls_5 : Hid (rSpns.rd w5 (fun b => b < W.heap.size) [.slice a n c] (l)) := Rep.below Ls_4.out b5
  have Lo_5 : Hid (rSpns.rd w5 (fun b => w1.heap.size ≤ b) [.slice ao (l).length co] (l)) := Rep.below Lo_4.out b5
  have B_5 : Hid (Below W.heap.size W w5) := on B_4.out b5
  clear qs0 qs1
  clear Rs_4 Rx_4 Ro_4 Ls_4 Lo_4
  clear b5
  obtain ⟨qo0, qo1⟩ := Ro_5.out.two
  go_wp2_with (go_at_call 18; refine (num6_u _ _).mono ?_; rintro e w99 ⟨rfl, rfl⟩)
  refine (freeAlloc_u _ _ z _ _ _ l Lo_5.out q line hq0 hq hl2).mono ?_
  rintro e w6 ⟨v6, rfl, ho6, b6⟩
  obtain ⟨ap, cp, hv6, -, -⟩ := ho6.slice
  subst hv6
  have Lp_6 : Hid (rSpns.rd w6 (fun b => w5.heap.size ≤ b) [.slice ap (Fr.allocL z l q line).length cp] (Fr.allocL z l q line)) := ho6.rd (by have := Fr.allocL_len z l q line; omega)
  have Rs_6 : Hid (Row w6 (W.heap.size) 24 [.int .i64 z, .slice a n c]) := Rs_5.out.below b6
  have Rx_6 : Hid (Row w6 (W.heap.size + 1) 26 [.int .i64 x.1, .int .i64 x.2]) := Rx_5.out.below b6
  have Ro_6 : Hid (Row w6 (w2.heap.size) 27 [.int .i64 (z), .slice ao (l).length co]) := Ro_5.out.below b6
  have Ls_6 : Hid (rSpns.rd w6 (fun b => b < W.heap.size) [.slice a n c] (l)) := Rep.below Ls_5.out b6
  have Lo_6 : Hid (rSpns.rd w6 (fun b => w1.heap.size ≤ b) [.slice ao (l).length co] (l)) := Rep.below Lo_5.out b6
  have B_6 : Hid (Below W.heap.size W w6) := on B_5.out b6
  clear qo0 qo1
  clear Rs_5 Rx_5 Ro_5 Ls_5 Lo_5
  clear ho6 b6
  obtain ⟨w7, hw7, V7, b7, z7⟩ := boxedRow w6 27 [.int .i64 (Fr.allocZ z l q line), .slice ap (Fr.allocL z l q line).length cp]
  have Rp_7 : Hid (Row w7 w6.heap.size 27 [.int .i64 (Fr.allocZ z l q line), .slice ap (Fr.allocL z l q line).length cp]) := V7
  have Rs_7 : Hid (Row w7 (W.heap.size) 24 [.int .i64 z, .slice a n c]) := Rs_6.out.below b7
  have Rx_7 : Hid (Row w7 (W.heap.size + 1) 26 [.int .i64 x.1, .int .i64 x.2]) := Rx_6.out.below b7
  have Ro_7 : Hid (Row w7 (w2.heap.size) 27 [.int .i64 (z), .slice ao (l).length co]) := Ro_6.out.below b7
  have Ls_7 : Hid (rSpns.rd w7 (fun b => b < W.heap.size) [.slice a n c] (l)) := Rep.below Ls_6.out b7
  have Lo_7 : Hid (rSpns.rd w7 (fun b => w1.heap.size ≤ b) [.slice ao (l).length co] (l)) := Rep.below Lo_6.out b7
  have Lp_7 : Hid (rSpns.rd w7 (fun b => w5.heap.size ≤ b) [.slice ap (Fr.allocL z l q line).length cp] (Fr.allocL z l q line)) := Rep.below Lp_6.out b7
  have B_7 : Hid (Below W.heap.size W w7) := on B_6.out b7
  clear Rs_6 Rx_6 Ro_6 Ls_6 Lo_6 Lp_6
  clear V7 b7 z7
  obtain ⟨qs0, qs1⟩ := Rs_7.out.two
  go_wp2_with (go_at_call 18; refine (num6_u _ _).mono ?_; rintro e w99 ⟨rfl, rfl⟩)
  refine (refAlloc_u _ _ z _ _ _ l Ls_7.out q line hq0 hq hl2).mono ?_
  rintro e w8 ⟨v8, rfl, ho8, b8⟩
  obtain ⟨ar, cr, hv8, -, -⟩ := ho8.slice
  subst hv8
  have Lr_8 : Hid (rSpns.rd w8 (fun b => w7.heap.size ≤ b) [.slice ar (Fr.allocL z l q line).length cr] (Fr.allocL z l q line)) := ho8.rd (by have := Fr.allocL_len z l q line; omega)
  have Rs_8 : Hid (Row w8 (W.heap.size) 24 [.int .i64 z, .slice a n c]) := Rs_7.out.below b8
  have Rx_8 : Hid (Row w8 (W.heap.size + 1) 26 [.int .i64 x.1, .int .i64 x.2]) := Rx_7.out.below b8
  have Ro_8 : Hid (Row w8 (w2.heap.size) 27 [.int .i64 (z), .slice ao (l).length co]) := Ro_7.out.below b8
  have Rp_8 : Hid (Row w8 (w6.heap.size) 27 [.int .i64 (Fr.allocZ z l q line), .slice ap (Fr.allocL z l q line).length cp]) := Rp_7.out.below b8
  have Ls_8 : Hid (rSpns.rd w8 (fun b => b < W.heap.size) [.slice a n c] (l)) := Rep.below Ls_7.out b8
  have Lo_8 : Hid (rSpns.rd w8 (fun b => w1.heap.size ≤ b) [.slice ao (l).length co] (l)) := Rep.below Lo_7.out b8
  have Lp_8 : Hid (rSpns.rd w8 (fun b => w5.heap.size ≤ b) [.slice ap (Fr.allocL z l q line).length cp] (Fr.allocL z l q line)) := Rep.below Lp_7.out b8
  have B_8 : Hid (Below W.heap.size W w8) := on B_7.out b8
  clear qs0 qs1
  clear Rs_7 Rx_7 Ro_7 Rp_7 Ls_7 Lo_7 Lp_7
  clear ho8 b8
  obtain ⟨w9, hw9, V9, b9, z9⟩ := boxedRow w8 24 [.int .i64 (Fr.allocZ z l q line), .slice ar (Fr.allocL z l q line).length cr]
  have Rr_9 : Hid (Row w9 w8.heap.size 24 [.int .i64 (Fr.allocZ z l q line), .slice ar (Fr.allocL z l q line).length cr]) := V9
  have Rs_9 : Hid (Row w9 (W.heap.size) 24 [.int .i64 z, .slice a n c]) := Rs_8.out.below b9
  have Rx_9 : Hid (Row w9 (W.heap.size + 1) 26 [.int .i64 x.1, .int .i64 x.2]) := Rx_8.out.below b9
  have Ro_9 : Hid (Row w9 (w2.heap.size) 27 [.int .i64 (z), .slice ao (l).length co]) := Ro_8.out.below b9
  have Rp_9 : Hid (Row w9 (w6.heap.size) 27 [.int .i64 (Fr.allocZ z l q line), .slice ap (Fr.allocL z l q line).length cp]) := Rp_8.out.below b9
  have Ls_9 : Hid (rSpns.rd w9 (fun b => b < W.heap.size) [.slice a n c] (l)) := Rep.below Ls_8.out b9
  have Lo_9 : Hid (rSpns.rd w9 (fun b => w1.heap.size ≤ b) [.slice ao (l).length co] (l)) := Rep.below Lo_8.out b9
  have Lp_9 : Hid (rSpns.rd w9 (fun b => w5.heap.size ≤ b) [.slice ap (Fr.allocL z l q line).length cp] (Fr.allocL z l q line)) := Rep.below Lp_8.out b9
  have Lr_9 : Hid (rSpns.rd w9 (fun b => w7.heap.size ≤ b) [.slice ar (Fr.allocL z l q line).length cr] (Fr.allocL z l q line)) := Rep.below Lr_8.out b9
  have B_9 : Hid (Below W.heap.size W w9) := on B_8.out b9
  clear Rs_8 Rx_8 Ro_8 Rp_8 Ls_8 Lo_8 Lp_8 Lr_8
  clear V9 b9 z9
  obtain ⟨qo0, qo1⟩ := Ro_9.out.two
  obtain ⟨qx0, qx1⟩ := Rx_9.out.two
  go_wp2_with (go_at_call 18; refine (num6_u _ _).mono ?_; rintro e w99 ⟨rfl, rfl⟩)
  refine (freeTake_u _ _ z _ _ _ l Lo_9.out x HX.out).mono ?_
  rintro e w10 ⟨v10, rfl, ho10, b10⟩
  obtain ⟨ak, ck, hv10, -, -⟩ := ho10.slice
  subst hv10
  have Lk_10 : Hid (rSpns.rd w10 (fun b => w9.heap.size ≤ b) [.slice ak (Fr.takeL z l x).length ck] (Fr.takeL z l x)) := ho10.rd (by have := Fr.takeL_len z l x; omega)
  have Rs_10 : Hid (Row w10 (W.heap.size) 24 [.int .i64 z, .slice a n c]) := Rs_9.out.below b10
  have Rx_10 : Hid (Row w10 (W.heap.size + 1) 26 [.int .i64 x.1, .int .i64 x.2]) := Rx_9.out.below b10
  have Ro_10 : Hid (Row w10 (w2.heap.size) 27 [.int .i64 (z), .slice ao (l).length co]) := Ro_9.out.below b10
  have Rp_10 : Hid (Row w10 (w6.heap.size) 27 [.int .i64 (Fr.allocZ z l q line), .slice ap (Fr.allocL z l q line).length cp]) := Rp_9.out.below b10
  have Rr_10 : Hid (Row w10 (w8.heap.size) 24 [.int .i64 (Fr.allocZ z l q line), .slice ar (Fr.allocL z l q line).length cr]) := Rr_9.out.below b10
  have Ls_10 : Hid (rSpns.rd w10 (fun b => b < W.heap.size) [.slice a n c] (l)) := Rep.below Ls_9.out b10
  have Lo_10 : Hid (rSpns.rd w10 (fun b => w1.heap.size ≤ b) [.slice ao (l).length co] (l)) := Rep.below Lo_9.out b10
  have Lp_10 : Hid (rSpns.rd w10 (fun b => w5.heap.size ≤ b) [.slice ap (Fr.allocL z l q line).length cp] (Fr.allocL z l q line)) := Rep.below Lp_9.out b10
  have Lr_10 : Hid (rSpns.rd w10 (fun b => w7.heap.size ≤ b) [.slice ar (Fr.allocL z l q line).length cr] (Fr.allocL z l q line)) := Rep.below Lr_9.out b10
  have B_10 : Hid (Below W.heap.size W w10) := on B_9.out b10
  clear qo0 qo1 qx0 qx1
  clear Rs_9 Rx_9 Ro_9 Rp_9 Rr_9 Ls_9 Lo_9 Lp_9 Lr_9
  clear ho10 b10
  obtain ⟨w11, hw11, V11, b11, z11⟩ := boxedRow w10 27 [.int .i64 (Fr.takeZ z l x), .slice ak (Fr.takeL z l x).length ck]
  have Rk_11 : Hid (Row w11 w10.heap.size 27 [.int .i64 (Fr.takeZ z l x), .slice ak (Fr.takeL z l x).length ck]) := V11
  have Rs_11 : Hid (Row w11 (W.heap.size) 24 [.int .i64 z, .slice a n c]) := Rs_10.out.below b11
  have Rx_11 : Hid (Row w11 (W.heap.size + 1) 26 [.int .i64 x.1, .int .i64 x.2]) := Rx_10.out.below b11
  have Ro_11 : Hid (Row w11 (w2.heap.size) 27 [.int .i64 (z), .slice ao (l).length co]) := Ro_10.out.below b11
  have Rp_11 : Hid (Row w11 (w6.heap.size) 27 [.int .i64 (Fr.allocZ z l q line), .slice ap (Fr.allocL z l q line).length cp]) := Rp_10.out.below b11
  have Rr_11 : Hid (Row w11 (w8.heap.size) 24 [.int .i64 (Fr.allocZ z l q line), .slice ar (Fr.allocL z l q line).length cr]) := Rr_10.out.below b11
  have Ls_11 : Hid (rSpns.rd w11 (fun b => b < W.heap.size) [.slice a n c] (l)) := Rep.below Ls_10.out b11
  have Lo_11 : Hid (rSpns.rd w11 (fun b => w1.heap.size ≤ b) [.slice ao (l).length co] (l)) := Rep.below Lo_10.out b11
  have Lp_11 : Hid (rSpns.rd w11 (fun b => w5.heap.size ≤ b) [.slice ap (Fr.allocL z l q line).length cp] (Fr.allocL z l q line)) := Rep.below Lp_10.out b11
  have Lr_11 : Hid (rSpns.rd w11 (fun b => w7.heap.size ≤ b) [.slice ar (Fr.allocL z l q line).length cr] (Fr.allocL z l q line)) := Rep.below Lr_10.out b11
  have Lk_11 : Hid (rSpns.rd w11 (fun b => w9.heap.size ≤ b) [.slice ak (Fr.takeL z l x).length ck] (Fr.takeL z l x)) := Rep.below Lk_10.out b11
  have B_11 : Hid (Below W.heap.size W w11) := on B_10.out b11
  clear Rs_10 Rx_10 Ro_10 Rp_10 Rr_10 Ls_10 Lo_10 Lp_10 Lr_10 Lk_10
  clear V11 b11 z11
  obtain ⟨qs0, qs1⟩ := Rs_11.out.two
  obtain ⟨qx0, qx1⟩ := Rx_11.out.two
  go_wp2_with (go_at_call 18; refine (num6_u _ _).mono ?_; rintro e w99 ⟨rfl, rfl⟩)
  refine (refTake_u _ _ z _ _ _ l Ls_11.out x HX.out).mono ?_
  rintro e w12 ⟨v12, rfl, ho12, b12⟩
  obtain ⟨am, cm, hv12, -, -⟩ := ho12.slice
  subst hv12
  have Lm_12 : Hid (rSpns.rd w12 (fun b => w11.heap.size ≤ b) [.slice am (Fr.takeL z l x).length cm] (Fr.takeL z l x)) := ho12.rd (by have := Fr.takeL_len z l x; omega)
  have Rs_12 : Hid (Row w12 (W.heap.size) 24 [.int .i64 z, .slice a n c]) := Rs_11.out.below b12
  have Rx_12 : Hid (Row w12 (W.heap.size + 1) 26 [.int .i64 x.1, .int .i64 x.2]) := Rx_11.out.below b12
  have Ro_12 : Hid (Row w12 (w2.heap.size) 27 [.int .i64 (z), .slice ao (l).length co]) := Ro_11.out.below b12
  have Rp_12 : Hid (Row w12 (w6.heap.size) 27 [.int .i64 (Fr.allocZ z l q line), .slice ap (Fr.allocL z l q line).length cp]) := Rp_11.out.below b12
  have Rr_12 : Hid (Row w12 (w8.heap.size) 24 [.int .i64 (Fr.allocZ z l q line), .slice ar (Fr.allocL z l q line).length cr]) := Rr_11.out.below b12
  have Rk_12 : Hid (Row w12 (w10.heap.size) 27 [.int .i64 (Fr.takeZ z l x), .slice ak (Fr.takeL z l x).length ck]) := Rk_11.out.below b12
  have Ls_12 : Hid (rSpns.rd w12 (fun b => b < W.heap.size) [.slice a n c] (l)) := Rep.below Ls_11.out b12
  have Lo_12 : Hid (rSpns.rd w12 (fun b => w1.heap.size ≤ b) [.slice ao (l).length co] (l)) := Rep.below Lo_11.out b12
  have Lp_12 : Hid (rSpns.rd w12 (fun b => w5.heap.size ≤ b) [.slice ap (Fr.allocL z l q line).length cp] (Fr.allocL z l q line)) := Rep.below Lp_11.out b12
  have Lr_12 : Hid (rSpns.rd w12 (fun b => w7.heap.size ≤ b) [.slice ar (Fr.allocL z l q line).length cr] (Fr.allocL z l q line)) := Rep.below Lr_11.out b12
  have Lk_12 : Hid (rSpns.rd w12 (fun b => w9.heap.size ≤ b) [.slice ak (Fr.takeL z l x).length ck] (Fr.takeL z l x)) := Rep.below Lk_11.out b12
  have B_12 : Hid (Below W.heap.size W w12) := on B_11.out b12
  clear qs0 qs1 qx0 qx1
  clear Rs_11 Rx_11 Ro_11 Rp_11 Rr_11 Rk_11 Ls_11 Lo_11 Lp_11 Lr_11 Lk_11
  clear ho12 b12
  obtain ⟨w13, hw13, V13, b13, z13⟩ := boxedRow w12 24 [.int .i64 (Fr.takeZ z l x), .slice am (Fr.takeL z l x).length cm]
  have Rm_13 : Hid (Row w13 w12.heap.size 24 [.int .i64 (Fr.takeZ z l x), .slice am (Fr.takeL z l x).length cm]) := V13
  have Rs_13 : Hid (Row w13 (W.heap.size) 24 [.int .i64 z, .slice a n c]) := Rs_12.out.below b13
  have Rx_13 : Hid (Row w13 (W.heap.size + 1) 26 [.int .i64 x.1, .int .i64 x.2]) := Rx_12.out.below b13
  have Ro_13 : Hid (Row w13 (w2.heap.size) 27 [.int .i64 (z), .slice ao (l).length co]) := Ro_12.out.below b13
  have Rp_13 : Hid (Row w13 (w6.heap.size) 27 [.int .i64 (Fr.allocZ z l q line), .slice ap (Fr.allocL z l q line).length cp]) := Rp_12.out.below b13
  have Rr_13 : Hid (Row w13 (w8.heap.size) 24 [.int .i64 (Fr.allocZ z l q line), .slice ar (Fr.allocL z l q line).length cr]) := Rr_12.out.below b13
  have Rk_13 : Hid (Row w13 (w10.heap.size) 27 [.int .i64 (Fr.takeZ z l x), .slice ak (Fr.takeL z l x).length ck]) := Rk_12.out.below b13
  have Ls_13 : Hid (rSpns.rd w13 (fun b => b < W.heap.size) [.slice a n c] (l)) := Rep.below Ls_12.out b13
  have Lo_13 : Hid (rSpns.rd w13 (fun b => w1.heap.size ≤ b) [.slice ao (l).length co] (l)) := Rep.below Lo_12.out b13
  have Lp_13 : Hid (rSpns.rd w13 (fun b => w5.heap.size ≤ b) [.slice ap (Fr.allocL z l q line).length cp] (Fr.allocL z l q line)) := Rep.below Lp_12.out b13
  have Lr_13 : Hid (rSpns.rd w13 (fun b => w7.heap.size ≤ b) [.slice ar (Fr.allocL z l q line).length cr] (Fr.allocL z l q line)) := Rep.below Lr_12.out b13
  have Lk_13 : Hid (rSpns.rd w13 (fun b => w9.heap.size ≤ b) [.slice ak (Fr.takeL z l x).length ck] (Fr.takeL z l x)) := Rep.below Lk_12.out b13
  have Lm_13 : Hid (rSpns.rd w13 (fun b => w11.heap.size ≤ b) [.slice am (Fr.takeL z l x).length cm] (Fr.takeL z l x)) := Rep.below Lm_12.out b13
  have B_13 : Hid (Below W.heap.size W w13) := on B_12.out b13
  clear Rs_12 Rx_12 Ro_12 Rp_12 Rr_12 Rk_12 Ls_12 Lo_12 Lp_12 Lr_12 Lk_12 Lm_12
  clear V13 b13 z13
  obtain ⟨qo0, qo1⟩ := Ro_13.out.two
  obtain ⟨qx0, qx1⟩ := Rx_13.out.two
  go_wp2_with (go_at_call 18; refine (num6_u _ _).mono ?_; rintro e w99 ⟨rfl, rfl⟩)
  refine (freeFree_u _ _ z _ _ _ l Lo_13.out x HX.out).mono ?_
  rintro e w14 ⟨v14, rfl, ho14, b14⟩
  obtain ⟨af, cf, hv14, -, -⟩ := ho14.slice
  subst hv14
  have Lf_14 : Hid (rSpns.rd w14 (fun b => w13.heap.size ≤ b) [.slice af (Fr.freeL z l x).length cf] (Fr.freeL z l x)) := ho14.rd (by have := Fr.freeL_len z l x; omega)
  have Rs_14 : Hid (Row w14 (W.heap.size) 24 [.int .i64 z, .slice a n c]) := Rs_13.out.below b14
  have Rx_14 : Hid (Row w14 (W.heap.size + 1) 26 [.int .i64 x.1, .int .i64 x.2]) := Rx_13.out.below b14
  have Ro_14 : Hid (Row w14 (w2.heap.size) 27 [.int .i64 (z), .slice ao (l).length co]) := Ro_13.out.below b14
  have Rp_14 : Hid (Row w14 (w6.heap.size) 27 [.int .i64 (Fr.allocZ z l q line), .slice ap (Fr.allocL z l q line).length cp]) := Rp_13.out.below b14
  have Rr_14 : Hid (Row w14 (w8.heap.size) 24 [.int .i64 (Fr.allocZ z l q line), .slice ar (Fr.allocL z l q line).length cr]) := Rr_13.out.below b14
  have Rk_14 : Hid (Row w14 (w10.heap.size) 27 [.int .i64 (Fr.takeZ z l x), .slice ak (Fr.takeL z l x).length ck]) := Rk_13.out.below b14
  have Rm_14 : Hid (Row w14 (w12.heap.size) 24 [.int .i64 (Fr.takeZ z l x), .slice am (Fr.takeL z l x).length cm]) := Rm_13.out.below b14
  have Ls_14 : Hid (rSpns.rd w14 (fun b => b < W.heap.size) [.slice a n c] (l)) := Rep.below Ls_13.out b14
  have Lo_14 : Hid (rSpns.rd w14 (fun b => w1.heap.size ≤ b) [.slice ao (l).length co] (l)) := Rep.below Lo_13.out b14
  have Lp_14 : Hid (rSpns.rd w14 (fun b => w5.heap.size ≤ b) [.slice ap (Fr.allocL z l q line).length cp] (Fr.allocL z l q line)) := Rep.below Lp_13.out b14
  have Lr_14 : Hid (rSpns.rd w14 (fun b => w7.heap.size ≤ b) [.slice ar (Fr.allocL z l q line).length cr] (Fr.allocL z l q line)) := Rep.below Lr_13.out b14
  have Lk_14 : Hid (rSpns.rd w14 (fun b => w9.heap.size ≤ b) [.slice ak (Fr.takeL z l x).length ck] (Fr.takeL z l x)) := Rep.below Lk_13.out b14
  have Lm_14 : Hid (rSpns.rd w14 (fun b => w11.heap.size ≤ b) [.slice am (Fr.takeL z l x).length cm] (Fr.takeL z l x)) := Rep.below Lm_13.out b14
  have B_14 : Hid (Below W.heap.size W w14) := on B_13.out b14
  clear qo0 qo1 qx0 qx1
  clear Rs_13 Rx_13 Ro_13 Rp_13 Rr_13 Rk_13 Rm_13 Ls_13 Lo_13 Lp_13 Lr_13 Lk_13 Lm_13
  clear ho14 b14
  obtain ⟨w15, hw15, V15, b15, z15⟩ := boxedRow w14 27 [.int .i64 (Fr.freeZ z l x), .slice af (Fr.freeL z l x).length cf]
  have Rf_15 : Hid (Row w15 w14.heap.size 27 [.int .i64 (Fr.freeZ z l x), .slice af (Fr.freeL z l x).length cf]) := V15
  have Rs_15 : Hid (Row w15 (W.heap.size) 24 [.int .i64 z, .slice a n c]) := Rs_14.out.below b15
  have Rx_15 : Hid (Row w15 (W.heap.size + 1) 26 [.int .i64 x.1, .int .i64 x.2]) := Rx_14.out.below b15
  have Ro_15 : Hid (Row w15 (w2.heap.size) 27 [.int .i64 (z), .slice ao (l).length co]) := Ro_14.out.below b15
  have Rp_15 : Hid (Row w15 (w6.heap.size) 27 [.int .i64 (Fr.allocZ z l q line), .slice ap (Fr.allocL z l q line).length cp]) := Rp_14.out.below b15
  have Rr_15 : Hid (Row w15 (w8.heap.size) 24 [.int .i64 (Fr.allocZ z l q line), .slice ar (Fr.allocL z l q line).length cr]) := Rr_14.out.below b15
  have Rk_15 : Hid (Row w15 (w10.heap.size) 27 [.int .i64 (Fr.takeZ z l x), .slice ak (Fr.takeL z l x).length ck]) := Rk_14.out.below b15
  have Rm_15 : Hid (Row w15 (w12.heap.size) 24 [.int .i64 (Fr.takeZ z l x), .slice am (Fr.takeL z l x).length cm]) := Rm_14.out.below b15
  have Ls_15 : Hid (rSpns.rd w15 (fun b => b < W.heap.size) [.slice a n c] (l)) := Rep.below Ls_14.out b15
  have Lo_15 : Hid (rSpns.rd w15 (fun b => w1.heap.size ≤ b) [.slice ao (l).length co] (l)) := Rep.below Lo_14.out b15
  have Lp_15 : Hid (rSpns.rd w15 (fun b => w5.heap.size ≤ b) [.slice ap (Fr.allocL z l q line).length cp] (Fr.allocL z l q line)) := Rep.below Lp_14.out b15
  have Lr_15 : Hid (rSpns.rd w15 (fun b => w7.heap.size ≤ b) [.slice ar (Fr.allocL z l q line).length cr] (Fr.allocL z l q line)) := Rep.below Lr_14.out b15
  have Lk_15 : Hid (rSpns.rd w15 (fun b => w9.heap.size ≤ b) [.slice ak (Fr.takeL z l x).length ck] (Fr.takeL z l x)) := Rep.below Lk_14.out b15
  have Lm_15 : Hid (rSpns.rd w15 (fun b => w11.heap.size ≤ b) [.slice am (Fr.takeL z l x).length cm] (Fr.takeL z l x)) := Rep.below Lm_14.out b15
  have Lf_15 : Hid (rSpns.rd w15 (fun b => w13.heap.size ≤ b) [.slice af (Fr.freeL z l x).length cf] (Fr.freeL z l x)) := Rep.below Lf_14.out b15
  have B_15 : Hid (Below W.heap.size W w15) := on B_14.out b15
  clear Rs_14 Rx_14 Ro_14 Rp_14 Rr_14 Rk_14 Rm_14 Ls_14 Lo_14 Lp_14 Lr_14 Lk_14 Lm_14 Lf_14
  clear V15 b15 z15
  obtain ⟨qs0, qs1⟩ := Rs_15.out.two
  obtain ⟨qx0, qx1⟩ := Rx_15.out.two
  go_wp2_with (go_at_call 18; refine (num6_u _ _).mono ?_; rintro e w99 ⟨rfl, rfl⟩)
  refine (refFree_u _ _ z _ _ _ l Ls_15.out x HX.out).mono ?_
  rintro e w16 ⟨v16, rfl, ho16, b16⟩
  obtain ⟨ag, cg, hv16, -, -⟩ := ho16.slice
  subst hv16
  have Lg_16 : Hid (rSpns.rd w16 (fun b => w15.heap.size ≤ b) [.slice ag (Fr.freeL z l x).length cg] (Fr.freeL z l x)) := ho16.rd (by have := Fr.freeL_len z l x; omega)
  have Rs_16 : Hid (Row w16 (W.heap.size) 24 [.int .i64 z, .slice a n c]) := Rs_15.out.below b16
  have Rx_16 : Hid (Row w16 (W.heap.size + 1) 26 [.int .i64 x.1, .int .i64 x.2]) := Rx_15.out.below b16
  have Ro_16 : Hid (Row w16 (w2.heap.size) 27 [.int .i64 (z), .slice ao (l).length co]) := Ro_15.out.below b16
  have Rp_16 : Hid (Row w16 (w6.heap.size) 27 [.int .i64 (Fr.allocZ z l q line), .slice ap (Fr.allocL z l q line).length cp]) := Rp_15.out.below b16
  have Rr_16 : Hid (Row w16 (w8.heap.size) 24 [.int .i64 (Fr.allocZ z l q line), .slice ar (Fr.allocL z l q line).length cr]) := Rr_15.out.below b16
  have Rk_16 : Hid (Row w16 (w10.heap.size) 27 [.int .i64 (Fr.takeZ z l x), .slice ak (Fr.takeL z l x).length ck]) := Rk_15.out.below b16
  have Rm_16 : Hid (Row w16 (w12.heap.size) 24 [.int .i64 (Fr.takeZ z l x), .slice am (Fr.takeL z l x).length cm]) := Rm_15.out.below b16
  have Rf_16 : Hid (Row w16 (w14.heap.size) 27 [.int .i64 (Fr.freeZ z l x), .slice af (Fr.freeL z l x).length cf]) := Rf_15.out.below b16
  have Ls_16 : Hid (rSpns.rd w16 (fun b => b < W.heap.size) [.slice a n c] (l)) := Rep.below Ls_15.out b16
  have Lo_16 : Hid (rSpns.rd w16 (fun b => w1.heap.size ≤ b) [.slice ao (l).length co] (l)) := Rep.below Lo_15.out b16
  have Lp_16 : Hid (rSpns.rd w16 (fun b => w5.heap.size ≤ b) [.slice ap (Fr.allocL z l q line).length cp] (Fr.allocL z l q line)) := Rep.below Lp_15.out b16
  have Lr_16 : Hid (rSpns.rd w16 (fun b => w7.heap.size ≤ b) [.slice ar (Fr.allocL z l q line).length cr] (Fr.allocL z l q line)) := Rep.below Lr_15.out b16
  have Lk_16 : Hid (rSpns.rd w16 (fun b => w9.heap.size ≤ b) [.slice ak (Fr.takeL z l x).length ck] (Fr.takeL z l x)) := Rep.below Lk_15.out b16
  have Lm_16 : Hid (rSpns.rd w16 (fun b => w11.heap.size ≤ b) [.slice am (Fr.takeL z l x).length cm] (Fr.takeL z l x)) := Rep.below Lm_15.out b16
  have Lf_16 : Hid (rSpns.rd w16 (fun b => w13.heap.size ≤ b) [.slice af (Fr.freeL z l x).length cf] (Fr.freeL z l x)) := Rep.below Lf_15.out b16
  have B_16 : Hid (Below W.heap.size W w16) := on B_15.out b16
  clear qs0 qs1 qx0 qx1
  clear Rs_15 Rx_15 Ro_15 Rp_15 Rr_15 Rk_15 Rm_15 Rf_15 Ls_15 Lo_15 Lp_15 Lr_15 Lk_15 Lm_15 Lf_15
  clear ho16 b16
  obtain ⟨w17, hw17, V17, b17, z17⟩ := boxedRow w16 24 [.int .i64 (Fr.freeZ z l x), .slice ag (Fr.freeL z l x).length cg]
  have Rg_17 : Hid (Row w17 w16.heap.size 24 [.int .i64 (Fr.freeZ z l x), .slice ag (Fr.freeL z l x).length cg]) := V17
  have Rs_17 : Hid (Row w17 (W.heap.size) 24 [.int .i64 z, .slice a n c]) := Rs_16.out.below b17
  have Rx_17 : Hid (Row w17 (W.heap.size + 1) 26 [.int .i64 x.1, .int .i64 x.2]) := Rx_16.out.below b17
  have Ro_17 : Hid (Row w17 (w2.heap.size) 27 [.int .i64 (z), .slice ao (l).length co]) := Ro_16.out.below b17
  have Rp_17 : Hid (Row w17 (w6.heap.size) 27 [.int .i64 (Fr.allocZ z l q line), .slice ap (Fr.allocL z l q line).length cp]) := Rp_16.out.below b17
  have Rr_17 : Hid (Row w17 (w8.heap.size) 24 [.int .i64 (Fr.allocZ z l q line), .slice ar (Fr.allocL z l q line).length cr]) := Rr_16.out.below b17
  have Rk_17 : Hid (Row w17 (w10.heap.size) 27 [.int .i64 (Fr.takeZ z l x), .slice ak (Fr.takeL z l x).length ck]) := Rk_16.out.below b17
  have Rm_17 : Hid (Row w17 (w12.heap.size) 24 [.int .i64 (Fr.takeZ z l x), .slice am (Fr.takeL z l x).length cm]) := Rm_16.out.below b17
  have Rf_17 : Hid (Row w17 (w14.heap.size) 27 [.int .i64 (Fr.freeZ z l x), .slice af (Fr.freeL z l x).length cf]) := Rf_16.out.below b17
  have Ls_17 : Hid (rSpns.rd w17 (fun b => b < W.heap.size) [.slice a n c] (l)) := Rep.below Ls_16.out b17
  have Lo_17 : Hid (rSpns.rd w17 (fun b => w1.heap.size ≤ b) [.slice ao (l).length co] (l)) := Rep.below Lo_16.out b17
  have Lp_17 : Hid (rSpns.rd w17 (fun b => w5.heap.size ≤ b) [.slice ap (Fr.allocL z l q line).length cp] (Fr.allocL z l q line)) := Rep.below Lp_16.out b17
  have Lr_17 : Hid (rSpns.rd w17 (fun b => w7.heap.size ≤ b) [.slice ar (Fr.allocL z l q line).length cr] (Fr.allocL z l q line)) := Rep.below Lr_16.out b17
  have Lk_17 : Hid (rSpns.rd w17 (fun b => w9.heap.size ≤ b) [.slice ak (Fr.takeL z l x).length ck] (Fr.takeL z l x)) := Rep.below Lk_16.out b17
  have Lm_17 : Hid (rSpns.rd w17 (fun b => w11.heap.size ≤ b) [.slice am (Fr.takeL z l x).length cm] (Fr.takeL z l x)) := Rep.below Lm_16.out b17
  have Lf_17 : Hid (rSpns.rd w17 (fun b => w13.heap.size ≤ b) [.slice af (Fr.freeL z l x).length cf] (Fr.freeL z l x)) := Rep.below Lf_16.out b17
  have Lg_17 : Hid (rSpns.rd w17 (fun b => w15.heap.size ≤ b) [.slice ag (Fr.freeL z l x).length cg] (Fr.freeL z l x)) := Rep.below Lg_16.out b17
  have B_17 : Hid (Below W.heap.size W w17) := on B_16.out b17
  clear Rs_16 Rx_16 Ro_16 Rp_16 Rr_16 Rk_16 Rm_16 Rf_16 Ls_16 Lo_16 Lp_16 Lr_16 Lk_16 Lm_16 Lf_16 Lg_16
  clear V17 b17 z17
  clear Rx_17
  have ee1 : (Fr.bestA z l q line == Fr.bestA z l q line) = true := beq_self_eq_true _
  have ee2 : (Fr.bestE z l q line == Fr.bestE z l q line) = true := beq_self_eq_true _
  have ee3 : (Fr.allocE z l q line == Fr.allocE z l q line) = true := beq_self_eq_true _
  have ee4 : (Fr.takeE z l x == Fr.takeE z l x) = true := beq_self_eq_true _
  have ee5 : (Fr.freeE z l x == Fr.freeE z l x) = true := beq_self_eq_true _
  have ee6 : (Fr.checkE z l == Fr.checkE z l) = true := beq_self_eq_true _
  obtain ⟨qp0, qp1⟩ := Rp_17.out.two
  obtain ⟨qr0, qr1⟩ := Rr_17.out.two
  go_wp2_with (go_at_call 18; refine (num6_u _ _).mono ?_; rintro e w99 ⟨rfl, rfl⟩)
  refine (alike_u _ _ _ _ _ _ _ _ _ _ _ Lp_17.out Lr_17.out).mono ?_
  rintro e w18 ⟨rfl, b18⟩
  have Rs_18 : Hid (Row w18 (W.heap.size) 24 [.int .i64 z, .slice a n c]) := Rs_17.out.below b18
  have Ro_18 : Hid (Row w18 (w2.heap.size) 27 [.int .i64 (z), .slice ao (l).length co]) := Ro_17.out.below b18
  have Rp_18 : Hid (Row w18 (w6.heap.size) 27 [.int .i64 (Fr.allocZ z l q line), .slice ap (Fr.allocL z l q line).length cp]) := Rp_17.out.below b18
  have Rr_18 : Hid (Row w18 (w8.heap.size) 24 [.int .i64 (Fr.allocZ z l q line), .slice ar (Fr.allocL z l q line).length cr]) := Rr_17.out.below b18
  have Rk_18 : Hid (Row w18 (w10.heap.size) 27 [.int .i64 (Fr.takeZ z l x), .slice ak (Fr.takeL z l x).length ck]) := Rk_17.out.below b18
  have Rm_18 : Hid (Row w18 (w12.heap.size) 24 [.int .i64 (Fr.takeZ z l x), .slice am (Fr.takeL z l x).length cm]) := Rm_17.out.below b18
  have Rf_18 : Hid (Row w18 (w14.heap.size) 27 [.int .i64 (Fr.freeZ z l x), .slice af (Fr.freeL z l x).length cf]) := Rf_17.out.below b18
  have Rg_18 : Hid (Row w18 (w16.heap.size) 24 [.int .i64 (Fr.freeZ z l x), .slice ag (Fr.freeL z l x).length cg]) := Rg_17.out.below b18
  have Ls_18 : Hid (rSpns.rd w18 (fun b => b < W.heap.size) [.slice a n c] (l)) := Rep.below Ls_17.out b18
  have Lo_18 : Hid (rSpns.rd w18 (fun b => w1.heap.size ≤ b) [.slice ao (l).length co] (l)) := Rep.below Lo_17.out b18
  have Lp_18 : Hid (rSpns.rd w18 (fun b => w5.heap.size ≤ b) [.slice ap (Fr.allocL z l q line).length cp] (Fr.allocL z l q line)) := Rep.below Lp_17.out b18
  have Lr_18 : Hid (rSpns.rd w18 (fun b => w7.heap.size ≤ b) [.slice ar (Fr.allocL z l q line).length cr] (Fr.allocL z l q line)) := Rep.below Lr_17.out b18
  have Lk_18 : Hid (rSpns.rd w18 (fun b => w9.heap.size ≤ b) [.slice ak (Fr.takeL z l x).length ck] (Fr.takeL z l x)) := Rep.below Lk_17.out b18
  have Lm_18 : Hid (rSpns.rd w18 (fun b => w11.heap.size ≤ b) [.slice am (Fr.takeL z l x).length cm] (Fr.takeL z l x)) := Rep.below Lm_17.out b18
  have Lf_18 : Hid (rSpns.rd w18 (fun b => w13.heap.size ≤ b) [.slice af (Fr.freeL z l x).length cf] (Fr.freeL z l x)) := Rep.below Lf_17.out b18
  have Lg_18 : Hid (rSpns.rd w18 (fun b => w15.heap.size ≤ b) [.slice ag (Fr.freeL z l x).length cg] (Fr.freeL z l x)) := Rep.below Lg_17.out b18
  have B_18 : Hid (Below W.heap.size W w18) := on B_17.out b18
  clear qp0 qp1 qr0 qr1
  clear Rs_17 Ro_17 Rp_17 Rr_17 Rk_17 Rm_17 Rf_17 Rg_17 Ls_17 Lo_17 Lp_17 Lr_17 Lk_17 Lm_17 Lf_17 Lg_17
  clear b18
  obtain ⟨qk0, qk1⟩ := Rk_18.out.two
  obtain ⟨qm0, qm1⟩ := Rm_18.out.two
  go_wp2_with (go_at_call 18; refine (num6_u _ _).mono ?_; rintro e w99 ⟨rfl, rfl⟩)
  refine (alike_u _ _ _ _ _ _ _ _ _ _ _ Lk_18.out Lm_18.out).mono ?_
  rintro e w19 ⟨rfl, b19⟩
  have Rs_19 : Hid (Row w19 (W.heap.size) 24 [.int .i64 z, .slice a n c]) := Rs_18.out.below b19
  have Ro_19 : Hid (Row w19 (w2.heap.size) 27 [.int .i64 (z), .slice ao (l).length co]) := Ro_18.out.below b19
  have Rp_19 : Hid (Row w19 (w6.heap.size) 27 [.int .i64 (Fr.allocZ z l q line), .slice ap (Fr.allocL z l q line).length cp]) := Rp_18.out.below b19
  have Rr_19 : Hid (Row w19 (w8.heap.size) 24 [.int .i64 (Fr.allocZ z l q line), .slice ar (Fr.allocL z l q line).length cr]) := Rr_18.out.below b19
  have Rk_19 : Hid (Row w19 (w10.heap.size) 27 [.int .i64 (Fr.takeZ z l x), .slice ak (Fr.takeL z l x).length ck]) := Rk_18.out.below b19
  have Rm_19 : Hid (Row w19 (w12.heap.size) 24 [.int .i64 (Fr.takeZ z l x), .slice am (Fr.takeL z l x).length cm]) := Rm_18.out.below b19
  have Rf_19 : Hid (Row w19 (w14.heap.size) 27 [.int .i64 (Fr.freeZ z l x), .slice af (Fr.freeL z l x).length cf]) := Rf_18.out.below b19
  have Rg_19 : Hid (Row w19 (w16.heap.size) 24 [.int .i64 (Fr.freeZ z l x), .slice ag (Fr.freeL z l x).length cg]) := Rg_18.out.below b19
  have Ls_19 : Hid (rSpns.rd w19 (fun b => b < W.heap.size) [.slice a n c] (l)) := Rep.below Ls_18.out b19
  have Lo_19 : Hid (rSpns.rd w19 (fun b => w1.heap.size ≤ b) [.slice ao (l).length co] (l)) := Rep.below Lo_18.out b19
  have Lp_19 : Hid (rSpns.rd w19 (fun b => w5.heap.size ≤ b) [.slice ap (Fr.allocL z l q line).length cp] (Fr.allocL z l q line)) := Rep.below Lp_18.out b19
  have Lr_19 : Hid (rSpns.rd w19 (fun b => w7.heap.size ≤ b) [.slice ar (Fr.allocL z l q line).length cr] (Fr.allocL z l q line)) := Rep.below Lr_18.out b19
  have Lk_19 : Hid (rSpns.rd w19 (fun b => w9.heap.size ≤ b) [.slice ak (Fr.takeL z l x).length ck] (Fr.takeL z l x)) := Rep.below Lk_18.out b19
  have Lm_19 : Hid (rSpns.rd w19 (fun b => w11.heap.size ≤ b) [.slice am (Fr.takeL z l x).length cm] (Fr.takeL z l x)) := Rep.below Lm_18.out b19
  have Lf_19 : Hid (rSpns.rd w19 (fun b => w13.heap.size ≤ b) [.slice af (Fr.freeL z l x).length cf] (Fr.freeL z l x)) := Rep.below Lf_18.out b19
  have Lg_19 : Hid (rSpns.rd w19 (fun b => w15.heap.size ≤ b) [.slice ag (Fr.freeL z l x).length cg] (Fr.freeL z l x)) := Rep.below Lg_18.out b19
  have B_19 : Hid (Below W.heap.size W w19) := on B_18.out b19
  clear qk0 qk1 qm0 qm1
  clear Rs_18 Ro_18 Rp_18 Rr_18 Rk_18 Rm_18 Rf_18 Rg_18 Ls_18 Lo_18 Lp_18 Lr_18 Lk_18 Lm_18 Lf_18 Lg_18
  clear b19
  obtain ⟨qf0, qf1⟩ := Rf_19.out.two
  obtain ⟨qg0, qg1⟩ := Rg_19.out.two
  go_wp2_with (go_at_call 18; refine (num6_u _ _).mono ?_; rintro e w99 ⟨rfl, rfl⟩)
  refine (alike_u _ _ _ _ _ _ _ _ _ _ _ Lf_19.out Lg_19.out).mono ?_
  rintro e w20 ⟨rfl, b20⟩
  have Rs_20 : Hid (Row w20 (W.heap.size) 24 [.int .i64 z, .slice a n c]) := Rs_19.out.below b20
  have Ro_20 : Hid (Row w20 (w2.heap.size) 27 [.int .i64 (z), .slice ao (l).length co]) := Ro_19.out.below b20
  have Rp_20 : Hid (Row w20 (w6.heap.size) 27 [.int .i64 (Fr.allocZ z l q line), .slice ap (Fr.allocL z l q line).length cp]) := Rp_19.out.below b20
  have Rr_20 : Hid (Row w20 (w8.heap.size) 24 [.int .i64 (Fr.allocZ z l q line), .slice ar (Fr.allocL z l q line).length cr]) := Rr_19.out.below b20
  have Rk_20 : Hid (Row w20 (w10.heap.size) 27 [.int .i64 (Fr.takeZ z l x), .slice ak (Fr.takeL z l x).length ck]) := Rk_19.out.below b20
  have Rm_20 : Hid (Row w20 (w12.heap.size) 24 [.int .i64 (Fr.takeZ z l x), .slice am (Fr.takeL z l x).length cm]) := Rm_19.out.below b20
  have Rf_20 : Hid (Row w20 (w14.heap.size) 27 [.int .i64 (Fr.freeZ z l x), .slice af (Fr.freeL z l x).length cf]) := Rf_19.out.below b20
  have Rg_20 : Hid (Row w20 (w16.heap.size) 24 [.int .i64 (Fr.freeZ z l x), .slice ag (Fr.freeL z l x).length cg]) := Rg_19.out.below b20
  have Ls_20 : Hid (rSpns.rd w20 (fun b => b < W.heap.size) [.slice a n c] (l)) := Rep.below Ls_19.out b20
  have Lo_20 : Hid (rSpns.rd w20 (fun b => w1.heap.size ≤ b) [.slice ao (l).length co] (l)) := Rep.below Lo_19.out b20
  have Lp_20 : Hid (rSpns.rd w20 (fun b => w5.heap.size ≤ b) [.slice ap (Fr.allocL z l q line).length cp] (Fr.allocL z l q line)) := Rep.below Lp_19.out b20
  have Lr_20 : Hid (rSpns.rd w20 (fun b => w7.heap.size ≤ b) [.slice ar (Fr.allocL z l q line).length cr] (Fr.allocL z l q line)) := Rep.below Lr_19.out b20
  have Lk_20 : Hid (rSpns.rd w20 (fun b => w9.heap.size ≤ b) [.slice ak (Fr.takeL z l x).length ck] (Fr.takeL z l x)) := Rep.below Lk_19.out b20
  have Lm_20 : Hid (rSpns.rd w20 (fun b => w11.heap.size ≤ b) [.slice am (Fr.takeL z l x).length cm] (Fr.takeL z l x)) := Rep.below Lm_19.out b20
  have Lf_20 : Hid (rSpns.rd w20 (fun b => w13.heap.size ≤ b) [.slice af (Fr.freeL z l x).length cf] (Fr.freeL z l x)) := Rep.below Lf_19.out b20
  have Lg_20 : Hid (rSpns.rd w20 (fun b => w15.heap.size ≤ b) [.slice ag (Fr.freeL z l x).length cg] (Fr.freeL z l x)) := Rep.below Lg_19.out b20
  have B_20 : Hid (Below W.heap.size W w20) := on B_19.out b20
  clear qf0 qf1 qg0 qg1
  clear Rs_19 Ro_19 Rp_19 Rr_19 Rk_19 Rm_19 Rf_19 Rg_19 Ls_19 Lo_19 Lp_19 Lr_19 Lk_19 Lm_19 Lf_19 Lg_19
  clear b20
  clear Rp_20 Rr_20 Rk_20 Rm_20 Rf_20 Rg_20 Lp_20 Lr_20 Lk_20 Lm_20 Lf_20 Lg_20
  have SK : Hid (∀ {w' : World}, Below w20.heap.size w20 w' → w'.cell? ⟨W.heap.size, 0, none⟩ = some (.int .i64 z) ∧ w'.cell? ⟨W.heap.size, 1, none⟩ = some (.slice a n c) ∧ w'.cell? ⟨w2.heap.size, 0, none⟩ = some (.int .i64 (z)) ∧ w'.cell? ⟨w2.heap.size, 1, none⟩ = some (.slice ao (l).length co)) := fun b => ⟨(Rs_20.out.below b).two.1, (Rs_20.out.below b).two.2, (Ro_20.out.below b).two.1, (Ro_20.out.below b).two.2⟩
  go_wp2_with (go_at_call 18; refine (num6_u _ _).mono ?_; rintro e w99 ⟨rfl, rfl⟩)
  refine wp_region_held_drew (S := (fun w' : World => w'.cell? ⟨W.heap.size, 0, none⟩ = some (.int .i64 z) ∧ w'.cell? ⟨W.heap.size, 1, none⟩ = some (.slice a n c) ∧ w'.cell? ⟨w2.heap.size, 0, none⟩ = some (.int .i64 (z)) ∧ w'.cell? ⟨w2.heap.size, 1, none⟩ = some (.slice ao (l).length co))) (by kernel_rfl) (SK.out (Below.refl _ _).drew) (fun hHeld => ?_)
  refine wpAnyH_takeL (i := 0) (v := ?_) rfl rfl (by kernel_rfl) (by kernel_rfl) (by kernel_rfl) (fun _ _ _ h => h) (Or.inl ⟨by rfl, ?_⟩) (by assumption) ?_
  rotate_left
  · intro w hSw
    try dsimp only at hSw
    go_simp
    all_goals with_reducible rfl
  simp only [List.set_cons_zero, List.set_cons_succ]
  refine wpAnyH_takeL (i := 3) (v := ?_) rfl rfl (by kernel_rfl) (by kernel_rfl) (by kernel_rfl) (fun _ _ _ h => h) (Or.inl ⟨by rfl, ?_⟩) (by assumption) ?_
  rotate_left
  · intro w hSw
    try dsimp only at hSw
    go_simp
    all_goals with_reducible rfl
  simp only [List.set_cons_zero, List.set_cons_succ]
  refine wpAnyH_ready (rs := [1]) (by kernel_rfl) (by simp) ?_
  refine AllReadyH.cons rfl (fun K hK => ?_) ?_
  · go_simp
    go_at_call 20
    refine Calls.mono (freeCheck_u _ _ z _ _ _ l (Rep.below Lo_20.out (Below.refl _ _).drew) _ rfl) ?_
    rintro e xA ⟨rfl, bA⟩
    have DA : Hid (Below w20.heap.size w20 xA) := (below_drew_pre0 bA)
    clear bA
    go_simp
    refine hK.out _ _ ?_ (fun hHeld => ?_)
    · try dsimp only
      exact SK.out DA.out
    clear hK K
    refine wpAnyH_ready (rs := [2]) (by kernel_rfl) (by simp) ?_
    refine AllReadyH.cons rfl (fun K hK => ?_) ?_
    · go_simp
      go_at_call 18
      refine Calls.mono (num6_u _ _) ?_
      rintro e x9 ⟨rfl, rfl⟩
      go_simp
      refine hK.out _ _ ?_ (fun hHeld => ?_)
      · try dsimp only
        exact SK.out DA.out
      clear hK K
      refine wpAnyH_ready (rs := [4]) (by kernel_rfl) (by simp) ?_
      refine AllReadyH.cons rfl (fun K hK => ?_) ?_
      · go_simp
        go_at_call 21
        refine Calls.mono (refCheck_u _ _ z _ _ _ l (Rep.below Ls_20.out DA.out) _ rfl) ?_
        rintro e xB ⟨rfl, bB⟩
        have DB : Hid (Below w20.heap.size w20 xB) := on DA.out bB
        clear bB
        go_simp
        refine hK.out _ _ ?_ (fun hHeld => ?_)
        · try dsimp only
          exact SK.out DB.out
        clear hK K
        refine wpAnyH_takeL (i := 5) (v := ?_) rfl rfl (by kernel_rfl) (by kernel_rfl) (by kernel_rfl) (fun _ _ _ h => h) (Or.inl ⟨by rfl, ?_⟩) (by assumption) ?_
        rotate_left
        · intro w hSw
          try dsimp only at hSw
          go_simp
          all_goals with_reducible rfl
        simp only [List.set_cons_zero, List.set_cons_succ]
        refine wpAnyH_takeL (i := 6) (v := ?_) rfl rfl (by kernel_rfl) (by kernel_rfl) (by kernel_rfl) (fun _ _ _ h => h) (Or.inl ⟨by rfl, ?_⟩) (by assumption) ?_
        rotate_left
        · intro w hSw
          try dsimp only at hSw
          go_simp
          all_goals with_reducible rfl
        simp only [List.set_cons_zero, List.set_cons_succ]
        refine wpAnyH_takeL (i := 7) (v := ?_) rfl rfl (by kernel_rfl) (by kernel_rfl) (by kernel_rfl) (fun _ _ _ h => h) (Or.inl ⟨by rfl, ?_⟩) (by assumption) ?_
        rotate_left
        · intro w hSw
          try dsimp only at hSw
          go_simp
          all_goals with_reducible rfl
        simp only [List.set_cons_zero, List.set_cons_succ]
        refine wpAnyH_takeL (i := 8) (v := ?_) rfl rfl (by kernel_rfl) (by kernel_rfl) (by kernel_rfl) (fun _ _ _ h => h) (Or.inl ⟨by rfl, ?_⟩) (by assumption) ?_
        rotate_left
        · intro w hSw
          try dsimp only at hSw
          go_simp
          all_goals with_reducible rfl
        simp only [List.set_cons_zero, List.set_cons_succ]
        refine wpAnyH_ready (rs := [9]) (by kernel_rfl) (by simp) ?_
        refine AllReadyH.cons rfl (fun K hK => ?_) ?_
        · go_simp
          go_at_call 19
          refine Calls.mono (alike_u _ _ _ z _ _ _ _ _ _ l (Rep.below Lo_20.out DB.out) (Rep.below Ls_20.out DB.out)) ?_
          rintro e xC ⟨rfl, bC⟩
          have DC : Hid (Below w20.heap.size w20 xC) := on DB.out bC
          clear bC
          go_simp
          refine hK.out _ _ ?_ (fun hHeld => ?_)
          · try dsimp only
            exact SK.out DC.out
          clear hK K
          refine wpAnyH_takeL (i := 10) (v := ?_) rfl rfl (by kernel_rfl) (by kernel_rfl) (by kernel_rfl) (fun _ _ _ h => h) (Or.inl ⟨by rfl, ?_⟩) (by assumption) ?_
          rotate_left
          · intro w hSw
            try dsimp only at hSw
            go_simp
            all_goals with_reducible rfl
          simp only [List.set_cons_zero, List.set_cons_succ]
          refine wpAnyH_takeL (i := 11) (v := ?_) rfl rfl (by kernel_rfl) (by kernel_rfl) (by kernel_rfl) (fun _ _ _ h => h) (Or.inl ⟨by rfl, ?_⟩) (by assumption) ?_
          rotate_left
          · intro w hSw
            try dsimp only at hSw
            go_simp
            all_goals with_reducible rfl
          simp only [List.set_cons_zero, List.set_cons_succ]
          refine wpAnyH_takeL (i := 12) (v := ?_) rfl rfl (by kernel_rfl) (by kernel_rfl) (by kernel_rfl) (fun _ _ _ h => h) (Or.inl ⟨by rfl, ?_⟩) (by assumption) ?_
          rotate_left
          · intro w hSw
            try dsimp only at hSw
            go_simp
            all_goals with_reducible rfl
          simp only [List.set_cons_zero, List.set_cons_succ]
          refine wpAnyH_ready (rs := [13]) (by kernel_rfl) (by simp) ?_
          refine AllReadyH.cons rfl (fun K hK => ?_) ?_
          · go_simp
            go_at_call 22
            refine Calls.mono (alive6_u _) ?_
            rintro e xD ⟨rfl, bD⟩
            have DD : Hid (Below w20.heap.size w20 xD) := on DC.out bD
            clear bD
            go_simp
            refine hK.out _ _ ?_ (fun hHeld => ?_)
            · try dsimp only
              exact SK.out DD.out
            clear hK K
            refine wpAnyH_takeL (i := 14) (v := ?_) rfl rfl (by kernel_rfl) (by kernel_rfl) (by kernel_rfl) (fun _ _ _ h => h) (Or.inl ⟨by rfl, ?_⟩) (by assumption) ?_
            rotate_left
            · intro w hSw
              try dsimp only at hSw
              go_simp
              all_goals with_reducible rfl
            simp only [List.set_cons_zero, List.set_cons_succ]
            refine wpAnyH_takeL (i := 15) (v := ?_) rfl rfl (by kernel_rfl) (by kernel_rfl) (by kernel_rfl) (fun _ _ _ h => h) (Or.inl ⟨by rfl, ?_⟩) (by assumption) ?_
            rotate_left
            · intro w hSw
              try dsimp only at hSw
              go_simp
              all_goals with_reducible rfl
            simp only [List.set_cons_zero, List.set_cons_succ]
            refine wpAnyH_done (by kernel_rfl) ?_ _
            clear hHeld
            go_wp2
            go_ret
            exact ⟨rfl, on B_20.out DD.out⟩
          exact AllReadyH.nil
        exact AllReadyH.nil
      exact AllReadyH.nil
    exact AllReadyH.nil
  exact AllReadyH.nil

set_option maxRecDepth 100000 in
theorem ftells_lifted (os : Os) (started : os.Started) (H : Type) (enc : TypeId × Value → H) :
    ReturnsInHanded {} Try.checked os 3 .any (Rows.freeTellsSpec.pre6 enc Try.prog Try.f3 Rows.freeTellsRow.domain false) (Rows.freeTellsSpec.post enc Try.prog Try.f3 false true false false) := by
  refine returnsInHanded_of_change_sized (C := Try.checked) own started (by kernel_rfl) Try.func3
    (ChangeSpec.witness6 (enc := enc) (C := Try.checked) false ⟨#[], #[.agg #[.int .i64 0, .slice none 0 0], .int .i64 0, .int .i64 0, .agg #[.int .i64 0, .int .i64 0]], []⟩ 8 (by kernel_rfl) (by kernel_rfl) (by kernel_rfl) (by kernel_rfl)) ?_
  intro W base args ds gs before hval0 hW _ hsz0 _
  have hsz : (DataW.weightsEach Try.prog (Try.f3.params.toList ++ Rows.freeTellsSpec.plain.varTypes Try.prog) (ds ++ gs)).all (· ≤ reachBytes) = true := hsz0
  clear hsz0
  have hval : ∀ (j : Nat) t v, Try.f3.params[j]? = some t → args[j]? = some v → Value.okWide Try.prog W .any base t v := hval0
  have hW' := hW
  obtain ⟨p, q, hA0, hV, rfl, hfz, hnd⟩ := hW
  have hA : DataW.TrodAll enc Try.prog W 0 (fun _ => true) true Try.f3.params.toList args.toList ds p := hA0
  rw [Try.params3] at hA hval hsz
  obtain ⟨v0, vs0, d0, ds0, p0, q0, hargs, rfl, rfl, h0, r0⟩ := trodAll_cons hA
  obtain ⟨v1, vs1, d1, ds1, p1, q1, rfl, rfl, rfl, h1, r1⟩ := trodAll_cons r0
  obtain ⟨v2, vs2, d2, ds2, p2, q2, rfl, rfl, rfl, h2, r2⟩ := trodAll_cons r1
  obtain ⟨v3, vs3, d3, ds3, p3, q3, rfl, rfl, rfl, h3, r3⟩ := trodAll_cons r2
  obtain ⟨rfl, rfl, rfl⟩ := trodAll_nil r3
  obtain rfl : args = #[v0, v1, v2, v3] := by cases args; simp_all
  obtain ⟨rfl, rfl⟩ := trodVars_none hV
  obtain ⟨c0, rfl, -⟩ := okWide_struct Try.underlying24 (hval 0 24 v0 rfl rfl)
  have k0 := h0
  have lt0 : ∀ x ∈ p0, x.block < W.heap.size := by obtain ⟨m, hm⟩ := k0; exact DataW.trod_lt m _ _ _ hm
  obtain ⟨x0, hx0⟩ := opens_state.arg h0 hsz (j := 0) rfl rfl
  obtain ⟨a1, rfl, rfl, rfl, w1⟩ := open_int Try.underlying3 (hval 1 3 v1 rfl rfl) h1
  have i1 := bounds_i64 w1
  obtain ⟨a2, rfl, rfl, rfl, w2⟩ := open_int Try.underlying3 (hval 2 3 v2 rfl rfl) h2
  have i2 := bounds_i64 w2
  obtain ⟨c3, rfl, -⟩ := okWide_struct Try.underlying26 (hval 3 26 v3 rfl rfl)
  have k3 := h3
  have lt3 : ∀ x ∈ p3, x.block < W.heap.size := by obtain ⟨m, hm⟩ := k3; exact DataW.trod_lt m _ _ _ hm
  obtain ⟨x3, hx3⟩ := opens_span.arg h3 hsz (j := 3) rfl rfl
  clear hA0 hval0
  refine (ftells_walk c0.toList x0 a1 a2 c3.toList x3 W hx0 (by omega) (by omega) (by omega) (by omega) hx3).mono fun e W' ⟨he, bel⟩ => ?_
  subst he
  exact ⟨_, rfl, _, _, _, [], _, [], hW', trodAll_mk1 (shut_bool Try.underlying4 _), (trodAll_cons_mk (Below.trod laidOut (by kernel_rfl) (of_decide_eq_true (by kernel_rfl)) k0 bel lt0) (trodAll_cons_mk (shut_int Try.underlying3 w1) (trodAll_cons_mk (shut_int Try.underlying3 w2) (trodAll_cons_mk (Below.trod laidOut (by kernel_rfl) (of_decide_eq_true (by kernel_rfl)) k3 bel lt3) trodAll_mk0)))), rfl, bel.frame _, fun h => by cases h⟩

theorem freeTells_holds : Rows.FreeTellsSaid :=
  OpenClaim.holds_of_wide 3 Try.f3 rfl rfl rfl rfl rfl rfl rfl ⟨rfl, rfl, rfl, rfl, rfl⟩ rfl rfl rfl rfl rfl (by kernel_rfl) Try.func3 (by kernel_rfl)
    (of_decide_eq_true (by kernel_rfl)) (by unfold Func.isWrapper; first | (rw [if_pos (by decide +kernel)]; kernel_rfl) | (rw [if_neg (by decide +kernel)]; exact ⟨rfl, rfl⟩))
    (fun os started H enc _ => ftells_lifted os started H enc)

end Go.Proofs.Ytbbjbajdoekheaa
