/-
  Whether a tree may be, what is under a key, at most it, from it on, and which pages are reached, are as the page says; the pages stay. Conditions: none.
-/
import Derived.Test.YtgbbkmdfangmmaaGreatC08
import Derived.Test.YtgbbkmdfangmmaaGreatC17
import Derived.Test.YtgbbkmdfangmmaaGreatC19
import Derived.Test.YtgbbkmdfangmmaaGreatC20
namespace Go.Proofs.YtgbbkmdfangmmaaGreat
set_option maxRecDepth 20000
open Go.ChangeShapes Go.WideShapes Go.ChangeAt Go.RowKit
set_option linter.unusedVariables false
set_option maxRecDepth 20000 in
set_option maxHeartbeats 8000000 in
theorem ttells_walk (cs : List Value) (s : Pgs) (root : Int) (kk m : Int) (W : World) (h0 : rSectors.rd W (fun b => b < W.heap.size) cs s) (hr0 : -9223372036854775808 ≤ root) (hr1 : root ≤ 9223372036854775807) (hk0 : 0 ≤ kk) (hk1 : kk ≤ 18446744073709551615) (hm0 : -9223372036854775808 ≤ m) (hm1 : m ≤ 9223372036854775807) :
    Calls Tryz.prog 3 #[.agg cs.toArray, .int .i64 root, .int .u64 kk, .int .i64 m] W fun e W' => e = .returned (.bool true) ∧ Below W.heap.size W W' := by
  obtain ⟨key, hkey⟩ : ∃ key : UInt64, kk = (key.toNat : Int) := ⟨UInt64.ofNat kk.toNat, by rw [UInt64.toNat_ofNat']; omega⟩
  subst hkey
  have HM0 : Hid (-9223372036854775808 ≤ m) := hm0
  have HM1 : Hid (m ≤ 9223372036854775807) := hm1
  clear hk0 hk1 hm0 hm1
  obtain ⟨a, n, c, rfl, hn, hn5⟩ := rPages_rd h0
  have HN : Hid (s.length = n) := hn
  have HN5 : Hid (n ≤ 5864062014634) := hn5
  have HR0 : Hid (-9223372036854775808 ≤ root) := hr0
  have HR1 : Hid (root ≤ 9223372036854775807) := hr1
  rw [show ([.slice a n c] : List Value).toArray = #[.slice a n c] from rfl]
  obtain ⟨w1, hw1, V1, b1, z1⟩ := boxedRow W 24 [.slice a n c]
  have Rs_1 : Hid (Row w1 (W.heap.size) 24 [.slice a n c]) := V1
  have B_1 : Hid (Below W.heap.size W w1) := b1
  have Ss_1 : Hid (rSectors.rd w1 (fun b => b < W.heap.size) [.slice a n c] (s)) := Rep.below h0 B_1.out
  clear V1 b1 z1 h0 hn hn5 hr0 hr1
  go_enter Tryz.func3, Tryz.ntmps3
  have qs0 := Rs_1.out.cell (j := 0) rfl
  go_wp2_with fail
  go_at_call 9
  refine Calls.mono (of8_u _ _ s a n c Ss_1.out) ?_
  rintro e w2 ⟨ao, co, rfl, h2, b2⟩
  have So_2 : Hid (rSectors.rd w2 (fun b => w1.heap.size ≤ b) [.slice ao n co] (s)) := h2
  have Rs_2 : Hid (Row w2 (W.heap.size) 24 [.slice a n c]) := Rs_1.out.below (b2)
  have Ss_2 : Hid (rSectors.rd w2 (fun b => b < W.heap.size) [.slice a n c] (s)) := Rep.below Ss_1.out (b2)
  have B_2 : Hid (Below W.heap.size W w2) := on B_1.out (b2)
  clear qs0
  clear Rs_1 Ss_1
  clear h2 b2
  have hns : n = s.length := HN.out.symm
  subst hns
  obtain ⟨w3, hw3, V3, b3, z3⟩ := boxedRow w2 26 [.slice ao s.length co]
  have Ro_3 : Hid (Row w3 (w2.heap.size) 26 [.slice ao s.length co]) := V3
  have Rs_3 : Hid (Row w3 (W.heap.size) 24 [.slice a s.length c]) := Rs_2.out.below (b3)
  have Ss_3 : Hid (rSectors.rd w3 (fun b => b < W.heap.size) [.slice a s.length c] (s)) := Rep.below Ss_2.out (b3)
  have So_3 : Hid (rSectors.rd w3 (fun b => w1.heap.size ≤ b) [.slice ao s.length co] (s)) := Rep.below So_2.out (b3)
  have B_3 : Hid (Below W.heap.size W w3) := on B_2.out (b3)
  clear Rs_2 Ss_2 So_2
  clear V3 b3 z3
  have qo0 := Ro_3.out.cell (j := 0) rfl
  go_wp2_with (go_at_call 17; refine (num8_u _ _).mono ?_; rintro e w99 ⟨rfl, rfl⟩)
  go_at_call 10
  refine Calls.mono (tfloor_u _ _ s root key _ _ So_3.out HR0.out HR1.out) ?_
  rintro e w4 ⟨rfl, b4⟩
  have Rs_4 : Hid (Row w4 (W.heap.size) 24 [.slice a s.length c]) := Rs_3.out.below (b4)
  have Ss_4 : Hid (rSectors.rd w4 (fun b => b < W.heap.size) [.slice a s.length c] (s)) := Rep.below Ss_3.out (b4)
  have So_4 : Hid (rSectors.rd w4 (fun b => w1.heap.size ≤ b) [.slice ao s.length co] (s)) := Rep.below So_3.out (b4)
  have Ro_4 : Hid (Row w4 (w2.heap.size) 26 [.slice ao s.length co]) := Ro_3.out.below (b4)
  have B_4 : Hid (Below W.heap.size W w4) := on B_3.out (b4)
  clear qo0
  clear Rs_3 Ss_3 So_3 Ro_3
  clear b4
  obtain ⟨X, hX⟩ : ∃ X, X = ((Tr.floorOf (Tr.readI s root) key).getD (0, 0)) := ⟨_, rfl⟩
  obtain ⟨Y, hY⟩ : ∃ Y, Y = (Tr.floorOf (Tr.readI s root) key).isSome := ⟨_, rfl⟩
  rw [← hX, ← hY]
  have HX : Hid _ := hX
  have HY : Hid _ := hY
  clear hX hY
  obtain ⟨w5, hw5, V5, b5, z5⟩ := boxedRow w4 29 [.int .u64 (X.1.toNat : Int), .int .u64 (X.2.toNat : Int)]
  have Ra_5 : Hid (Row w5 (w4.heap.size) 29 [.int .u64 (X.1.toNat : Int), .int .u64 (X.2.toNat : Int)]) := V5
  have Rs_5 : Hid (Row w5 (W.heap.size) 24 [.slice a s.length c]) := Rs_4.out.below (b5)
  have Ss_5 : Hid (rSectors.rd w5 (fun b => b < W.heap.size) [.slice a s.length c] (s)) := Rep.below Ss_4.out (b5)
  have So_5 : Hid (rSectors.rd w5 (fun b => w1.heap.size ≤ b) [.slice ao s.length co] (s)) := Rep.below So_4.out (b5)
  have Ro_5 : Hid (Row w5 (w2.heap.size) 26 [.slice ao s.length co]) := Ro_4.out.below (b5)
  have B_5 : Hid (Below W.heap.size W w5) := on B_4.out (b5)
  clear Rs_4 Ss_4 So_4 Ro_4
  clear V5 b5 z5
  have qs0 := Rs_5.out.cell (j := 0) rfl
  go_wp2_with (go_at_call 17; refine (num8_u _ _).mono ?_; rintro e w99 ⟨rfl, rfl⟩)
  go_at_call 11
  refine Calls.mono (rfloor_u _ _ s root key _ _ Ss_5.out HR0.out HR1.out) ?_
  rintro e w6 ⟨rfl, b6⟩
  have Rs_6 : Hid (Row w6 (W.heap.size) 24 [.slice a s.length c]) := Rs_5.out.below (b6)
  have Ss_6 : Hid (rSectors.rd w6 (fun b => b < W.heap.size) [.slice a s.length c] (s)) := Rep.below Ss_5.out (b6)
  have So_6 : Hid (rSectors.rd w6 (fun b => w1.heap.size ≤ b) [.slice ao s.length co] (s)) := Rep.below So_5.out (b6)
  have Ro_6 : Hid (Row w6 (w2.heap.size) 26 [.slice ao s.length co]) := Ro_5.out.below (b6)
  have Ra_6 : Hid (Row w6 (w4.heap.size) 29 [.int .u64 (X.1.toNat : Int), .int .u64 (X.2.toNat : Int)]) := Ra_5.out.below (b6)
  have B_6 : Hid (Below W.heap.size W w6) := on B_5.out (b6)
  clear qs0
  clear Rs_5 Ss_5 So_5 Ro_5 Ra_5
  clear b6
  rw [← HX.out, ← HY.out]
  obtain ⟨w7, hw7, V7, b7, z7⟩ := boxedRow w6 29 [.int .u64 (X.1.toNat : Int), .int .u64 (X.2.toNat : Int)]
  have Rb_7 : Hid (Row w7 (w6.heap.size) 29 [.int .u64 (X.1.toNat : Int), .int .u64 (X.2.toNat : Int)]) := V7
  have Rs_7 : Hid (Row w7 (W.heap.size) 24 [.slice a s.length c]) := Rs_6.out.below (b7)
  have Ss_7 : Hid (rSectors.rd w7 (fun b => b < W.heap.size) [.slice a s.length c] (s)) := Rep.below Ss_6.out (b7)
  have So_7 : Hid (rSectors.rd w7 (fun b => w1.heap.size ≤ b) [.slice ao s.length co] (s)) := Rep.below So_6.out (b7)
  have Ro_7 : Hid (Row w7 (w2.heap.size) 26 [.slice ao s.length co]) := Ro_6.out.below (b7)
  have Ra_7 : Hid (Row w7 (w4.heap.size) 29 [.int .u64 (X.1.toNat : Int), .int .u64 (X.2.toNat : Int)]) := Ra_6.out.below (b7)
  have B_7 : Hid (Below W.heap.size W w7) := on B_6.out (b7)
  clear Rs_6 Ss_6 So_6 Ro_6 Ra_6
  clear V7 b7 z7
  have qo0 := Ro_7.out.cell (j := 0) rfl
  go_wp2_with (go_at_call 17; refine (num8_u _ _).mono ?_; rintro e w99 ⟨rfl, rfl⟩)
  go_at_call 12
  refine Calls.mono (trange_u _ _ s root key m _ _ So_7.out HR0.out HR1.out HM0.out HM1.out) ?_
  rintro e w8 ⟨ac, nc, cc, rfl, h8, b8⟩
  have Pc_8 : Hid (OwnI 29 w8 (w7.heap.size) (.slice ac nc cc) (Tr.rangeL s root key m)) := h8
  have Rs_8 : Hid (Row w8 (W.heap.size) 24 [.slice a s.length c]) := Rs_7.out.below (b8)
  have Ss_8 : Hid (rSectors.rd w8 (fun b => b < W.heap.size) [.slice a s.length c] (s)) := Rep.below Ss_7.out (b8)
  have So_8 : Hid (rSectors.rd w8 (fun b => w1.heap.size ≤ b) [.slice ao s.length co] (s)) := Rep.below So_7.out (b8)
  have Ro_8 : Hid (Row w8 (w2.heap.size) 26 [.slice ao s.length co]) := Ro_7.out.below (b8)
  have Ra_8 : Hid (Row w8 (w4.heap.size) 29 [.int .u64 (X.1.toNat : Int), .int .u64 (X.2.toNat : Int)]) := Ra_7.out.below (b8)
  have Rb_8 : Hid (Row w8 (w6.heap.size) 29 [.int .u64 (X.1.toNat : Int), .int .u64 (X.2.toNat : Int)]) := Rb_7.out.below (b8)
  have B_8 : Hid (Below W.heap.size W w8) := on B_7.out (b8)
  clear qo0
  clear Rs_7 Ss_7 So_7 Ro_7 Ra_7 Rb_7
  clear h8 b8
  have qs0 := Rs_8.out.cell (j := 0) rfl
  go_wp2_with (go_at_call 17; refine (num8_u _ _).mono ?_; rintro e w99 ⟨rfl, rfl⟩)
  go_at_call 13
  refine Calls.mono (rrange_u _ _ s root key m _ _ Ss_8.out HR0.out HR1.out HM0.out HM1.out) ?_
  rintro e w9 ⟨ad, nd, cd, rfl, h9, b9⟩
  have Pd_9 : Hid (OwnI 29 w9 (w8.heap.size) (.slice ad nd cd) (Tr.rangeL s root key m)) := h9
  have Rs_9 : Hid (Row w9 (W.heap.size) 24 [.slice a s.length c]) := Rs_8.out.below (b9)
  have Ss_9 : Hid (rSectors.rd w9 (fun b => b < W.heap.size) [.slice a s.length c] (s)) := Rep.below Ss_8.out (b9)
  have So_9 : Hid (rSectors.rd w9 (fun b => w1.heap.size ≤ b) [.slice ao s.length co] (s)) := Rep.below So_8.out (b9)
  have Ro_9 : Hid (Row w9 (w2.heap.size) 26 [.slice ao s.length co]) := Ro_8.out.below (b9)
  have Ra_9 : Hid (Row w9 (w4.heap.size) 29 [.int .u64 (X.1.toNat : Int), .int .u64 (X.2.toNat : Int)]) := Ra_8.out.below (b9)
  have Rb_9 : Hid (Row w9 (w6.heap.size) 29 [.int .u64 (X.1.toNat : Int), .int .u64 (X.2.toNat : Int)]) := Rb_8.out.below (b9)
  have Pc_9 : Hid (OwnI 29 w9 (w7.heap.size) (.slice ac nc cc) (Tr.rangeL s root key m)) := Pc_8.out.below (b9)
  have B_9 : Hid (Below W.heap.size W w9) := on B_8.out (b9)
  clear qs0
  clear Rs_8 Ss_8 So_8 Ro_8 Ra_8 Rb_8 Pc_8
  clear h9 b9
  have qo0 := Ro_9.out.cell (j := 0) rfl
  go_wp2_with (go_at_call 17; refine (num8_u _ _).mono ?_; rintro e w99 ⟨rfl, rfl⟩)
  go_at_call 14
  refine Calls.mono (reach_u _ _ s root _ _ So_9.out HR0.out HR1.out) ?_
  rintro e w10 ⟨ap, np, cp, rfl, h10, b10⟩
  have kp_10 : Hid (OwnK 3 w10 (w9.heap.size) (.slice ap np cp) (Tr.readP s root)) := h10
  have Rs_10 : Hid (Row w10 (W.heap.size) 24 [.slice a s.length c]) := Rs_9.out.below (b10)
  have Ss_10 : Hid (rSectors.rd w10 (fun b => b < W.heap.size) [.slice a s.length c] (s)) := Rep.below Ss_9.out (b10)
  have So_10 : Hid (rSectors.rd w10 (fun b => w1.heap.size ≤ b) [.slice ao s.length co] (s)) := Rep.below So_9.out (b10)
  have Ro_10 : Hid (Row w10 (w2.heap.size) 26 [.slice ao s.length co]) := Ro_9.out.below (b10)
  have Ra_10 : Hid (Row w10 (w4.heap.size) 29 [.int .u64 (X.1.toNat : Int), .int .u64 (X.2.toNat : Int)]) := Ra_9.out.below (b10)
  have Rb_10 : Hid (Row w10 (w6.heap.size) 29 [.int .u64 (X.1.toNat : Int), .int .u64 (X.2.toNat : Int)]) := Rb_9.out.below (b10)
  have Pc_10 : Hid (OwnI 29 w10 (w7.heap.size) (.slice ac nc cc) (Tr.rangeL s root key m)) := Pc_9.out.below (b10)
  have Pd_10 : Hid (OwnI 29 w10 (w8.heap.size) (.slice ad nd cd) (Tr.rangeL s root key m)) := Pd_9.out.below (b10)
  have B_10 : Hid (Below W.heap.size W w10) := on B_9.out (b10)
  clear qo0
  clear Rs_9 Ss_9 So_9 Ro_9 Ra_9 Rb_9 Pc_9 Pd_9
  clear h10 b10
  have qs0 := Rs_10.out.cell (j := 0) rfl
  go_wp2_with (go_at_call 17; refine (num8_u _ _).mono ?_; rintro e w99 ⟨rfl, rfl⟩)
  go_at_call 15
  refine Calls.mono (rreach_u _ _ s root _ _ Ss_10.out HR0.out HR1.out) ?_
  rintro e w11 ⟨aq, nq, cq, rfl, h11, b11⟩
  have kq_11 : Hid (OwnK 3 w11 (w10.heap.size) (.slice aq nq cq) (Tr.readP s root)) := h11
  have Rs_11 : Hid (Row w11 (W.heap.size) 24 [.slice a s.length c]) := Rs_10.out.below (b11)
  have Ss_11 : Hid (rSectors.rd w11 (fun b => b < W.heap.size) [.slice a s.length c] (s)) := Rep.below Ss_10.out (b11)
  have So_11 : Hid (rSectors.rd w11 (fun b => w1.heap.size ≤ b) [.slice ao s.length co] (s)) := Rep.below So_10.out (b11)
  have Ro_11 : Hid (Row w11 (w2.heap.size) 26 [.slice ao s.length co]) := Ro_10.out.below (b11)
  have Ra_11 : Hid (Row w11 (w4.heap.size) 29 [.int .u64 (X.1.toNat : Int), .int .u64 (X.2.toNat : Int)]) := Ra_10.out.below (b11)
  have Rb_11 : Hid (Row w11 (w6.heap.size) 29 [.int .u64 (X.1.toNat : Int), .int .u64 (X.2.toNat : Int)]) := Rb_10.out.below (b11)
  have Pc_11 : Hid (OwnI 29 w11 (w7.heap.size) (.slice ac nc cc) (Tr.rangeL s root key m)) := Pc_10.out.below (b11)
  have Pd_11 : Hid (OwnI 29 w11 (w8.heap.size) (.slice ad nd cd) (Tr.rangeL s root key m)) := Pd_10.out.below (b11)
  have kp_11 : Hid (OwnK 3 w11 (w9.heap.size) (.slice ap np cp) (Tr.readP s root)) := kp_10.out.below (b11)
  have B_11 : Hid (Below W.heap.size W w11) := on B_10.out (b11)
  clear qs0
  clear Rs_10 Ss_10 So_10 Ro_10 Ra_10 Rb_10 Pc_10 Pd_10 kp_10
  clear h11 b11
  have qo0 := Ro_11.out.cell (j := 0) rfl
  go_wp2_with (go_at_call 17; refine (num8_u _ _).mono ?_; rintro e w99 ⟨rfl, rfl⟩)
  go_at_call 16
  refine Calls.mono (tget_u _ _ s root key _ _ So_11.out HR0.out HR1.out) ?_
  rintro e w12 ⟨rfl, b12⟩
  have Rs_12 : Hid (Row w12 (W.heap.size) 24 [.slice a s.length c]) := Rs_11.out.below (b12)
  have Ss_12 : Hid (rSectors.rd w12 (fun b => b < W.heap.size) [.slice a s.length c] (s)) := Rep.below Ss_11.out (b12)
  have So_12 : Hid (rSectors.rd w12 (fun b => w1.heap.size ≤ b) [.slice ao s.length co] (s)) := Rep.below So_11.out (b12)
  have Ro_12 : Hid (Row w12 (w2.heap.size) 26 [.slice ao s.length co]) := Ro_11.out.below (b12)
  have Ra_12 : Hid (Row w12 (w4.heap.size) 29 [.int .u64 (X.1.toNat : Int), .int .u64 (X.2.toNat : Int)]) := Ra_11.out.below (b12)
  have Rb_12 : Hid (Row w12 (w6.heap.size) 29 [.int .u64 (X.1.toNat : Int), .int .u64 (X.2.toNat : Int)]) := Rb_11.out.below (b12)
  have Pc_12 : Hid (OwnI 29 w12 (w7.heap.size) (.slice ac nc cc) (Tr.rangeL s root key m)) := Pc_11.out.below (b12)
  have Pd_12 : Hid (OwnI 29 w12 (w8.heap.size) (.slice ad nd cd) (Tr.rangeL s root key m)) := Pd_11.out.below (b12)
  have kp_12 : Hid (OwnK 3 w12 (w9.heap.size) (.slice ap np cp) (Tr.readP s root)) := kp_11.out.below (b12)
  have kq_12 : Hid (OwnK 3 w12 (w10.heap.size) (.slice aq nq cq) (Tr.readP s root)) := kq_11.out.below (b12)
  have B_12 : Hid (Below W.heap.size W w12) := on B_11.out (b12)
  clear qo0
  clear Rs_11 Ss_11 So_11 Ro_11 Ra_11 Rb_11 Pc_11 Pd_11 kp_11 kq_11
  clear b12
  obtain ⟨V, hV⟩ : ∃ V, V = (Tr.getO (Tr.readI s root) key).getD 0 := ⟨_, rfl⟩
  obtain ⟨G, hG⟩ : ∃ G, G = (Tr.getO (Tr.readI s root) key).isSome := ⟨_, rfl⟩
  rw [← hV, ← hG]
  have HG : Hid (G = (Y && (X.1 == key))) := by unfold Hid; rw [hG, HX.out, HY.out]; exact Tr.get_floor_some _ _
  have HV : Hid (V = if G = true then X.2 else 0) := by unfold Hid; rw [hV, hG, HX.out]; exact Tr.get_floor_val _ _
  clear hV hG HX HY
  obtain ⟨E, hE⟩ : ∃ E, E = Tr.readE s root := ⟨_, rfl⟩
  obtain ⟨E2, hE2⟩ : ∃ E2, E2 = Tr.rangeE s root m := ⟨_, rfl⟩
  rw [← hE, ← hE2]
  have HE : Hid _ := hE
  clear hE hE2
  obtain ⟨qa0, qa1⟩ := Ra_12.out.two
  obtain ⟨qb0, qb1⟩ := Rb_12.out.two
  have HLr : Hid ((Tr.rangeL s root key m).length ≤ 8796093021952) := Nat.le_trans (Tr.rangeL_few s root key m) (by decide)
  have HLp : Hid ((Tr.readP s root).length ≤ 17592186043904) := by unfold Hid; have h1 := HN5.out; have h2 := Tr.readP_few s root; omega
  have eE : (E == E) = true := beq_self_eq_true _
  have eE2 : (E2 == E2) = true := beq_self_eq_true _
  have eY : (Y == Y) = true := beq_self_eq_true _
  have eX0 : ((X.1.toNat : Int) == (X.1.toNat : Int)) = true := beq_self_eq_true _
  have eX1 : ((X.2.toNat : Int) == (X.2.toNat : Int)) = true := beq_self_eq_true _
  go_wp2_with (go_at_call 17; refine (num8_u _ _).mono ?_; rintro e w99 ⟨rfl, rfl⟩)
  go_at_call 18
  refine Calls.mono (sameItms_u _ _ _ _ _ _ _ _ _ _ _ (Pc_12.out.rd HLr.out) (Pd_12.out.rd HLr.out)) ?_
  rintro e w13 ⟨rfl, b13⟩
  have Rs_13 : Hid (Row w13 (W.heap.size) 24 [.slice a s.length c]) := Rs_12.out.below (b13)
  have Ss_13 : Hid (rSectors.rd w13 (fun b => b < W.heap.size) [.slice a s.length c] (s)) := Rep.below Ss_12.out (b13)
  have So_13 : Hid (rSectors.rd w13 (fun b => w1.heap.size ≤ b) [.slice ao s.length co] (s)) := Rep.below So_12.out (b13)
  have Ro_13 : Hid (Row w13 (w2.heap.size) 26 [.slice ao s.length co]) := Ro_12.out.below (b13)
  have Ra_13 : Hid (Row w13 (w4.heap.size) 29 [.int .u64 (X.1.toNat : Int), .int .u64 (X.2.toNat : Int)]) := Ra_12.out.below (b13)
  have Rb_13 : Hid (Row w13 (w6.heap.size) 29 [.int .u64 (X.1.toNat : Int), .int .u64 (X.2.toNat : Int)]) := Rb_12.out.below (b13)
  have Pc_13 : Hid (OwnI 29 w13 (w7.heap.size) (.slice ac nc cc) (Tr.rangeL s root key m)) := Pc_12.out.below (b13)
  have Pd_13 : Hid (OwnI 29 w13 (w8.heap.size) (.slice ad nd cd) (Tr.rangeL s root key m)) := Pd_12.out.below (b13)
  have kp_13 : Hid (OwnK 3 w13 (w9.heap.size) (.slice ap np cp) (Tr.readP s root)) := kp_12.out.below (b13)
  have kq_13 : Hid (OwnK 3 w13 (w10.heap.size) (.slice aq nq cq) (Tr.readP s root)) := kq_12.out.below (b13)
  have B_13 : Hid (Below W.heap.size W w13) := on B_12.out (b13)
  clear qa0 qa1 qb0 qb1
  clear Rs_12 Ss_12 So_12 Ro_12 Ra_12 Rb_12 Pc_12 Pd_12 kp_12 kq_12
  clear b13
  rw [show decide (Tr.rangeL s root key m = Tr.rangeL s root key m) = true from decide_eq_true rfl]
  go_wp2_with (go_at_call 17; refine (num8_u _ _).mono ?_; rintro e w99 ⟨rfl, rfl⟩)
  go_at_call 19
  refine Calls.mono (sameKids_u _ _ _ _ _ _ _ _ _ _ _ (kp_13.out.rd HLp.out) (kq_13.out.rd HLp.out)) ?_
  rintro e w14 ⟨rfl, b14⟩
  have Rs_14 : Hid (Row w14 (W.heap.size) 24 [.slice a s.length c]) := Rs_13.out.below (b14)
  have Ss_14 : Hid (rSectors.rd w14 (fun b => b < W.heap.size) [.slice a s.length c] (s)) := Rep.below Ss_13.out (b14)
  have So_14 : Hid (rSectors.rd w14 (fun b => w1.heap.size ≤ b) [.slice ao s.length co] (s)) := Rep.below So_13.out (b14)
  have Ro_14 : Hid (Row w14 (w2.heap.size) 26 [.slice ao s.length co]) := Ro_13.out.below (b14)
  have Ra_14 : Hid (Row w14 (w4.heap.size) 29 [.int .u64 (X.1.toNat : Int), .int .u64 (X.2.toNat : Int)]) := Ra_13.out.below (b14)
  have Rb_14 : Hid (Row w14 (w6.heap.size) 29 [.int .u64 (X.1.toNat : Int), .int .u64 (X.2.toNat : Int)]) := Rb_13.out.below (b14)
  have Pc_14 : Hid (OwnI 29 w14 (w7.heap.size) (.slice ac nc cc) (Tr.rangeL s root key m)) := Pc_13.out.below (b14)
  have Pd_14 : Hid (OwnI 29 w14 (w8.heap.size) (.slice ad nd cd) (Tr.rangeL s root key m)) := Pd_13.out.below (b14)
  have kp_14 : Hid (OwnK 3 w14 (w9.heap.size) (.slice ap np cp) (Tr.readP s root)) := kp_13.out.below (b14)
  have kq_14 : Hid (OwnK 3 w14 (w10.heap.size) (.slice aq nq cq) (Tr.readP s root)) := kq_13.out.below (b14)
  have B_14 : Hid (Below W.heap.size W w14) := on B_13.out (b14)
  clear Rs_13 Ss_13 So_13 Ro_13 Ra_13 Rb_13 Pc_13 Pd_13 kp_13 kq_13
  clear b14
  rw [show decide (Tr.readP s root = Tr.readP s root) = true from decide_eq_true rfl]
  clear Pc_14 Pd_14 kp_14 kq_14
  have hcase : (Y = false ∧ G = false ∧ V = 0) ∨ (Y = true ∧ X.1 = key ∧ G = true ∧ V = X.2) ∨ (Y = true ∧ X.1 ≠ key ∧ G = false ∧ V = 0) := by
    have h1 := HG.out
    have h2 := HV.out
    cases Y with
    | false => exact .inl ⟨rfl, h1, by rw [h2, h1]; rfl⟩
    | true =>
      by_cases hk : X.1 = key
      · have e : (X.1 == key) = true := beq_iff_eq.2 hk
        exact .inr (.inl ⟨rfl, hk, by rw [h1, e]; rfl, by rw [h2, h1, e]; rfl⟩)
      · have e : (X.1 == key) = false := beq_eq_false_iff_ne.2 hk
        exact .inr (.inr ⟨rfl, hk, by rw [h1, e]; rfl, by rw [h2, h1, e]; rfl⟩)
  clear HG HV
  rcases hcase with ⟨rfl, rfl, rfl⟩ | ⟨rfl, hk, rfl, rfl⟩ | ⟨rfl, hk, rfl, rfl⟩
  · have eS : (s == s) = true := beq_self_eq_true _
    obtain ⟨qb0, qb1⟩ := Rb_14.out.two
    go_wp2_with (go_at_call 17; refine (num8_u _ _).mono ?_; rintro e w99 ⟨rfl, rfl⟩)
    have SK_14 : Hid (∀ {w' : World}, Below w14.heap.size w14 w' → w'.cell? ⟨w2.heap.size, 0, none⟩ = some (.slice ao s.length co) ∧ w'.cell? ⟨W.heap.size, 0, none⟩ = some (.slice a s.length c)) := fun b => ⟨(Ro_14.out.below b).cell (j := 0) rfl, (Rs_14.out.below b).cell (j := 0) rfl⟩
    clear qb0 qb1
    refine wp_region_held_drew (S := (fun w' : World => w'.cell? ⟨w2.heap.size, 0, none⟩ = some (.slice ao s.length co) ∧ w'.cell? ⟨W.heap.size, 0, none⟩ = some (.slice a s.length c))) (by kernel_rfl) (SK_14.out (Below.refl _ _).drew) (fun hHeld => ?_)
    refine wpAnyH_takeL (i := 0) (v := ?_) rfl rfl (by kernel_rfl) (by kernel_rfl) (by kernel_rfl) (fun _ _ _ h => h) (Or.inl ⟨by rfl, ?_⟩) (by assumption) ?_
    rotate_left
    · intro w hSw
      try dsimp only at hSw
      go_simp
      all_goals with_reducible rfl
    simp only [List.set_cons_zero, List.set_cons_succ]
    refine wpAnyH_takeL (i := 1) (v := ?_) rfl rfl (by kernel_rfl) (by kernel_rfl) (by kernel_rfl) (fun _ _ _ h => h) (Or.inl ⟨by rfl, ?_⟩) (by assumption) ?_
    rotate_left
    · intro w hSw
      try dsimp only at hSw
      go_simp
      all_goals with_reducible rfl
    simp only [List.set_cons_zero, List.set_cons_succ]
    refine wpAnyH_takeL (i := 4) (v := ?_) rfl rfl (by kernel_rfl) (by kernel_rfl) (by kernel_rfl) (fun _ _ _ h => h) (Or.inl ⟨by rfl, ?_⟩) (by assumption) ?_
    rotate_left
    · intro w hSw
      try dsimp only at hSw
      go_simp
      all_goals with_reducible rfl
    simp only [List.set_cons_zero, List.set_cons_succ]
    refine wpAnyH_takeL (i := 5) (v := ?_) rfl rfl (by kernel_rfl) (by kernel_rfl) (by kernel_rfl) (fun _ _ _ h => h) (Or.inl ⟨by rfl, ?_⟩) (by assumption) ?_
    rotate_left
    · intro w hSw
      try dsimp only at hSw
      go_simp
      all_goals with_reducible rfl
    simp only [List.set_cons_zero, List.set_cons_succ]
    refine wpAnyH_ready (rs := [2]) (by kernel_rfl) (by simp) ?_
    refine AllReadyH.cons rfl (fun K hK => ?_) ?_
    · go_simp
      go_at_call 20
      refine Calls.mono (tcheck_u _ _ s root _ _ (Rep.below So_14.out ((Below.refl _ _).drew)) HR0.out HR1.out) ?_
      rintro e wB ⟨rfl, bB⟩
      have BL1 : Hid (Below w14.heap.size w14 wB) := below_drew_pre0 bB
      clear bB
      rw [← HE.out]
      go_simp
      refine hK.out _ _ ?_ (fun hHeld => ?_)
      · try dsimp only
        exact SK_14.out BL1.out
      clear hK K
      refine wpAnyH_ready (rs := [3]) (by kernel_rfl) (by simp) ?_
      refine AllReadyH.cons rfl (fun K hK => ?_) ?_
      · go_simp
        go_at_call 17
        refine Calls.mono (num8_u _ _) ?_
        rintro e w99 ⟨rfl, rfl⟩
        go_simp
        refine hK.out _ _ ?_ (fun hHeld => ?_)
        · try dsimp only
          exact SK_14.out BL1.out
        clear hK K
        refine wpAnyH_ready (rs := [6]) (by kernel_rfl) (by simp) ?_
        refine AllReadyH.cons rfl (fun K hK => ?_) ?_
        · go_simp
          go_at_call 21
          refine Calls.mono (rcheck_u _ _ s root _ _ (Rep.below Ss_14.out (BL1.out)) HR0.out HR1.out) ?_
          rintro e wC ⟨rfl, bC⟩
          have BL2 : Hid (Below w14.heap.size w14 wC) := on BL1.out bC
          clear bC
          rw [← HE.out]
          go_simp
          refine hK.out _ _ ?_ (fun hHeld => ?_)
          · try dsimp only
            exact SK_14.out BL2.out
          clear hK K
          refine wpAnyH_takeL (i := 7) (v := ?_) rfl rfl (by kernel_rfl) (by kernel_rfl) (by kernel_rfl) (fun _ _ _ h => h) (Or.inl ⟨by rfl, ?_⟩) (by assumption) ?_
          rotate_left
          · intro w hSw
            try dsimp only at hSw
            go_simp
            all_goals with_reducible rfl
          simp only [List.set_cons_zero, List.set_cons_succ]
          refine wpAnyH_takeL (i := 8) (v := ?_) rfl rfl (by kernel_rfl) (by kernel_rfl) (by kernel_rfl) (fun _ _ _ h => h) (Or.inl ⟨by rfl, ?_⟩) (by assumption) ?_
          rotate_left
          · intro w hSw
            try dsimp only at hSw
            go_simp
            all_goals with_reducible rfl
          simp only [List.set_cons_zero, List.set_cons_succ]
          refine wpAnyH_takeL (i := 9) (v := ?_) rfl rfl (by kernel_rfl) (by kernel_rfl) (by kernel_rfl) (fun _ _ _ h => h) (Or.inl ⟨by rfl, ?_⟩) (by assumption) ?_
          rotate_left
          · intro w hSw
            try dsimp only at hSw
            go_simp
            all_goals with_reducible rfl
          simp only [List.set_cons_zero, List.set_cons_succ]
          refine wpAnyH_takeL (i := 10) (v := ?_) rfl rfl (by kernel_rfl) (by kernel_rfl) (by kernel_rfl) (fun _ _ _ h => h) (Or.inl ⟨by rfl, ?_⟩) (by assumption) ?_
          rotate_left
          · intro w hSw
            try dsimp only at hSw
            go_simp
            all_goals with_reducible rfl
          simp only [List.set_cons_zero, List.set_cons_succ]
          refine wpAnyH_takeL (i := 11) (v := ?_) rfl rfl (by kernel_rfl) (by kernel_rfl) (by kernel_rfl) (fun _ _ _ h => h) (Or.inl ⟨by rfl, ?_⟩) (by assumption) ?_
          rotate_left
          · intro w hSw
            try dsimp only at hSw
            go_simp
            all_goals with_reducible rfl
          simp only [List.set_cons_zero, List.set_cons_succ]
          refine wpAnyH_takeL (i := 12) (v := ?_) rfl rfl (by kernel_rfl) (by kernel_rfl) (by kernel_rfl) (fun _ _ _ h => h) (Or.inl ⟨by rfl, ?_⟩) (by assumption) ?_
          rotate_left
          · intro w hSw
            try dsimp only at hSw
            go_simp
            all_goals with_reducible rfl
          simp only [List.set_cons_zero, List.set_cons_succ]
          refine wpAnyH_ready (rs := [13]) (by kernel_rfl) (by simp) ?_
          refine AllReadyH.cons rfl (fun K hK => ?_) ?_
          · go_simp
            go_at_call 22
            refine Calls.mono (sameList_r _ _ _ _ _ _ _ _ _ _ _ (Rep.below So_14.out (BL2.out)) (Rep.below Ss_14.out (BL2.out))) ?_
            rintro e wD ⟨rfl, bD⟩
            have BL3 : Hid (Below w14.heap.size w14 wD) := on BL2.out bD
            clear bD
            rw [eS]
            go_simp
            refine hK.out _ _ ?_ (fun hHeld => ?_)
            · try dsimp only
              exact SK_14.out BL3.out
            clear hK K
            refine wpAnyH_takeL (i := 14) (v := ?_) rfl rfl (by kernel_rfl) (by kernel_rfl) (by kernel_rfl) (fun _ _ _ h => h) (Or.inl ⟨by rfl, ?_⟩) (by assumption) ?_
            rotate_left
            · intro w hSw
              try dsimp only at hSw
              go_simp
              all_goals with_reducible rfl
            simp only [List.set_cons_zero, List.set_cons_succ]
            refine wpAnyH_takeL (i := 15) (v := ?_) rfl rfl (by kernel_rfl) (by kernel_rfl) (by kernel_rfl) (fun _ _ _ h => h) (Or.inl ⟨by rfl, ?_⟩) (by assumption) ?_
            rotate_left
            · intro w hSw
              try dsimp only at hSw
              go_simp
              all_goals with_reducible rfl
            simp only [List.set_cons_zero, List.set_cons_succ]
            refine wpAnyH_ready (rs := [16]) (by kernel_rfl) (by simp) ?_
            refine AllReadyH.cons rfl (fun K hK => ?_) ?_
            · go_simp
              go_at_call 23
              refine Calls.mono (alive8_u _) ?_
              rintro e wE ⟨rfl, bE⟩
              have BL4 : Hid (Below w14.heap.size w14 wE) := on BL3.out bE
              clear bE
              go_simp
              refine hK.out _ _ ?_ (fun hHeld => ?_)
              · try dsimp only
                exact SK_14.out BL4.out
              clear hK K
              refine wpAnyH_takeL (i := 17) (v := ?_) rfl rfl (by kernel_rfl) (by kernel_rfl) (by kernel_rfl) (fun _ _ _ h => h) (Or.inl ⟨by rfl, ?_⟩) (by assumption) ?_
              rotate_left
              · intro w hSw
                try dsimp only at hSw
                go_simp
                all_goals with_reducible rfl
              simp only [List.set_cons_zero, List.set_cons_succ]
              refine wpAnyH_takeL (i := 18) (v := ?_) rfl rfl (by kernel_rfl) (by kernel_rfl) (by kernel_rfl) (fun _ _ _ h => h) (Or.inl ⟨by rfl, ?_⟩) (by assumption) ?_
              rotate_left
              · intro w hSw
                try dsimp only at hSw
                go_simp
                all_goals with_reducible rfl
              simp only [List.set_cons_zero, List.set_cons_succ]
              refine wpAnyH_done (by kernel_rfl) ?_ _
              clear hHeld
              go_wp2
              go_ret
              exact ⟨rfl, on B_14.out BL4.out⟩
            exact AllReadyH.nil
          exact AllReadyH.nil
        exact AllReadyH.nil
      exact AllReadyH.nil
    exact AllReadyH.nil
  · have eS : (s == s) = true := beq_self_eq_true _
    have hkI : (X.1.toNat : Int) = (key.toNat : Int) := by rw [hk]
    have hkb : ((X.1.toNat : Int) == (key.toNat : Int)) = true := by rw [hkI]; exact beq_self_eq_true _
    clear hk
    obtain ⟨qb0, qb1⟩ := Rb_14.out.two
    go_wp2_with (go_at_call 17; refine (num8_u _ _).mono ?_; rintro e w99 ⟨rfl, rfl⟩)
    have SK_14 : Hid (∀ {w' : World}, Below w14.heap.size w14 w' → w'.cell? ⟨w2.heap.size, 0, none⟩ = some (.slice ao s.length co) ∧ w'.cell? ⟨W.heap.size, 0, none⟩ = some (.slice a s.length c)) := fun b => ⟨(Ro_14.out.below b).cell (j := 0) rfl, (Rs_14.out.below b).cell (j := 0) rfl⟩
    clear qb0 qb1
    refine wp_region_held_drew (S := (fun w' : World => w'.cell? ⟨w2.heap.size, 0, none⟩ = some (.slice ao s.length co) ∧ w'.cell? ⟨W.heap.size, 0, none⟩ = some (.slice a s.length c))) (by kernel_rfl) (SK_14.out (Below.refl _ _).drew) (fun hHeld => ?_)
    refine wpAnyH_takeL (i := 0) (v := ?_) rfl rfl (by kernel_rfl) (by kernel_rfl) (by kernel_rfl) (fun _ _ _ h => h) (Or.inl ⟨by rfl, ?_⟩) (by assumption) ?_
    rotate_left
    · intro w hSw
      try dsimp only at hSw
      go_simp
      all_goals with_reducible rfl
    simp only [List.set_cons_zero, List.set_cons_succ]
    refine wpAnyH_takeL (i := 1) (v := ?_) rfl rfl (by kernel_rfl) (by kernel_rfl) (by kernel_rfl) (fun _ _ _ h => h) (Or.inl ⟨by rfl, ?_⟩) (by assumption) ?_
    rotate_left
    · intro w hSw
      try dsimp only at hSw
      go_simp
      all_goals with_reducible rfl
    simp only [List.set_cons_zero, List.set_cons_succ]
    refine wpAnyH_takeL (i := 4) (v := ?_) rfl rfl (by kernel_rfl) (by kernel_rfl) (by kernel_rfl) (fun _ _ _ h => h) (Or.inl ⟨by rfl, ?_⟩) (by assumption) ?_
    rotate_left
    · intro w hSw
      try dsimp only at hSw
      go_simp
      all_goals with_reducible rfl
    simp only [List.set_cons_zero, List.set_cons_succ]
    refine wpAnyH_takeL (i := 5) (v := ?_) rfl rfl (by kernel_rfl) (by kernel_rfl) (by kernel_rfl) (fun _ _ _ h => h) (Or.inl ⟨by rfl, ?_⟩) (by assumption) ?_
    rotate_left
    · intro w hSw
      try dsimp only at hSw
      go_simp
      all_goals with_reducible rfl
    simp only [List.set_cons_zero, List.set_cons_succ]
    refine wpAnyH_ready (rs := [2]) (by kernel_rfl) (by simp) ?_
    refine AllReadyH.cons rfl (fun K hK => ?_) ?_
    · go_simp
      go_at_call 20
      refine Calls.mono (tcheck_u _ _ s root _ _ (Rep.below So_14.out ((Below.refl _ _).drew)) HR0.out HR1.out) ?_
      rintro e wB ⟨rfl, bB⟩
      have BL1 : Hid (Below w14.heap.size w14 wB) := below_drew_pre0 bB
      clear bB
      rw [← HE.out]
      go_simp
      refine hK.out _ _ ?_ (fun hHeld => ?_)
      · try dsimp only
        exact SK_14.out BL1.out
      clear hK K
      refine wpAnyH_ready (rs := [3]) (by kernel_rfl) (by simp) ?_
      refine AllReadyH.cons rfl (fun K hK => ?_) ?_
      · go_simp
        go_at_call 17
        refine Calls.mono (num8_u _ _) ?_
        rintro e w99 ⟨rfl, rfl⟩
        go_simp
        refine hK.out _ _ ?_ (fun hHeld => ?_)
        · try dsimp only
          exact SK_14.out BL1.out
        clear hK K
        refine wpAnyH_ready (rs := [6]) (by kernel_rfl) (by simp) ?_
        refine AllReadyH.cons rfl (fun K hK => ?_) ?_
        · go_simp
          go_at_call 21
          refine Calls.mono (rcheck_u _ _ s root _ _ (Rep.below Ss_14.out (BL1.out)) HR0.out HR1.out) ?_
          rintro e wC ⟨rfl, bC⟩
          have BL2 : Hid (Below w14.heap.size w14 wC) := on BL1.out bC
          clear bC
          rw [← HE.out]
          go_simp
          refine hK.out _ _ ?_ (fun hHeld => ?_)
          · try dsimp only
            exact SK_14.out BL2.out
          clear hK K
          refine wpAnyH_takeL (i := 7) (v := ?_) rfl rfl (by kernel_rfl) (by kernel_rfl) (by kernel_rfl) (fun _ _ _ h => h) (Or.inl ⟨by rfl, ?_⟩) (by assumption) ?_
          rotate_left
          · intro w hSw
            try dsimp only at hSw
            go_simp
            all_goals with_reducible rfl
          simp only [List.set_cons_zero, List.set_cons_succ]
          refine wpAnyH_takeL (i := 8) (v := ?_) rfl rfl (by kernel_rfl) (by kernel_rfl) (by kernel_rfl) (fun _ _ _ h => h) (Or.inl ⟨by rfl, ?_⟩) (by assumption) ?_
          rotate_left
          · intro w hSw
            try dsimp only at hSw
            go_simp
            all_goals with_reducible rfl
          simp only [List.set_cons_zero, List.set_cons_succ]
          refine wpAnyH_takeL (i := 9) (v := ?_) rfl rfl (by kernel_rfl) (by kernel_rfl) (by kernel_rfl) (fun _ _ _ h => h) (Or.inl ⟨by rfl, ?_⟩) (by assumption) ?_
          rotate_left
          · intro w hSw
            try dsimp only at hSw
            go_simp
            all_goals with_reducible rfl
          simp only [List.set_cons_zero, List.set_cons_succ]
          refine wpAnyH_takeL (i := 10) (v := ?_) rfl rfl (by kernel_rfl) (by kernel_rfl) (by kernel_rfl) (fun _ _ _ h => h) (Or.inl ⟨by rfl, ?_⟩) (by assumption) ?_
          rotate_left
          · intro w hSw
            try dsimp only at hSw
            go_simp
            all_goals with_reducible rfl
          simp only [List.set_cons_zero, List.set_cons_succ]
          refine wpAnyH_takeL (i := 11) (v := ?_) rfl rfl (by kernel_rfl) (by kernel_rfl) (by kernel_rfl) (fun _ _ _ h => h) (Or.inl ⟨by rfl, ?_⟩) (by assumption) ?_
          rotate_left
          · intro w hSw
            try dsimp only at hSw
            go_simp
            all_goals with_reducible rfl
          simp only [List.set_cons_zero, List.set_cons_succ]
          refine wpAnyH_takeL (i := 12) (v := ?_) rfl rfl (by kernel_rfl) (by kernel_rfl) (by kernel_rfl) (fun _ _ _ h => h) (Or.inl ⟨by rfl, ?_⟩) (by assumption) ?_
          rotate_left
          · intro w hSw
            try dsimp only at hSw
            go_simp
            all_goals with_reducible rfl
          simp only [List.set_cons_zero, List.set_cons_succ]
          refine wpAnyH_ready (rs := [13]) (by kernel_rfl) (by simp) ?_
          refine AllReadyH.cons rfl (fun K hK => ?_) ?_
          · go_simp
            go_at_call 22
            refine Calls.mono (sameList_r _ _ _ _ _ _ _ _ _ _ _ (Rep.below So_14.out (BL2.out)) (Rep.below Ss_14.out (BL2.out))) ?_
            rintro e wD ⟨rfl, bD⟩
            have BL3 : Hid (Below w14.heap.size w14 wD) := on BL2.out bD
            clear bD
            rw [eS]
            go_simp
            refine hK.out _ _ ?_ (fun hHeld => ?_)
            · try dsimp only
              exact SK_14.out BL3.out
            clear hK K
            refine wpAnyH_takeL (i := 14) (v := ?_) rfl rfl (by kernel_rfl) (by kernel_rfl) (by kernel_rfl) (fun _ _ _ h => h) (Or.inl ⟨by rfl, ?_⟩) (by assumption) ?_
            rotate_left
            · intro w hSw
              try dsimp only at hSw
              go_simp
              all_goals with_reducible rfl
            simp only [List.set_cons_zero, List.set_cons_succ]
            refine wpAnyH_takeL (i := 15) (v := ?_) rfl rfl (by kernel_rfl) (by kernel_rfl) (by kernel_rfl) (fun _ _ _ h => h) (Or.inl ⟨by rfl, ?_⟩) (by assumption) ?_
            rotate_left
            · intro w hSw
              try dsimp only at hSw
              go_simp
              all_goals with_reducible rfl
            simp only [List.set_cons_zero, List.set_cons_succ]
            refine wpAnyH_ready (rs := [16]) (by kernel_rfl) (by simp) ?_
            refine AllReadyH.cons rfl (fun K hK => ?_) ?_
            · go_simp
              go_at_call 23
              refine Calls.mono (alive8_u _) ?_
              rintro e wE ⟨rfl, bE⟩
              have BL4 : Hid (Below w14.heap.size w14 wE) := on BL3.out bE
              clear bE
              go_simp
              refine hK.out _ _ ?_ (fun hHeld => ?_)
              · try dsimp only
                exact SK_14.out BL4.out
              clear hK K
              refine wpAnyH_takeL (i := 17) (v := ?_) rfl rfl (by kernel_rfl) (by kernel_rfl) (by kernel_rfl) (fun _ _ _ h => h) (Or.inl ⟨by rfl, ?_⟩) (by assumption) ?_
              rotate_left
              · intro w hSw
                try dsimp only at hSw
                go_simp
                all_goals with_reducible rfl
              simp only [List.set_cons_zero, List.set_cons_succ]
              refine wpAnyH_takeL (i := 18) (v := ?_) rfl rfl (by kernel_rfl) (by kernel_rfl) (by kernel_rfl) (fun _ _ _ h => h) (Or.inl ⟨by rfl, ?_⟩) (by assumption) ?_
              rotate_left
              · intro w hSw
                try dsimp only at hSw
                go_simp
                all_goals with_reducible rfl
              simp only [List.set_cons_zero, List.set_cons_succ]
              refine wpAnyH_done (by kernel_rfl) ?_ _
              clear hHeld
              go_wp2
              go_ret
              exact ⟨rfl, on B_14.out BL4.out⟩
            exact AllReadyH.nil
          exact AllReadyH.nil
        exact AllReadyH.nil
      exact AllReadyH.nil
    exact AllReadyH.nil
  · have eS : (s == s) = true := beq_self_eq_true _
    have hkI : ¬ ((X.1.toNat : Int) = (key.toNat : Int)) := fun e => hk (UInt64.toNat_inj.1 (by omega))
    have hkb : ((X.1.toNat : Int) == (key.toNat : Int)) = false := beq_eq_false_iff_ne.2 hkI
    clear hk
    obtain ⟨qb0, qb1⟩ := Rb_14.out.two
    go_wp2_with (go_at_call 17; refine (num8_u _ _).mono ?_; rintro e w99 ⟨rfl, rfl⟩)
    have SK_14 : Hid (∀ {w' : World}, Below w14.heap.size w14 w' → w'.cell? ⟨w2.heap.size, 0, none⟩ = some (.slice ao s.length co) ∧ w'.cell? ⟨W.heap.size, 0, none⟩ = some (.slice a s.length c)) := fun b => ⟨(Ro_14.out.below b).cell (j := 0) rfl, (Rs_14.out.below b).cell (j := 0) rfl⟩
    clear qb0 qb1
    refine wp_region_held_drew (S := (fun w' : World => w'.cell? ⟨w2.heap.size, 0, none⟩ = some (.slice ao s.length co) ∧ w'.cell? ⟨W.heap.size, 0, none⟩ = some (.slice a s.length c))) (by kernel_rfl) (SK_14.out (Below.refl _ _).drew) (fun hHeld => ?_)
    refine wpAnyH_takeL (i := 0) (v := ?_) rfl rfl (by kernel_rfl) (by kernel_rfl) (by kernel_rfl) (fun _ _ _ h => h) (Or.inl ⟨by rfl, ?_⟩) (by assumption) ?_
    rotate_left
    · intro w hSw
      try dsimp only at hSw
      go_simp
      all_goals with_reducible rfl
    simp only [List.set_cons_zero, List.set_cons_succ]
    refine wpAnyH_takeL (i := 1) (v := ?_) rfl rfl (by kernel_rfl) (by kernel_rfl) (by kernel_rfl) (fun _ _ _ h => h) (Or.inl ⟨by rfl, ?_⟩) (by assumption) ?_
    rotate_left
    · intro w hSw
      try dsimp only at hSw
      go_simp
      all_goals with_reducible rfl
    simp only [List.set_cons_zero, List.set_cons_succ]
    refine wpAnyH_takeL (i := 4) (v := ?_) rfl rfl (by kernel_rfl) (by kernel_rfl) (by kernel_rfl) (fun _ _ _ h => h) (Or.inl ⟨by rfl, ?_⟩) (by assumption) ?_
    rotate_left
    · intro w hSw
      try dsimp only at hSw
      go_simp
      all_goals with_reducible rfl
    simp only [List.set_cons_zero, List.set_cons_succ]
    refine wpAnyH_takeL (i := 5) (v := ?_) rfl rfl (by kernel_rfl) (by kernel_rfl) (by kernel_rfl) (fun _ _ _ h => h) (Or.inl ⟨by rfl, ?_⟩) (by assumption) ?_
    rotate_left
    · intro w hSw
      try dsimp only at hSw
      go_simp
      all_goals with_reducible rfl
    simp only [List.set_cons_zero, List.set_cons_succ]
    refine wpAnyH_ready (rs := [2]) (by kernel_rfl) (by simp) ?_
    refine AllReadyH.cons rfl (fun K hK => ?_) ?_
    · go_simp
      go_at_call 20
      refine Calls.mono (tcheck_u _ _ s root _ _ (Rep.below So_14.out ((Below.refl _ _).drew)) HR0.out HR1.out) ?_
      rintro e wB ⟨rfl, bB⟩
      have BL1 : Hid (Below w14.heap.size w14 wB) := below_drew_pre0 bB
      clear bB
      rw [← HE.out]
      go_simp
      refine hK.out _ _ ?_ (fun hHeld => ?_)
      · try dsimp only
        exact SK_14.out BL1.out
      clear hK K
      refine wpAnyH_ready (rs := [3]) (by kernel_rfl) (by simp) ?_
      refine AllReadyH.cons rfl (fun K hK => ?_) ?_
      · go_simp
        go_at_call 17
        refine Calls.mono (num8_u _ _) ?_
        rintro e w99 ⟨rfl, rfl⟩
        go_simp
        refine hK.out _ _ ?_ (fun hHeld => ?_)
        · try dsimp only
          exact SK_14.out BL1.out
        clear hK K
        refine wpAnyH_ready (rs := [6]) (by kernel_rfl) (by simp) ?_
        refine AllReadyH.cons rfl (fun K hK => ?_) ?_
        · go_simp
          go_at_call 21
          refine Calls.mono (rcheck_u _ _ s root _ _ (Rep.below Ss_14.out (BL1.out)) HR0.out HR1.out) ?_
          rintro e wC ⟨rfl, bC⟩
          have BL2 : Hid (Below w14.heap.size w14 wC) := on BL1.out bC
          clear bC
          rw [← HE.out]
          go_simp
          refine hK.out _ _ ?_ (fun hHeld => ?_)
          · try dsimp only
            exact SK_14.out BL2.out
          clear hK K
          refine wpAnyH_takeL (i := 7) (v := ?_) rfl rfl (by kernel_rfl) (by kernel_rfl) (by kernel_rfl) (fun _ _ _ h => h) (Or.inl ⟨by rfl, ?_⟩) (by assumption) ?_
          rotate_left
          · intro w hSw
            try dsimp only at hSw
            go_simp
            all_goals with_reducible rfl
          simp only [List.set_cons_zero, List.set_cons_succ]
          refine wpAnyH_takeL (i := 8) (v := ?_) rfl rfl (by kernel_rfl) (by kernel_rfl) (by kernel_rfl) (fun _ _ _ h => h) (Or.inl ⟨by rfl, ?_⟩) (by assumption) ?_
          rotate_left
          · intro w hSw
            try dsimp only at hSw
            go_simp
            all_goals with_reducible rfl
          simp only [List.set_cons_zero, List.set_cons_succ]
          refine wpAnyH_takeL (i := 9) (v := ?_) rfl rfl (by kernel_rfl) (by kernel_rfl) (by kernel_rfl) (fun _ _ _ h => h) (Or.inl ⟨by rfl, ?_⟩) (by assumption) ?_
          rotate_left
          · intro w hSw
            try dsimp only at hSw
            go_simp
            all_goals with_reducible rfl
          simp only [List.set_cons_zero, List.set_cons_succ]
          refine wpAnyH_takeL (i := 10) (v := ?_) rfl rfl (by kernel_rfl) (by kernel_rfl) (by kernel_rfl) (fun _ _ _ h => h) (Or.inl ⟨by rfl, ?_⟩) (by assumption) ?_
          rotate_left
          · intro w hSw
            try dsimp only at hSw
            go_simp
            all_goals with_reducible rfl
          simp only [List.set_cons_zero, List.set_cons_succ]
          refine wpAnyH_takeL (i := 11) (v := ?_) rfl rfl (by kernel_rfl) (by kernel_rfl) (by kernel_rfl) (fun _ _ _ h => h) (Or.inl ⟨by rfl, ?_⟩) (by assumption) ?_
          rotate_left
          · intro w hSw
            try dsimp only at hSw
            go_simp
            all_goals with_reducible rfl
          simp only [List.set_cons_zero, List.set_cons_succ]
          refine wpAnyH_takeL (i := 12) (v := ?_) rfl rfl (by kernel_rfl) (by kernel_rfl) (by kernel_rfl) (fun _ _ _ h => h) (Or.inl ⟨by rfl, ?_⟩) (by assumption) ?_
          rotate_left
          · intro w hSw
            try dsimp only at hSw
            go_simp
            all_goals with_reducible rfl
          simp only [List.set_cons_zero, List.set_cons_succ]
          refine wpAnyH_ready (rs := [13]) (by kernel_rfl) (by simp) ?_
          refine AllReadyH.cons rfl (fun K hK => ?_) ?_
          · go_simp
            go_at_call 22
            refine Calls.mono (sameList_r _ _ _ _ _ _ _ _ _ _ _ (Rep.below So_14.out (BL2.out)) (Rep.below Ss_14.out (BL2.out))) ?_
            rintro e wD ⟨rfl, bD⟩
            have BL3 : Hid (Below w14.heap.size w14 wD) := on BL2.out bD
            clear bD
            rw [eS]
            go_simp
            refine hK.out _ _ ?_ (fun hHeld => ?_)
            · try dsimp only
              exact SK_14.out BL3.out
            clear hK K
            refine wpAnyH_takeL (i := 14) (v := ?_) rfl rfl (by kernel_rfl) (by kernel_rfl) (by kernel_rfl) (fun _ _ _ h => h) (Or.inl ⟨by rfl, ?_⟩) (by assumption) ?_
            rotate_left
            · intro w hSw
              try dsimp only at hSw
              go_simp
              all_goals with_reducible rfl
            simp only [List.set_cons_zero, List.set_cons_succ]
            refine wpAnyH_takeL (i := 15) (v := ?_) rfl rfl (by kernel_rfl) (by kernel_rfl) (by kernel_rfl) (fun _ _ _ h => h) (Or.inl ⟨by rfl, ?_⟩) (by assumption) ?_
            rotate_left
            · intro w hSw
              try dsimp only at hSw
              go_simp
              all_goals with_reducible rfl
            simp only [List.set_cons_zero, List.set_cons_succ]
            refine wpAnyH_ready (rs := [16]) (by kernel_rfl) (by simp) ?_
            refine AllReadyH.cons rfl (fun K hK => ?_) ?_
            · go_simp
              go_at_call 23
              refine Calls.mono (alive8_u _) ?_
              rintro e wE ⟨rfl, bE⟩
              have BL4 : Hid (Below w14.heap.size w14 wE) := on BL3.out bE
              clear bE
              go_simp
              refine hK.out _ _ ?_ (fun hHeld => ?_)
              · try dsimp only
                exact SK_14.out BL4.out
              clear hK K
              refine wpAnyH_takeL (i := 17) (v := ?_) rfl rfl (by kernel_rfl) (by kernel_rfl) (by kernel_rfl) (fun _ _ _ h => h) (Or.inl ⟨by rfl, ?_⟩) (by assumption) ?_
              rotate_left
              · intro w hSw
                try dsimp only at hSw
                go_simp
                all_goals with_reducible rfl
              simp only [List.set_cons_zero, List.set_cons_succ]
              refine wpAnyH_takeL (i := 18) (v := ?_) rfl rfl (by kernel_rfl) (by kernel_rfl) (by kernel_rfl) (fun _ _ _ h => h) (Or.inl ⟨by rfl, ?_⟩) (by assumption) ?_
              rotate_left
              · intro w hSw
                try dsimp only at hSw
                go_simp
                all_goals with_reducible rfl
              simp only [List.set_cons_zero, List.set_cons_succ]
              refine wpAnyH_done (by kernel_rfl) ?_ _
              clear hHeld
              go_wp2
              go_ret
              exact ⟨rfl, on B_14.out BL4.out⟩
            exact AllReadyH.nil
          exact AllReadyH.nil
        exact AllReadyH.nil
      exact AllReadyH.nil
    exact AllReadyH.nil
set_option maxRecDepth 100000 in
theorem ttells_lifted (os : Os) (started : os.Started) (H : Type) (enc : TypeId × Value → H) :
    ReturnsInHanded {} Tryz.checked os 3 .any (Rows.treeTellsSpec.pre6 enc Tryz.prog Tryz.f3 Rows.treeTellsRow.domain false) (Rows.treeTellsSpec.post enc Tryz.prog Tryz.f3 false true false false) := by
  refine returnsInHanded_of_change_sized (C := Tryz.checked) own started (by kernel_rfl) Tryz.func3
    (ChangeSpec.witness6 (enc := enc) (C := Tryz.checked) false ⟨#[], #[.agg #[.slice none 0 0], .int .i64 0, .int .u64 0, .int .i64 0], []⟩ 8 (by kernel_rfl) (by kernel_rfl) (by kernel_rfl) (by kernel_rfl)) ?_
  intro W base args ds gs before hval0 hW _ hsz0 _
  have hsz : (DataW.weightsEach Tryz.prog (Tryz.f3.params.toList ++ Rows.treeTellsSpec.plain.varTypes Tryz.prog) (ds ++ gs)).all (· ≤ reachBytes) = true := hsz0
  clear hsz0
  have hval : ∀ (j : Nat) t v, Tryz.f3.params[j]? = some t → args[j]? = some v → Value.okWide Tryz.prog W .any base t v := hval0
  have hW' := hW
  obtain ⟨p, q, hA0, hV, rfl, hfz, hnd⟩ := hW
  have hA : DataW.TrodAll enc Tryz.prog W 0 (fun _ => true) true Tryz.f3.params.toList args.toList ds p := hA0
  rw [Tryz.params3] at hA hval hsz
  obtain ⟨v0, vs0, d0, ds0, p0, q0, hargs, rfl, rfl, h0, r0⟩ := trodAll_cons hA
  obtain ⟨v1, vs1, d1, ds1, p1, q1, rfl, rfl, rfl, h1, r1⟩ := trodAll_cons r0
  obtain ⟨v2, vs2, d2, ds2, p2, q2, rfl, rfl, rfl, h2, r2⟩ := trodAll_cons r1
  obtain ⟨v3, vs3, d3, ds3, p3, q3, rfl, rfl, rfl, h3, r3⟩ := trodAll_cons r2
  obtain ⟨rfl, rfl, rfl⟩ := trodAll_nil r3
  obtain rfl : args = #[v0, v1, v2, v3] := by cases args; simp_all
  obtain ⟨rfl, rfl⟩ := trodVars_none hV
  obtain ⟨c0, rfl, -⟩ := okWide_struct Tryz.underlying24 (hval 0 24 v0 rfl rfl)
  have k0 := h0
  have lt0 : ∀ x ∈ p0, x.block < W.heap.size := by obtain ⟨m, hm⟩ := k0; exact DataW.trod_lt m _ _ _ hm
  obtain ⟨x0, hx0⟩ := opens_pages.arg h0 hsz (j := 0) rfl rfl
  obtain ⟨a1, rfl, rfl, rfl, w1⟩ := open_int Tryz.underlying3 (hval 1 3 v1 rfl rfl) h1
  have i1 := bounds_i64 w1
  obtain ⟨a2, rfl, rfl, rfl, w2⟩ := open_int Tryz.underlying25 (hval 2 25 v2 rfl rfl) h2
  have i2 := bounds_u64 w2
  obtain ⟨a3, rfl, rfl, rfl, w3⟩ := open_int Tryz.underlying3 (hval 3 3 v3 rfl rfl) h3
  have i3 := bounds_i64 w3
  clear hA0 hval0
  refine (ttells_walk c0.toList x0 a1 a2 a3 W hx0 (by omega) (by omega) (by omega) (by omega) (by omega) (by omega)).mono fun e W' ⟨he, bel⟩ => ?_
  subst he
  exact ⟨_, rfl, _, _, _, [], _, [], hW', trodAll_mk1 (shut_bool Tryz.underlying4 _), (trodAll_cons_mk (Below.trod laidOut (by kernel_rfl) (of_decide_eq_true (by kernel_rfl)) k0 bel lt0) (trodAll_cons_mk (shut_int Tryz.underlying3 w1) (trodAll_cons_mk (shut_int Tryz.underlying25 w2) (trodAll_cons_mk (shut_int Tryz.underlying3 w3) trodAll_mk0)))), rfl, bel.frame _, fun h => by cases h⟩
theorem treeTells_holds : Rows.TreeTellsSaid :=
  OpenClaim.holds_of_wide 3 Tryz.f3 rfl rfl rfl rfl rfl rfl rfl ⟨rfl, rfl, rfl, rfl, rfl⟩ rfl rfl rfl rfl rfl (by kernel_rfl) Tryz.func3 (by kernel_rfl)
    (of_decide_eq_true (by kernel_rfl)) (by unfold Func.isWrapper; first | (rw [if_pos (by decide +kernel)]; kernel_rfl) | (rw [if_neg (by decide +kernel)]; exact ⟨rfl, rfl⟩))
    (fun os started H enc _ => ttells_lifted os started H enc)
end Go.Proofs.YtgbbkmdfangmmaaGreat
