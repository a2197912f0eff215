/-
  What was written is read, and all else stays. Conditions: none.
-/
import Derived.Test.YtflcojljpbojlaaM18
import Derived.Test.YtflcojljpbojlaaM19
import Derived.Test.YtflcojljpbojlaaM20
import Derived.Test.YtflcojljpbojlaaM21
import Derived.Test.YtflcojljpbojlaaM22
namespace Go.Proofs.Ytflcojljpbojlaa
open Go.ChangeShapes Go.WideShapes Go.ChangeAt Go.RowKit
set_option linter.unusedVariables false
set_option maxRecDepth 20000 in
set_option maxHeartbeats 8000000 in
theorem lreads_walk (cs0 : List Value) (s : Sta) (at' : Int) (xa : Option Addr) (xn xc : Nat) (dt : List UInt8) (W : World) (h0 : rSta.rd W (fun b => b < W.heap.size) cs0 s) (h1 : -9223372036854775808 ≤ at') (h2 : at' ≤ 9223372036854775807) (h3 : rBytes.rd W (fun b => b < W.heap.size) [.slice xa xn xc] dt) :
    Calls Try.prog 5 #[.agg cs0.toArray, .int .i64 at', .slice xa xn xc] W fun e W' => e = .returned (.bool true) ∧ Below W.heap.size W W' := by
  obtain ⟨a0, n0, c0, b0, m0, d0, rfl, hD, hU, hI⟩ := rSta_cells h0
  obtain ⟨t0, ht0⟩ : ∃ t, t = s.2.2 := ⟨_, rfl⟩
  rw [← ht0] at h0 ⊢
  have HTs : Hid _ := ht0
  have HNs : Hid (s.1.length = n0) := (rL_len hD).1
  have HMs : Hid (s.2.1.length = m0) := (rL_len hU).1
  rw [show ([.slice a0 n0 c0, .slice b0 m0 d0, .int .i64 t0] : List Value).toArray = #[.slice a0 n0 c0, .slice b0 m0 d0, .int .i64 t0] from rfl]
  obtain ⟨w1, hw1, V1, b1, z1⟩ := boxedRow W 25 [.slice a0 n0 c0, .slice b0 m0 d0, .int .i64 t0]
  have Rs_1 : Hid (Row w1 (W.heap.size) 25 [.slice a0 n0 c0, .slice b0 m0 d0, .int .i64 t0]) := V1
  have Ds_1 : Hid (rSta.rd w1 (fun b => b < W.heap.size) [.slice a0 n0 c0, .slice b0 m0 d0, .int .i64 t0] (s)) := Rep.below h0 b1
  have B_1 : Hid (Below W.heap.size W w1) := b1
  have Yd_1 : Hid (rBytes.rd w1 (fun b => b < W.heap.size) [.slice xa xn xc] (dt)) := Rep.below h3 b1
  have HA : Hid (I64 at') := ⟨h1, h2⟩
  have HXn : Hid (dt.length = xn) := (rL_len h3).1
  clear h1 h2 h3
  clear V1 b1 z1 hD hU hI h0 ht0
  go_enter Try.func5, Try.ntmps5
  go_wp2_with fail
  refine Calls.mono (alive10_u _) ?_
  rintro e w2 ⟨rfl, b2⟩
  have Rs_2 : Hid (Row w2 (W.heap.size) 25 [.slice a0 n0 c0, .slice b0 m0 d0, .int .i64 t0]) := Rs_1.out.below (b2)
  have Ds_2 : Hid (rSta.rd w2 (fun b => b < W.heap.size) [.slice a0 n0 c0, .slice b0 m0 d0, .int .i64 t0] (s)) := Rep.below Ds_1.out (b2)
  have Yd_2 : Hid (rBytes.rd w2 (fun b => b < W.heap.size) [.slice xa xn xc] (dt)) := Rep.below Yd_1.out (b2)
  have B_2 : Hid (Below W.heap.size W w2) := on B_1.out (b2)
  clear Rs_1 Ds_1 Yd_1
  clear b2
  have qs0 := Rs_2.out.cell (j := 0) rfl
  have qs1 := Rs_2.out.cell (j := 1) rfl
  have qs2 := Rs_2.out.cell (j := 2) rfl
  go_wp2_with (go_at_call 15; refine (num10_u _ _).mono ?_; rintro e w99 ⟨rfl, rfl⟩)
  go_at_call 9
  refine Calls.mono (ofV w2 _ a0 b0 n0 c0 m0 d0 t0 s Ds_2.out) ?_
  rintro e w3 ⟨av, cv, bv, dv, rfl, h3, b3⟩
  have Dv_3 : Hid (rSta.rd w3 (fun b => w2.heap.size ≤ b) [.slice av n0 cv, .slice bv m0 dv, .int .i64 t0] (s)) := staF_sta h3
  have Rs_3 : Hid (Row w3 (W.heap.size) 25 [.slice a0 n0 c0, .slice b0 m0 d0, .int .i64 t0]) := Rs_2.out.below (b3)
  have Ds_3 : Hid (rSta.rd w3 (fun b => b < W.heap.size) [.slice a0 n0 c0, .slice b0 m0 d0, .int .i64 t0] (s)) := Rep.below Ds_2.out (b3)
  have Yd_3 : Hid (rBytes.rd w3 (fun b => b < W.heap.size) [.slice xa xn xc] (dt)) := Rep.below Yd_2.out (b3)
  have B_3 : Hid (Below W.heap.size W w3) := on B_2.out (b3)
  clear qs0 qs1 qs2
  clear Rs_2 Ds_2 Yd_2
  clear h3 b3
  go_wp2_with (go_at_call 15; refine (num10_u _ _).mono ?_; rintro e w99 ⟨rfl, rfl⟩)
  go_at_call 11
  refine Calls.mono (do_v w3 _ av bv n0 cv m0 dv t0 s Dv_3.out 1 at' 0 0 Mo.noName dt xa xn xc (by unfold I64; decide) HA.out (by unfold I64; decide) (by unfold I64; decide) (by decide) Yd_3.out) ?_
  rintro e w4 ⟨aa, na, ca, ba, ma, da, ta, xr, yr, zr, fr, gr, hr, rfl, hd4, hy4, hn4, bb4⟩
  obtain ⟨Er, hEr⟩ : ∃ z, z = (Mo.doR s (Mo.wOp at' dt)).1 := ⟨_, rfl⟩
  obtain ⟨Ir, hIr⟩ : ∃ z, z = (Mo.doR s (Mo.wOp at' dt)).2.2.1 := ⟨_, rfl⟩
  obtain ⟨Zr, hZr⟩ : ∃ z, z = (Mo.doR s (Mo.wOp at' dt)).2.2.2.2 := ⟨_, rfl⟩
  rw [← hEr, ← hIr, ← hZr]
  have HEr : Hid _ := hEr
  have HIr : Hid _ := hIr
  have HZr : Hid _ := hZr
  clear hEr hIr hZr
  have Da_4 : Hid (rSta.rd w4 (fun b => w3.heap.size ≤ b) [.slice aa na ca, .slice ba ma da, .int .i64 ta] (Mo.doS s (Mo.wOp at' dt))) := hd4
  have Yr_4 : Hid (rBytes.rd w4 (fun b => w3.heap.size ≤ b) [.slice xr yr zr] ((Mo.doR s (Mo.wOp at' dt)).2.1)) := hy4
  have Nr_4 : Hid (rNmds.rd w4 (fun b => w3.heap.size ≤ b) [.slice fr gr hr] ((Mo.doR s (Mo.wOp at' dt)).2.2.2.1)) := hn4
  have Rs_4 : Hid (Row w4 (W.heap.size) 25 [.slice a0 n0 c0, .slice b0 m0 d0, .int .i64 t0]) := Rs_3.out.below (bb4)
  have Ds_4 : Hid (rSta.rd w4 (fun b => b < W.heap.size) [.slice a0 n0 c0, .slice b0 m0 d0, .int .i64 t0] (s)) := Rep.below Ds_3.out (bb4)
  have Yd_4 : Hid (rBytes.rd w4 (fun b => b < W.heap.size) [.slice xa xn xc] (dt)) := Rep.below Yd_3.out (bb4)
  have Dv_4 : Hid (rSta.rd w4 (fun b => w2.heap.size ≤ b) [.slice av n0 cv, .slice bv m0 dv, .int .i64 t0] (s)) := Rep.below Dv_3.out (bb4)
  have B_4 : Hid (Below W.heap.size W w4) := on B_3.out (bb4)
  clear Rs_3 Ds_3 Yd_3 Dv_3
  clear hd4 hy4 hn4 bb4
  obtain ⟨wA5, wB5, wX5, w5, hA5, hB5, va, hX5, vr, hY5, vs, vt, k5, hl5⟩ := fresh2 w4 (.slice aa na ca) (.slice ba ma da) (.int .i64 ta) (.int .i64 Er) (.slice xr yr zr) (.int .i64 Ir) (.slice fr gr hr) (.int .i64 Zr)
  have Ra_5 : Hid (Row w5 (w4.heap.size) 31 [.slice aa na ca, .slice ba ma da, .int .i64 ta]) := vs
  have Rr_5 : Hid (Row w5 (wA5.heap.size) 38 [.int .i64 Er, .slice xr yr zr, .int .i64 Ir, .slice fr gr hr, .int .i64 Zr]) := vt
  have Rs_5 : Hid (Row w5 (W.heap.size) 25 [.slice a0 n0 c0, .slice b0 m0 d0, .int .i64 t0]) := Rs_4.out.below (k5)
  have Ds_5 : Hid (rSta.rd w5 (fun b => b < W.heap.size) [.slice a0 n0 c0, .slice b0 m0 d0, .int .i64 t0] (s)) := Rep.below Ds_4.out (k5)
  have Yd_5 : Hid (rBytes.rd w5 (fun b => b < W.heap.size) [.slice xa xn xc] (dt)) := Rep.below Yd_4.out (k5)
  have Dv_5 : Hid (rSta.rd w5 (fun b => w2.heap.size ≤ b) [.slice av n0 cv, .slice bv m0 dv, .int .i64 t0] (s)) := Rep.below Dv_4.out (k5)
  have Da_5 : Hid (rSta.rd w5 (fun b => w3.heap.size ≤ b) [.slice aa na ca, .slice ba ma da, .int .i64 ta] (Mo.doS s (Mo.wOp at' dt))) := Rep.below Da_4.out (k5)
  have Yr_5 : Hid (rBytes.rd w5 (fun b => w3.heap.size ≤ b) [.slice xr yr zr] ((Mo.doR s (Mo.wOp at' dt)).2.1)) := Rep.below Yr_4.out (k5)
  have Nr_5 : Hid (rNmds.rd w5 (fun b => w3.heap.size ≤ b) [.slice fr gr hr] ((Mo.doR s (Mo.wOp at' dt)).2.2.2.1)) := Rep.below Nr_4.out (k5)
  have B_5 : Hid (Below W.heap.size W w5) := on B_4.out (k5)
  clear Rs_4 Ds_4 Yd_4 Dv_4 Da_4 Yr_4 Nr_4
  have p5_0 := va.cell (j := 0) rfl
  have r5_0 := va.frozen 0
  have p5_1 := va.cell (j := 1) rfl
  have r5_1 := va.frozen 1
  have p5_2 := va.cell (j := 2) rfl
  have r5_2 := va.frozen 2
  have s5_0 := vr.cell (j := 0) rfl
  have u5_0 := vr.frozen 0
  have s5_1 := vr.cell (j := 1) rfl
  have u5_1 := vr.frozen 1
  have s5_2 := vr.cell (j := 2) rfl
  have u5_2 := vr.frozen 2
  have s5_3 := vr.cell (j := 3) rfl
  have u5_3 := vr.frozen 3
  have s5_4 := vr.cell (j := 4) rfl
  have u5_4 := vr.frozen 4
  clear va vr vs vt k5 hl5
  have qr0 := Rr_5.out.cell (j := 0) rfl
  have qr1 := Rr_5.out.cell (j := 1) rfl
  have qr2 := Rr_5.out.cell (j := 2) rfl
  have qr3 := Rr_5.out.cell (j := 3) rfl
  have qr4 := Rr_5.out.cell (j := 4) rfl
  by_cases hE : Er = 0
  case neg =>
    have hEn : (Er != 0) = true := bne_iff_ne.2 hE
    have hS := Mo.err_some (s := s) (x := Mo.wOp at' dt) (by rw [← HEr.out]; exact hE)
    rcases hS with ⟨h1, -, -⟩ | ⟨h1, -, h2, -⟩
    · have HC : Hid (Mo.checkE s = 9) := Mo.checkE_nine h1
      clear h1 hE
      have qs0 := Rs_5.out.cell (j := 0) rfl
      have qs1 := Rs_5.out.cell (j := 1) rfl
      have qs2 := Rs_5.out.cell (j := 2) rfl
      go_wp2_with (go_at_call 15; refine (num10_u _ _).mono ?_; rintro e w99 ⟨rfl, rfl⟩)
      go_at_call 17
      refine Calls.mono (docCheck_v w5 _ a0 b0 n0 c0 m0 d0 t0 s Ds_5.out) ?_
      rintro e w6 ⟨rfl, b6⟩
      rw [HC.out]
      have Rs_6 : Hid (Row w6 (W.heap.size) 25 [.slice a0 n0 c0, .slice b0 m0 d0, .int .i64 t0]) := Rs_5.out.below (b6)
      have Ds_6 : Hid (rSta.rd w6 (fun b => b < W.heap.size) [.slice a0 n0 c0, .slice b0 m0 d0, .int .i64 t0] (s)) := Rep.below Ds_5.out (b6)
      have Yd_6 : Hid (rBytes.rd w6 (fun b => b < W.heap.size) [.slice xa xn xc] (dt)) := Rep.below Yd_5.out (b6)
      have Dv_6 : Hid (rSta.rd w6 (fun b => w2.heap.size ≤ b) [.slice av n0 cv, .slice bv m0 dv, .int .i64 t0] (s)) := Rep.below Dv_5.out (b6)
      have Da_6 : Hid (rSta.rd w6 (fun b => w3.heap.size ≤ b) [.slice aa na ca, .slice ba ma da, .int .i64 ta] (Mo.doS s (Mo.wOp at' dt))) := Rep.below Da_5.out (b6)
      have Yr_6 : Hid (rBytes.rd w6 (fun b => w3.heap.size ≤ b) [.slice xr yr zr] ((Mo.doR s (Mo.wOp at' dt)).2.1)) := Rep.below Yr_5.out (b6)
      have Nr_6 : Hid (rNmds.rd w6 (fun b => w3.heap.size ≤ b) [.slice fr gr hr] ((Mo.doR s (Mo.wOp at' dt)).2.2.2.1)) := Rep.below Nr_5.out (b6)
      have Ra_6 : Hid (Row w6 (w4.heap.size) 31 [.slice aa na ca, .slice ba ma da, .int .i64 ta]) := Ra_5.out.below (b6)
      have Rr_6 : Hid (Row w6 (wA5.heap.size) 38 [.int .i64 Er, .slice xr yr zr, .int .i64 Ir, .slice fr gr hr, .int .i64 Zr]) := Rr_5.out.below (b6)
      have B_6 : Hid (Below W.heap.size W w6) := on B_5.out (b6)
      clear p5_0 r5_0 p5_1 r5_1 p5_2 r5_2 s5_0 u5_0 s5_1 u5_1 s5_2 u5_2 s5_3 u5_3 s5_4 u5_4 hA5 hB5 hX5 hY5 qr0 qr1 qr2 qr3 qr4 qs0 qs1 qs2
      clear Rs_5 Ds_5 Yd_5 Dv_5 Da_5 Yr_5 Nr_5 Ra_5 Rr_5
      go_wp2_with (go_at_call 15; refine (num10_u _ _).mono ?_; rintro e w99 ⟨rfl, rfl⟩)
      go_ret
      exact ⟨rfl, B_6.out⟩
    · have HC : Hid (Mo.checkE s = 0) := Mo.checkE_zero.2 h1
      have HSt : Hid (Mo.doS s (Mo.wOp at' dt) = s) := h2
      clear h1 h2 hE
      have qs0 := Rs_5.out.cell (j := 0) rfl
      have qs1 := Rs_5.out.cell (j := 1) rfl
      have qs2 := Rs_5.out.cell (j := 2) rfl
      go_wp2_with (go_at_call 15; refine (num10_u _ _).mono ?_; rintro e w99 ⟨rfl, rfl⟩)
      go_at_call 17
      refine Calls.mono (docCheck_v w5 _ a0 b0 n0 c0 m0 d0 t0 s Ds_5.out) ?_
      rintro e w7 ⟨rfl, b7⟩
      rw [HC.out]
      have Rs_7 : Hid (Row w7 (W.heap.size) 25 [.slice a0 n0 c0, .slice b0 m0 d0, .int .i64 t0]) := Rs_5.out.below (b7)
      have Ds_7 : Hid (rSta.rd w7 (fun b => b < W.heap.size) [.slice a0 n0 c0, .slice b0 m0 d0, .int .i64 t0] (s)) := Rep.below Ds_5.out (b7)
      have Yd_7 : Hid (rBytes.rd w7 (fun b => b < W.heap.size) [.slice xa xn xc] (dt)) := Rep.below Yd_5.out (b7)
      have Dv_7 : Hid (rSta.rd w7 (fun b => w2.heap.size ≤ b) [.slice av n0 cv, .slice bv m0 dv, .int .i64 t0] (s)) := Rep.below Dv_5.out (b7)
      have Da_7 : Hid (rSta.rd w7 (fun b => w3.heap.size ≤ b) [.slice aa na ca, .slice ba ma da, .int .i64 ta] (Mo.doS s (Mo.wOp at' dt))) := Rep.below Da_5.out (b7)
      have Yr_7 : Hid (rBytes.rd w7 (fun b => w3.heap.size ≤ b) [.slice xr yr zr] ((Mo.doR s (Mo.wOp at' dt)).2.1)) := Rep.below Yr_5.out (b7)
      have Nr_7 : Hid (rNmds.rd w7 (fun b => w3.heap.size ≤ b) [.slice fr gr hr] ((Mo.doR s (Mo.wOp at' dt)).2.2.2.1)) := Rep.below Nr_5.out (b7)
      have Ra_7 : Hid (Row w7 (w4.heap.size) 31 [.slice aa na ca, .slice ba ma da, .int .i64 ta]) := Ra_5.out.below (b7)
      have Rr_7 : Hid (Row w7 (wA5.heap.size) 38 [.int .i64 Er, .slice xr yr zr, .int .i64 Ir, .slice fr gr hr, .int .i64 Zr]) := Rr_5.out.below (b7)
      have B_7 : Hid (Below W.heap.size W w7) := on B_5.out (b7)
      clear p5_0 r5_0 p5_1 r5_1 p5_2 r5_2 s5_0 u5_0 s5_1 u5_1 s5_2 u5_2 s5_3 u5_3 s5_4 u5_4 hA5 hB5 hX5 hY5 qr0 qr1 qr2 qr3 qr4 qs0 qs1 qs2
      clear Rs_5 Ds_5 Yd_5 Dv_5 Da_5 Yr_5 Nr_5 Ra_5 Rr_5
      have qs0 := Rs_7.out.cell (j := 0) rfl
      have qs1 := Rs_7.out.cell (j := 1) rfl
      have qs2 := Rs_7.out.cell (j := 2) rfl
      have qa0 := Ra_7.out.cell (j := 0) rfl
      have qa1 := Ra_7.out.cell (j := 1) rfl
      have qa2 := Ra_7.out.cell (j := 2) rfl
      go_wp2_with (go_at_call 15; refine (num10_u _ _).mono ?_; rintro e w99 ⟨rfl, rfl⟩)
      go_at_call 13
      refine Calls.mono (alike10_u w7 _ _ [.slice aa na ca, .slice ba ma da, .int .i64 ta] [.slice a0 n0 c0, .slice b0 m0 d0, .int .i64 t0] s (by have h := Da_7.out; rw [HSt.out] at h; exact h) Ds_7.out) ?_
      rintro e w8 ⟨rfl, b8⟩
      have Rs_8 : Hid (Row w8 (W.heap.size) 25 [.slice a0 n0 c0, .slice b0 m0 d0, .int .i64 t0]) := Rs_7.out.below (b8)
      have Ds_8 : Hid (rSta.rd w8 (fun b => b < W.heap.size) [.slice a0 n0 c0, .slice b0 m0 d0, .int .i64 t0] (s)) := Rep.below Ds_7.out (b8)
      have Yd_8 : Hid (rBytes.rd w8 (fun b => b < W.heap.size) [.slice xa xn xc] (dt)) := Rep.below Yd_7.out (b8)
      have Dv_8 : Hid (rSta.rd w8 (fun b => w2.heap.size ≤ b) [.slice av n0 cv, .slice bv m0 dv, .int .i64 t0] (s)) := Rep.below Dv_7.out (b8)
      have Da_8 : Hid (rSta.rd w8 (fun b => w3.heap.size ≤ b) [.slice aa na ca, .slice ba ma da, .int .i64 ta] (Mo.doS s (Mo.wOp at' dt))) := Rep.below Da_7.out (b8)
      have Yr_8 : Hid (rBytes.rd w8 (fun b => w3.heap.size ≤ b) [.slice xr yr zr] ((Mo.doR s (Mo.wOp at' dt)).2.1)) := Rep.below Yr_7.out (b8)
      have Nr_8 : Hid (rNmds.rd w8 (fun b => w3.heap.size ≤ b) [.slice fr gr hr] ((Mo.doR s (Mo.wOp at' dt)).2.2.2.1)) := Rep.below Nr_7.out (b8)
      have Ra_8 : Hid (Row w8 (w4.heap.size) 31 [.slice aa na ca, .slice ba ma da, .int .i64 ta]) := Ra_7.out.below (b8)
      have Rr_8 : Hid (Row w8 (wA5.heap.size) 38 [.int .i64 Er, .slice xr yr zr, .int .i64 Ir, .slice fr gr hr, .int .i64 Zr]) := Rr_7.out.below (b8)
      have B_8 : Hid (Below W.heap.size W w8) := on B_7.out (b8)
      clear qs0 qs1 qs2 qa0 qa1 qa2
      clear Rs_7 Ds_7 Yd_7 Dv_7 Da_7 Yr_7 Nr_7 Ra_7 Rr_7
      go_wp2_with (go_at_call 15; refine (num10_u _ _).mono ?_; rintro e w99 ⟨rfl, rfl⟩)
      go_ret
      exact ⟨rfl, B_8.out⟩
  case pos =>
    obtain ⟨k1, k2, k3, k4, k5, k6, k7, k8, k9, k10, k11⟩ := Mo.reads (s := s) (a := at') (b := dt) (by rw [← HEr.out]; exact hE)
    rw [HXn.out] at k3 k4 k5 k7 k8 k11
    obtain ⟨k, hk⟩ : ∃ k, k = xn / 64 := ⟨_, rfl⟩
    rw [← hk] at k3 k4 k5 k7 k8 k11
    have e64 : (xn : Int) / 64 = (k : Int) := by omega
    have HOk : Hid _ := k1
    have HAt : Hid (0 ≤ at' ∧ k ≤ 64 ∧ at' + (k : Int) ≤ n0 ∧ n0 ≤ 65536) := ⟨k2, k4, by rw [← HNs.out]; exact k5, by rw [← HNs.out]; exact k6⟩
    have HE2 : Hid _ := k7
    have HD2 : Hid _ := k8
    have HLn : Hid _ := k9
    have HSn : Hid _ := k10
    have HAll : Hid _ := k11
    have hkr : k ≤ 64 := HAt.out.2.1
    clear k1 k2 k3 k4 k5 k6 k7 k8 k9 k10 k11 hk
    obtain rfl := hE
    have qa0 := Ra_5.out.cell (j := 0) rfl
    have qa1 := Ra_5.out.cell (j := 1) rfl
    have qa2 := Ra_5.out.cell (j := 2) rfl
    clear HEr
    go_wp2_with (go_at_call 15; refine (num10_u _ _).mono ?_; rintro e w99 ⟨rfl, rfl⟩)
    go_at_call 11
    refine Calls.mono (do_v w5 _ aa ba na ca ma da ta (Mo.doS s (Mo.wOp at' dt)) Da_5.out 2 at' (k : Int) 0 Mo.noName [] none 0 0 (by unfold I64; decide) HA.out (by have h := HAt.out; unfold I64; omega) (by unfold I64; decide) (by decide) (P' := fun _ => True) (rBytes_none _ _ _ _ (fun _ => rfl))) ?_
    rintro e w9 ⟨ac, nc, cc, bc, mc, dc, tc, xq, yq, zq, fq, gq, hq, rfl, hd9, hy9, hn9, bb9⟩
    obtain ⟨Eq, hEq⟩ : ∃ z, z = (Mo.doR (Mo.doS s (Mo.wOp at' dt)) (Mo.rOp at' (k : Int))).1 := ⟨_, rfl⟩
    obtain ⟨Iq, hIq⟩ : ∃ z, z = (Mo.doR (Mo.doS s (Mo.wOp at' dt)) (Mo.rOp at' (k : Int))).2.2.1 := ⟨_, rfl⟩
    obtain ⟨Zq, hZq⟩ : ∃ z, z = (Mo.doR (Mo.doS s (Mo.wOp at' dt)) (Mo.rOp at' (k : Int))).2.2.2.2 := ⟨_, rfl⟩
    rw [← hEq, ← hIq, ← hZq]
    have HEq : Hid _ := hEq
    have HIq : Hid _ := hIq
    have HZq : Hid _ := hZq
    clear hEq hIq hZq
    have Dc_9 : Hid (rSta.rd w9 (fun b => w5.heap.size ≤ b) [.slice ac nc cc, .slice bc mc dc, .int .i64 tc] (Mo.doS (Mo.doS s (Mo.wOp at' dt)) (Mo.rOp at' (k : Int)))) := hd9
    have Yq_9 : Hid (rBytes.rd w9 (fun b => w5.heap.size ≤ b) [.slice xq yq zq] ((Mo.doR (Mo.doS s (Mo.wOp at' dt)) (Mo.rOp at' (k : Int))).2.1)) := hy9
    have Nq_9 : Hid (rNmds.rd w9 (fun b => w5.heap.size ≤ b) [.slice fq gq hq] ((Mo.doR (Mo.doS s (Mo.wOp at' dt)) (Mo.rOp at' (k : Int))).2.2.2.1)) := hn9
    have Rs_9 : Hid (Row w9 (W.heap.size) 25 [.slice a0 n0 c0, .slice b0 m0 d0, .int .i64 t0]) := Rs_5.out.below (bb9)
    have Ds_9 : Hid (rSta.rd w9 (fun b => b < W.heap.size) [.slice a0 n0 c0, .slice b0 m0 d0, .int .i64 t0] (s)) := Rep.below Ds_5.out (bb9)
    have Yd_9 : Hid (rBytes.rd w9 (fun b => b < W.heap.size) [.slice xa xn xc] (dt)) := Rep.below Yd_5.out (bb9)
    have Dv_9 : Hid (rSta.rd w9 (fun b => w2.heap.size ≤ b) [.slice av n0 cv, .slice bv m0 dv, .int .i64 t0] (s)) := Rep.below Dv_5.out (bb9)
    have Da_9 : Hid (rSta.rd w9 (fun b => w3.heap.size ≤ b) [.slice aa na ca, .slice ba ma da, .int .i64 ta] (Mo.doS s (Mo.wOp at' dt))) := Rep.below Da_5.out (bb9)
    have Yr_9 : Hid (rBytes.rd w9 (fun b => w3.heap.size ≤ b) [.slice xr yr zr] ((Mo.doR s (Mo.wOp at' dt)).2.1)) := Rep.below Yr_5.out (bb9)
    have Nr_9 : Hid (rNmds.rd w9 (fun b => w3.heap.size ≤ b) [.slice fr gr hr] ((Mo.doR s (Mo.wOp at' dt)).2.2.2.1)) := Rep.below Nr_5.out (bb9)
    have Ra_9 : Hid (Row w9 (w4.heap.size) 31 [.slice aa na ca, .slice ba ma da, .int .i64 ta]) := Ra_5.out.below (bb9)
    have Rr_9 : Hid (Row w9 (wA5.heap.size) 38 [.int .i64 0, .slice xr yr zr, .int .i64 Ir, .slice fr gr hr, .int .i64 Zr]) := Rr_5.out.below (bb9)
    have B_9 : Hid (Below W.heap.size W w9) := on B_5.out (bb9)
    clear p5_0 r5_0 p5_1 r5_1 p5_2 r5_2 s5_0 u5_0 s5_1 u5_1 s5_2 u5_2 s5_3 u5_3 s5_4 u5_4 hA5 hB5 hX5 hY5 qr0 qr1 qr2 qr3 qr4 qa0 qa1 qa2
    clear Rs_5 Ds_5 Yd_5 Dv_5 Da_5 Yr_5 Nr_5 Ra_5 Rr_5
    clear hd9 hy9 hn9 bb9
    obtain ⟨wA10, wB10, wX10, w10, hA10, hB10, va, hX10, vr, hY10, vs, vt, k10, hl10⟩ := fresh2 w9 (.slice ac nc cc) (.slice bc mc dc) (.int .i64 tc) (.int .i64 Eq) (.slice xq yq zq) (.int .i64 Iq) (.slice fq gq hq) (.int .i64 Zq)
    have Rc_10 : Hid (Row w10 (w9.heap.size) 31 [.slice ac nc cc, .slice bc mc dc, .int .i64 tc]) := vs
    have Rq_10 : Hid (Row w10 (wA10.heap.size) 38 [.int .i64 Eq, .slice xq yq zq, .int .i64 Iq, .slice fq gq hq, .int .i64 Zq]) := vt
    have Rs_10 : Hid (Row w10 (W.heap.size) 25 [.slice a0 n0 c0, .slice b0 m0 d0, .int .i64 t0]) := Rs_9.out.below (k10)
    have Ds_10 : Hid (rSta.rd w10 (fun b => b < W.heap.size) [.slice a0 n0 c0, .slice b0 m0 d0, .int .i64 t0] (s)) := Rep.below Ds_9.out (k10)
    have Yd_10 : Hid (rBytes.rd w10 (fun b => b < W.heap.size) [.slice xa xn xc] (dt)) := Rep.below Yd_9.out (k10)
    have Dv_10 : Hid (rSta.rd w10 (fun b => w2.heap.size ≤ b) [.slice av n0 cv, .slice bv m0 dv, .int .i64 t0] (s)) := Rep.below Dv_9.out (k10)
    have Da_10 : Hid (rSta.rd w10 (fun b => w3.heap.size ≤ b) [.slice aa na ca, .slice ba ma da, .int .i64 ta] (Mo.doS s (Mo.wOp at' dt))) := Rep.below Da_9.out (k10)
    have Yr_10 : Hid (rBytes.rd w10 (fun b => w3.heap.size ≤ b) [.slice xr yr zr] ((Mo.doR s (Mo.wOp at' dt)).2.1)) := Rep.below Yr_9.out (k10)
    have Nr_10 : Hid (rNmds.rd w10 (fun b => w3.heap.size ≤ b) [.slice fr gr hr] ((Mo.doR s (Mo.wOp at' dt)).2.2.2.1)) := Rep.below Nr_9.out (k10)
    have Ra_10 : Hid (Row w10 (w4.heap.size) 31 [.slice aa na ca, .slice ba ma da, .int .i64 ta]) := Ra_9.out.below (k10)
    have Rr_10 : Hid (Row w10 (wA5.heap.size) 38 [.int .i64 0, .slice xr yr zr, .int .i64 Ir, .slice fr gr hr, .int .i64 Zr]) := Rr_9.out.below (k10)
    have Dc_10 : Hid (rSta.rd w10 (fun b => w5.heap.size ≤ b) [.slice ac nc cc, .slice bc mc dc, .int .i64 tc] (Mo.doS (Mo.doS s (Mo.wOp at' dt)) (Mo.rOp at' (k : Int)))) := Rep.below Dc_9.out (k10)
    have Yq_10 : Hid (rBytes.rd w10 (fun b => w5.heap.size ≤ b) [.slice xq yq zq] ((Mo.doR (Mo.doS s (Mo.wOp at' dt)) (Mo.rOp at' (k : Int))).2.1)) := Rep.below Yq_9.out (k10)
    have Nq_10 : Hid (rNmds.rd w10 (fun b => w5.heap.size ≤ b) [.slice fq gq hq] ((Mo.doR (Mo.doS s (Mo.wOp at' dt)) (Mo.rOp at' (k : Int))).2.2.2.1)) := Rep.below Nq_9.out (k10)
    have B_10 : Hid (Below W.heap.size W w10) := on B_9.out (k10)
    clear Rs_9 Ds_9 Yd_9 Dv_9 Da_9 Yr_9 Nr_9 Ra_9 Rr_9 Dc_9 Yq_9 Nq_9
    have p10_0 := va.cell (j := 0) rfl
    have r10_0 := va.frozen 0
    have p10_1 := va.cell (j := 1) rfl
    have r10_1 := va.frozen 1
    have p10_2 := va.cell (j := 2) rfl
    have r10_2 := va.frozen 2
    have s10_0 := vr.cell (j := 0) rfl
    have u10_0 := vr.frozen 0
    have s10_1 := vr.cell (j := 1) rfl
    have u10_1 := vr.frozen 1
    have s10_2 := vr.cell (j := 2) rfl
    have u10_2 := vr.frozen 2
    have s10_3 := vr.cell (j := 3) rfl
    have u10_3 := vr.frozen 3
    have s10_4 := vr.cell (j := 4) rfl
    have u10_4 := vr.frozen 4
    clear va vr vs vt k10 hl10
    obtain rfl := HEq.out.trans HE2.out
    have qq0 := Rq_10.out.cell (j := 0) rfl
    have qq1 := Rq_10.out.cell (j := 1) rfl
    have qq2 := Rq_10.out.cell (j := 2) rfl
    have qq3 := Rq_10.out.cell (j := 3) rfl
    have qq4 := Rq_10.out.cell (j := 4) rfl
    have qa0 := Ra_10.out.cell (j := 0) rfl
    have qa1 := Ra_10.out.cell (j := 1) rfl
    have qa2 := Ra_10.out.cell (j := 2) rfl
    have qs0 := Rs_10.out.cell (j := 0) rfl
    have qs1 := Rs_10.out.cell (j := 1) rfl
    have qs2 := Rs_10.out.cell (j := 2) rfl
    have hna : ((na : Int) != (n0 : Int)) = false := by have h1 := (sta_parts Da_10.out).2.2.1; have h2 := HLn.out; have h3 := HNs.out; rw [bne_eq_false_iff_eq]; omega
    have hma : ((ma : Int) != (m0 : Int)) = false := by have h1 := (sta_parts Da_10.out).2.2.2.1; have h2 := HSn.out; have h3 := HMs.out; rw [h2] at h1; rw [bne_eq_false_iff_eq]; omega
    have HYB : Hid (IsB w10 xq yq dt) := by have h := Yq_10.out; rw [HD2.out] at h; exact (rBytes_isB h).1
    have HDB : Hid (IsB w10 xa xn dt) := (rBytes_isB Yd_10.out).1
    go_wp2_with (first
      | (go_at_call 15; refine (num10_u _ _).mono ?_; rintro e w99 ⟨rfl, rfl⟩)
      | (go_at_call 18; refine (sameBytes_any w10 _ _ _ _ _ _ _ _ HYB.out HDB.out).mono ?_; rintro e w98 ⟨rfl, rfl⟩; rw [beq_self_eq_true]))
    clear hna hma HYB HDB
    clear p10_0 r10_0 p10_1 r10_1 p10_2 r10_2 s10_0 u10_0 s10_1 u10_1 s10_2 u10_2 s10_3 u10_3 s10_4 u10_4 hA10 hB10 hX10 hY10 qq0 qq1 qq2 qq3 qq4 qa0 qa1 qa2 qs0 qs1 qs2
    have HNa : Hid (na = n0) := by have h1 := (sta_parts Da_10.out).2.2.1; have h2 := HLn.out; have h3 := HNs.out; rw [h2] at h1; exact h1.symm.trans h3
    have HMa : Hid (ma = m0) := by have h1 := (sta_parts Da_10.out).2.2.2.1; have h2 := HSn.out; have h3 := HMs.out; rw [h2] at h1; exact h1.symm.trans h3
    go_loopw [12] (fun i wr => ∃ j : Nat, j ≤ n0 ∧ i = .int .i64 j ∧ Below w10.heap.size w10 wr) (fun i _ => n0 - (intOf i).toNat)
    case atStart => exact ⟨0, Nat.zero_le _, rfl, Below.refl _ _⟩
    case round =>
      obtain ⟨j, hj, rfl, belo⟩ := hrel
      obtain ⟨w11, hw11⟩ : ∃ v, v = wr := ⟨_, rfl⟩
      subst hw11
      have Rs_11 : Hid (Row w11 (W.heap.size) 25 [.slice a0 n0 c0, .slice b0 m0 d0, .int .i64 t0]) := Rs_10.out.below (belo)
      have Ds_11 : Hid (rSta.rd w11 (fun b => b < W.heap.size) [.slice a0 n0 c0, .slice b0 m0 d0, .int .i64 t0] (s)) := Rep.below Ds_10.out (belo)
      have Yd_11 : Hid (rBytes.rd w11 (fun b => b < W.heap.size) [.slice xa xn xc] (dt)) := Rep.below Yd_10.out (belo)
      have Dv_11 : Hid (rSta.rd w11 (fun b => w2.heap.size ≤ b) [.slice av n0 cv, .slice bv m0 dv, .int .i64 t0] (s)) := Rep.below Dv_10.out (belo)
      have Da_11 : Hid (rSta.rd w11 (fun b => w3.heap.size ≤ b) [.slice aa na ca, .slice ba ma da, .int .i64 ta] (Mo.doS s (Mo.wOp at' dt))) := Rep.below Da_10.out (belo)
      have Yr_11 : Hid (rBytes.rd w11 (fun b => w3.heap.size ≤ b) [.slice xr yr zr] ((Mo.doR s (Mo.wOp at' dt)).2.1)) := Rep.below Yr_10.out (belo)
      have Nr_11 : Hid (rNmds.rd w11 (fun b => w3.heap.size ≤ b) [.slice fr gr hr] ((Mo.doR s (Mo.wOp at' dt)).2.2.2.1)) := Rep.below Nr_10.out (belo)
      have Ra_11 : Hid (Row w11 (w4.heap.size) 31 [.slice aa na ca, .slice ba ma da, .int .i64 ta]) := Ra_10.out.below (belo)
      have Rr_11 : Hid (Row w11 (wA5.heap.size) 38 [.int .i64 0, .slice xr yr zr, .int .i64 Ir, .slice fr gr hr, .int .i64 Zr]) := Rr_10.out.below (belo)
      have Dc_11 : Hid (rSta.rd w11 (fun b => w5.heap.size ≤ b) [.slice ac nc cc, .slice bc mc dc, .int .i64 tc] (Mo.doS (Mo.doS s (Mo.wOp at' dt)) (Mo.rOp at' (k : Int)))) := Rep.below Dc_10.out (belo)
      have Yq_11 : Hid (rBytes.rd w11 (fun b => w5.heap.size ≤ b) [.slice xq yq zq] ((Mo.doR (Mo.doS s (Mo.wOp at' dt)) (Mo.rOp at' (k : Int))).2.1)) := Rep.below Yq_10.out (belo)
      have Nq_11 : Hid (rNmds.rd w11 (fun b => w5.heap.size ≤ b) [.slice fq gq hq] ((Mo.doR (Mo.doS s (Mo.wOp at' dt)) (Mo.rOp at' (k : Int))).2.2.2.1)) := Rep.below Nq_10.out (belo)
      have Rc_11 : Hid (Row w11 (w9.heap.size) 31 [.slice ac nc cc, .slice bc mc dc, .int .i64 tc]) := Rc_10.out.below (belo)
      have Rq_11 : Hid (Row w11 (wA10.heap.size) 38 [.int .i64 0, .slice xq yq zq, .int .i64 Iq, .slice fq gq hq, .int .i64 Zq]) := Rq_10.out.below (belo)
      have B_11 : Hid (Below W.heap.size W w11) := on B_10.out (belo)
      clear Rs_10 Ds_10 Yd_10 Dv_10 Da_10 Yr_10 Nr_10 Ra_10 Rr_10 Dc_10 Yq_10 Nq_10 Rc_10 Rq_10
      have BL1 : Hid (Below w10.heap.size w10 w11) := belo
      clear belo
      have qs0 := Rs_11.out.cell (j := 0) rfl
      have qs1 := Rs_11.out.cell (j := 1) rfl
      have qs2 := Rs_11.out.cell (j := 2) rfl
      by_cases hjn : j < n0
      · skip
        have qa0 := Ra_11.out.cell (j := 0) rfl
        have qa1 := Ra_11.out.cell (j := 1) rfl
        have qa2 := Ra_11.out.cell (j := 2) rfl
        have hjz : (j : Int) < (n0 : Int) := by omega
        obtain ⟨HPa, -, hla, -, -⟩ := sta_parts Da_11.out
        obtain ⟨HPs, -, hls, -, -⟩ := sta_parts Ds_11.out
        have hja : j < (Mo.doS s (Mo.wOp at' dt)).1.length := by rw [hla, HNa.out]; exact hjn
        have hjs : j < s.1.length := by rw [hls]; exact hjn
        have hjna : (j : Int) < (na : Int) := by rw [HNa.out]; exact hjz
        have hat0 : 0 ≤ at' := HAt.out.1
        have hatk : at' + (k : Int) ≤ n0 := HAt.out.2.2.1
        have hn6 : n0 ≤ 65536 := HAt.out.2.2.2
        have hkr : k ≤ 64 := HAt.out.2.1
        obtain ⟨g, off, rfl, -, -, hat⟩ := rLists_at HPa (by rw [HNa.out]; omega)
        obtain ⟨g', off', rfl, -, -, hbt⟩ := rLists_at HPs (by omega)
        obtain ⟨x, xm, xd, hx, -, c0'⟩ := hat j hja
        obtain ⟨y, ym, yd, hy, -, d0'⟩ := hbt j hjs
        have HX : Hid (IsB w11 x xm _) := (rBytes_isB hx).1
        have HY : Hid (IsB w11 y ym _) := (rBytes_isB hy).1
        have HEqv : Hid (((j : Int) < at' ∨ at' + (k : Int) ≤ j) → (Mo.doS s (Mo.wOp at' dt)).1[j] = s.1[j]) := HAll.out j hjs hja
        obtain ⟨X, hX⟩ : ∃ X, X = (Mo.doS s (Mo.wOp at' dt)).1[j] := ⟨_, rfl⟩
        obtain ⟨Y, hY⟩ : ∃ Y, Y = s.1[j] := ⟨_, rfl⟩
        rw [← hX] at HX HEqv
        rw [← hY] at HY HEqv
        clear hat hbt hx hy hX hY hla hls HPa HPs hja hjs
        have hcase : ((j : Int) < at' ∨ (¬ (j : Int) < at' ∧ at' + (k : Int) ≤ j)) ∨ (¬ (j : Int) < at' ∧ ¬ at' + (k : Int) ≤ j) := by omega
        rcases hcase with hin | ⟨h1, h2⟩
        · obtain rfl : X = Y := HEqv.out (by rcases hin with h | ⟨-, h⟩ <;> omega)
          clear HEqv
          have HSAME : Hid (∀ nn, Calls Try.prog 18 #[.slice x xm xd, .slice y ym yd] (w11.drewN nn) fun e w' => e = .returned (.bool true) ∧ w' = w11.drewN nn) := by
            intro nn
            have h1 : IsB (w11.drewN nn) x xm X := HX.out
            have h2 : IsB (w11.drewN nn) y ym X := HY.out
            refine (sameBytes_any _ x y xm xd ym yd X X h1 h2).mono ?_
            rintro e w' ⟨rfl, rfl⟩
            exact ⟨by rw [beq_self_eq_true], rfl⟩
          rcases hin with h1 | ⟨h1, h2⟩
          · have e1 : decide ((j : Int) < at') = true := decide_eq_true h1
            go_wp2
            go_quiet ((go_at_call 18; exact Calls.quiet_of_same (HSAME.out _)))
            go_wp2
            go_roundw
            case rel => exact ⟨j + 1, by omega, by go_num, below_drewN BL1.out _⟩
            case measure => simp [intOf]; omega
          · have e1 : decide ((j : Int) < at') = false := decide_eq_false h1
            have e2 : decide (at' + (k : Int) ≤ (j : Int)) = true := decide_eq_true h2
            go_wp2
            go_quiet ((go_at_call 18; exact Calls.quiet_of_same (HSAME.out _)))
            go_wp2
            go_roundw
            case rel => exact ⟨j + 1, by omega, by go_num, below_drewN BL1.out _⟩
            case measure => simp [intOf]; omega
        · have e1 : decide ((j : Int) < at') = false := decide_eq_false h1
          have e2 : decide (at' + (k : Int) ≤ (j : Int)) = false := decide_eq_false h2
          go_wp2
          go_quiet ((go_at_call 18; exact Calls.quiet_of_same (HSAME.out _)))
          go_wp2
          go_roundw
          case rel => exact ⟨j + 1, by omega, by go_num, below_drewN BL1.out _⟩
          case measure => simp [intOf]; omega
      · obtain rfl : n0 = j := by omega
        go_wp2
        clear qs0 qs1 qs2
        go_loopw [13] (fun i wr => ∃ j : Nat, j ≤ m0 ∧ i = .int .i64 j ∧ Below w11.heap.size w11 wr) (fun i _ => m0 - (intOf i).toNat)
        case atStart => exact ⟨0, Nat.zero_le _, rfl, Below.refl _ _⟩
        case round =>
          obtain ⟨j, hj, rfl, belo⟩ := hrel
          obtain ⟨w12, hw12⟩ : ∃ v, v = wr := ⟨_, rfl⟩
          subst hw12
          have Rs_12 : Hid (Row w12 (W.heap.size) 25 [.slice a0 n0 c0, .slice b0 m0 d0, .int .i64 t0]) := Rs_11.out.below (belo)
          have Ds_12 : Hid (rSta.rd w12 (fun b => b < W.heap.size) [.slice a0 n0 c0, .slice b0 m0 d0, .int .i64 t0] (s)) := Rep.below Ds_11.out (belo)
          have Yd_12 : Hid (rBytes.rd w12 (fun b => b < W.heap.size) [.slice xa xn xc] (dt)) := Rep.below Yd_11.out (belo)
          have Dv_12 : Hid (rSta.rd w12 (fun b => w2.heap.size ≤ b) [.slice av n0 cv, .slice bv m0 dv, .int .i64 t0] (s)) := Rep.below Dv_11.out (belo)
          have Da_12 : Hid (rSta.rd w12 (fun b => w3.heap.size ≤ b) [.slice aa na ca, .slice ba ma da, .int .i64 ta] (Mo.doS s (Mo.wOp at' dt))) := Rep.below Da_11.out (belo)
          have Yr_12 : Hid (rBytes.rd w12 (fun b => w3.heap.size ≤ b) [.slice xr yr zr] ((Mo.doR s (Mo.wOp at' dt)).2.1)) := Rep.below Yr_11.out (belo)
          have Nr_12 : Hid (rNmds.rd w12 (fun b => w3.heap.size ≤ b) [.slice fr gr hr] ((Mo.doR s (Mo.wOp at' dt)).2.2.2.1)) := Rep.below Nr_11.out (belo)
          have Ra_12 : Hid (Row w12 (w4.heap.size) 31 [.slice aa na ca, .slice ba ma da, .int .i64 ta]) := Ra_11.out.below (belo)
          have Rr_12 : Hid (Row w12 (wA5.heap.size) 38 [.int .i64 0, .slice xr yr zr, .int .i64 Ir, .slice fr gr hr, .int .i64 Zr]) := Rr_11.out.below (belo)
          have Dc_12 : Hid (rSta.rd w12 (fun b => w5.heap.size ≤ b) [.slice ac nc cc, .slice bc mc dc, .int .i64 tc] (Mo.doS (Mo.doS s (Mo.wOp at' dt)) (Mo.rOp at' (k : Int)))) := Rep.below Dc_11.out (belo)
          have Yq_12 : Hid (rBytes.rd w12 (fun b => w5.heap.size ≤ b) [.slice xq yq zq] ((Mo.doR (Mo.doS s (Mo.wOp at' dt)) (Mo.rOp at' (k : Int))).2.1)) := Rep.below Yq_11.out (belo)
          have Nq_12 : Hid (rNmds.rd w12 (fun b => w5.heap.size ≤ b) [.slice fq gq hq] ((Mo.doR (Mo.doS s (Mo.wOp at' dt)) (Mo.rOp at' (k : Int))).2.2.2.1)) := Rep.below Nq_11.out (belo)
          have Rc_12 : Hid (Row w12 (w9.heap.size) 31 [.slice ac nc cc, .slice bc mc dc, .int .i64 tc]) := Rc_11.out.below (belo)
          have Rq_12 : Hid (Row w12 (wA10.heap.size) 38 [.int .i64 0, .slice xq yq zq, .int .i64 Iq, .slice fq gq hq, .int .i64 Zq]) := Rq_11.out.below (belo)
          have B_12 : Hid (Below W.heap.size W w12) := on B_11.out (belo)
          clear Rs_11 Ds_11 Yd_11 Dv_11 Da_11 Yr_11 Nr_11 Ra_11 Rr_11 Dc_11 Yq_11 Nq_11 Rc_11 Rq_11
          have BL2 : Hid (Below w11.heap.size w11 w12) := belo
          clear belo
          have qs0 := Rs_12.out.cell (j := 0) rfl
          have qs1 := Rs_12.out.cell (j := 1) rfl
          have qs2 := Rs_12.out.cell (j := 2) rfl
          by_cases hjn : j < m0
          · skip
            have qa0 := Ra_12.out.cell (j := 0) rfl
            have qa1 := Ra_12.out.cell (j := 1) rfl
            have qa2 := Ra_12.out.cell (j := 2) rfl
            have hjz : (j : Int) < (m0 : Int) := by omega
            obtain ⟨-, HPa, -, hla, -⟩ := sta_parts Da_12.out
            obtain ⟨-, HPs, -, hls, -⟩ := sta_parts Ds_12.out
            have hmx : m0 * 48 ≤ 140737488351232 := (rL_len HPs).2.2.2
            rw [HSn.out] at HPa hla
            have hjs : j < s.2.1.length := by rw [hls]; exact hjn
            have hjna : (j : Int) < (ma : Int) := by rw [HMa.out]; exact hjz
            obtain ⟨g, off, rfl, -, -, hat⟩ := rSnps_at HPa (by rw [HMa.out]; omega)
            obtain ⟨g', off', rfl, -, -, hbt⟩ := rSnps_at HPs (by omega)
            obtain ⟨x, xm, xd, hx, -, c0', c1', c2', -, -⟩ := hat j hjs
            obtain ⟨y, ym, yd, hy, -, d0', d1', d2', -, -⟩ := hbt j hjs
            have HX : Hid _ := hx
            have HY : Hid _ := hy
            clear hat hbt hx hy hla hls HPa HPs
            generalize s.2.1[j].1 = id at *
            generalize s.2.1[j].2.1 = nm at *
            generalize s.2.1[j].2.2 = Y at *
            have HSAME : Hid (∀ nn, Calls Try.prog 24 #[.slice x xm xd, .slice y ym yd] (w12.drewN nn) fun e w' => e = .returned (.bool true) ∧ ∃ q, w' = (w12.drewN nn).drewN q) := by
              intro nn
              refine (sameList_q (w12.drewN nn) _ _ x y xm xd ym yd Y Y (rSectors.keep HX.out (fun _ _ _ => rfl)) (rSectors.keep HY.out (fun _ _ _ => rfl))).mono ?_
              rintro e w' ⟨rfl, q, rfl⟩
              exact ⟨by rw [beq_self_eq_true], q, rfl⟩
            go_wp2_with fail
            go_quiet ((go_at_call 24; exact Calls.quiet_of (HSAME.out _)))
            go_wp2
            go_roundw
            case rel => exact ⟨j + 1, by omega, by go_num, below_drewN BL2.out _⟩
            case measure => simp [intOf]; omega
          · obtain rfl : m0 = j := by omega
            have qa0 := Ra_12.out.cell (j := 0) rfl
            have qa1 := Ra_12.out.cell (j := 1) rfl
            have qa2 := Ra_12.out.cell (j := 2) rfl
            go_wp2_with (go_at_call 15; refine (num10_u _ _).mono ?_; rintro e w99 ⟨rfl, rfl⟩)
            go_at_call 16
            refine Calls.mono (check_v w12 _ aa ba na ca ma da ta _ Da_12.out) ?_
            rintro e w13 ⟨rfl, b13⟩
            rw [Mo.checkE_zero.2 HOk.out]
            have Rs_13 : Hid (Row w13 (W.heap.size) 25 [.slice a0 n0 c0, .slice b0 m0 d0, .int .i64 t0]) := Rs_12.out.below (b13)
            have Ds_13 : Hid (rSta.rd w13 (fun b => b < W.heap.size) [.slice a0 n0 c0, .slice b0 m0 d0, .int .i64 t0] (s)) := Rep.below Ds_12.out (b13)
            have Yd_13 : Hid (rBytes.rd w13 (fun b => b < W.heap.size) [.slice xa xn xc] (dt)) := Rep.below Yd_12.out (b13)
            have Dv_13 : Hid (rSta.rd w13 (fun b => w2.heap.size ≤ b) [.slice av n0 cv, .slice bv m0 dv, .int .i64 t0] (s)) := Rep.below Dv_12.out (b13)
            have Da_13 : Hid (rSta.rd w13 (fun b => w3.heap.size ≤ b) [.slice aa na ca, .slice ba ma da, .int .i64 ta] (Mo.doS s (Mo.wOp at' dt))) := Rep.below Da_12.out (b13)
            have Yr_13 : Hid (rBytes.rd w13 (fun b => w3.heap.size ≤ b) [.slice xr yr zr] ((Mo.doR s (Mo.wOp at' dt)).2.1)) := Rep.below Yr_12.out (b13)
            have Nr_13 : Hid (rNmds.rd w13 (fun b => w3.heap.size ≤ b) [.slice fr gr hr] ((Mo.doR s (Mo.wOp at' dt)).2.2.2.1)) := Rep.below Nr_12.out (b13)
            have Ra_13 : Hid (Row w13 (w4.heap.size) 31 [.slice aa na ca, .slice ba ma da, .int .i64 ta]) := Ra_12.out.below (b13)
            have Rr_13 : Hid (Row w13 (wA5.heap.size) 38 [.int .i64 0, .slice xr yr zr, .int .i64 Ir, .slice fr gr hr, .int .i64 Zr]) := Rr_12.out.below (b13)
            have Dc_13 : Hid (rSta.rd w13 (fun b => w5.heap.size ≤ b) [.slice ac nc cc, .slice bc mc dc, .int .i64 tc] (Mo.doS (Mo.doS s (Mo.wOp at' dt)) (Mo.rOp at' (k : Int)))) := Rep.below Dc_12.out (b13)
            have Yq_13 : Hid (rBytes.rd w13 (fun b => w5.heap.size ≤ b) [.slice xq yq zq] ((Mo.doR (Mo.doS s (Mo.wOp at' dt)) (Mo.rOp at' (k : Int))).2.1)) := Rep.below Yq_12.out (b13)
            have Nq_13 : Hid (rNmds.rd w13 (fun b => w5.heap.size ≤ b) [.slice fq gq hq] ((Mo.doR (Mo.doS s (Mo.wOp at' dt)) (Mo.rOp at' (k : Int))).2.2.2.1)) := Rep.below Nq_12.out (b13)
            have Rc_13 : Hid (Row w13 (w9.heap.size) 31 [.slice ac nc cc, .slice bc mc dc, .int .i64 tc]) := Rc_12.out.below (b13)
            have Rq_13 : Hid (Row w13 (wA10.heap.size) 38 [.int .i64 0, .slice xq yq zq, .int .i64 Iq, .slice fq gq hq, .int .i64 Zq]) := Rq_12.out.below (b13)
            have B_13 : Hid (Below W.heap.size W w13) := on B_12.out (b13)
            clear qs0 qs1 qs2 qa0 qa1 qa2
            clear Rs_12 Ds_12 Yd_12 Dv_12 Da_12 Yr_12 Nr_12 Ra_12 Rr_12 Dc_12 Yq_12 Nq_12 Rc_12 Rq_12
            go_wp2_with (go_at_call 15; refine (num10_u _ _).mono ?_; rintro e w99 ⟨rfl, rfl⟩)
            go_ret
            exact ⟨rfl, B_13.out⟩
set_option maxRecDepth 100000 in
theorem lreads_lifted (os : Os) (started : os.Started) (H : Type) (enc : TypeId × Value → H) :
    ReturnsInHanded {} Try.checked os 5 .any (Rows.modelReadsSpec.pre6 enc Try.prog Try.f5 Rows.modelReadsRow.domain false) (Rows.modelReadsSpec.post enc Try.prog Try.f5 false true false false) := by
  refine returnsInHanded_of_change_sized (C := Try.checked) own started (by kernel_rfl) Try.func5
    (ChangeSpec.witness6 (enc := enc) (C := Try.checked) false ⟨#[], #[.agg #[.slice none 0 0, .slice none 0 0, .int .i64 0], .int .i64 0, .slice none 0 0], []⟩ 8 (by kernel_rfl) (by kernel_rfl) (by kernel_rfl) (by kernel_rfl)) ?_
  intro W base args ds gs before hval0 hW _ hsz0 _
  have hsz : (DataW.weightsEach Try.prog (Try.f5.params.toList ++ Rows.modelReadsSpec.plain.varTypes Try.prog) (ds ++ gs)).all (· ≤ reachBytes) = true := hsz0
  clear hsz0
  have hval : ∀ (j : Nat) t v, Try.f5.params[j]? = some t → args[j]? = some v → Value.okWide Try.prog W .any base t v := hval0
  have hW' := hW
  obtain ⟨p, q, hA0, hV, rfl, hfz, hnd⟩ := hW
  have hA : DataW.TrodAll enc Try.prog W 0 (fun _ => true) true Try.f5.params.toList args.toList ds p := hA0
  rw [Try.params5] at hA hval hsz
  obtain ⟨v0, vs0, d0, ds0, p0, q0, hargs, rfl, rfl, h0, r0⟩ := trodAll_cons hA
  obtain ⟨v1, vs1, d1, ds1, p1, q1, rfl, rfl, rfl, h1, r1⟩ := trodAll_cons r0
  obtain ⟨v2, vs2, d2, ds2, p2, q2, rfl, rfl, rfl, h2, r2⟩ := trodAll_cons r1
  obtain ⟨rfl, rfl, rfl⟩ := trodAll_nil r2
  obtain rfl : args = #[v0, v1, v2] := by cases args; simp_all
  obtain ⟨rfl, rfl⟩ := trodVars_none hV
  obtain ⟨c0, rfl, -⟩ := okWide_struct Try.underlying25 (hval 0 25 v0 rfl rfl)
  have k0 := h0
  have lt0 : ∀ x ∈ p0, x.block < W.heap.size := by obtain ⟨m, hm⟩ := k0; exact DataW.trod_lt m _ _ _ hm
  obtain ⟨x0, hx0⟩ := opens_state10.arg h0 hsz (j := 0) rfl rfl
  obtain ⟨a1, rfl, rfl, rfl, w1⟩ := open_int Try.underlying3 (hval 1 3 v1 rfl rfl) h1
  have i1 := bounds_i64 w1
  obtain ⟨a2, len2, cap2, rfl⟩ := okWide_slice Try.underlying26 (hval 2 26 v2 rfl rfl)
  have k2 := h2
  have lt2 : ∀ x ∈ p2, x.block < W.heap.size := by obtain ⟨m, hm⟩ := k2; exact DataW.trod_lt m _ _ _ hm
  obtain ⟨x2, hx2⟩ := opens_octets.arg h2 hsz (j := 2) rfl rfl
  clear hA0 hval0
  refine (lreads_walk c0.toList x0 a1 a2 len2 cap2 x2 W hx0 (by omega) (by omega) hx2).mono fun e W' ⟨he, bel⟩ => ?_
  subst he
  exact ⟨_, rfl, _, _, _, [], _, [], hW', trodAll_mk1 (shut_bool Try.underlying4 _), (trodAll_cons_mk (Below.trod laidOut (by kernel_rfl) (of_decide_eq_true (by kernel_rfl)) k0 bel lt0) (trodAll_cons_mk (shut_int Try.underlying3 w1) (trodAll_cons_mk (Below.trod laidOut (by kernel_rfl) (of_decide_eq_true (by kernel_rfl)) k2 bel lt2) trodAll_mk0))), rfl, bel.frame _, fun h => by cases h⟩
theorem modelReads_holds : Rows.ModelReadsSaid :=
  OpenClaim.holds_of_wide 5 Try.f5 rfl rfl rfl rfl rfl rfl rfl ⟨rfl, rfl, rfl, rfl, rfl⟩ rfl rfl rfl rfl rfl (by kernel_rfl) Try.func5 (by kernel_rfl)
    (of_decide_eq_true (by kernel_rfl)) (by unfold Func.isWrapper; first | (rw [if_pos (by decide +kernel)]; kernel_rfl) | (rw [if_neg (by decide +kernel)]; exact ⟨rfl, rfl⟩))
    (fun os started H enc _ => lreads_lifted os started H enc)
end Go.Proofs.Ytflcojljpbojlaa
