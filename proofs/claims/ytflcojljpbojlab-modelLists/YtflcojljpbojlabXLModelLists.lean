/-
  The snapshots that are listed are those that are there. Conditions: none.
-/
import Derived.Test.YtflcojljpbojlabM00
import Derived.Test.YtflcojljpbojlabM02
import Derived.Test.YtflcojljpbojlabM03
import Derived.Test.YtflcojljpbojlabM05
import Derived.Test.YtflcojljpbojlabM10
import Derived.Test.YtflcojljpbojlabM13
import Derived.Test.YtflcojljpbojlabM18
import Derived.Test.YtflcojljpbojlabM19
import Derived.Test.YtflcojljpbojlabM20
namespace Go.Proofs.Ytflcojljpbojlab
open Go.ChangeShapes Go.WideShapes Go.ChangeAt Go.RowKit
open Go.ChangeMaps (open_string shut_string)
set_option linter.unusedVariables false
set_option maxRecDepth 20000 in
set_option maxHeartbeats 8000000 in
theorem llists_walk (cs0 : List Value) (s : Sta) (nm : ByteArray) (W : World) (h0 : rSta.rd W (fun b => b < W.heap.size) cs0 s) (h1 : nm.size ≤ maxLen) :
    Calls Try.prog 3 #[.agg cs0.toArray, .string nm] W fun e W' => e = .returned (.bool true) ∧ Below W.heap.size W W' := by
  obtain ⟨a0, n0, c0, b0, m0, d0, rfl, hD, hU, hI⟩ := rSta_cells h0
  obtain ⟨t0, ht0⟩ : ∃ t, t = s.2.2 := ⟨_, rfl⟩
  rw [← ht0] at h0 ⊢
  rw [← ht0] at hI
  have HTs : Hid _ := ht0
  have HT64 : Hid (I64 t0) := hI
  have HNs : Hid (s.1.length = n0) := (rL_len hD).1
  have HMs : Hid (s.2.1.length = m0) := (rL_len hU).1
  rw [show ([.slice a0 n0 c0, .slice b0 m0 d0, .int .i64 t0] : List Value).toArray = #[.slice a0 n0 c0, .slice b0 m0 d0, .int .i64 t0] from rfl]
  obtain ⟨w1, hw1, V1, b1, z1⟩ := boxedRow W 25 [.slice a0 n0 c0, .slice b0 m0 d0, .int .i64 t0]
  have Rs_1 : Hid (Row w1 (W.heap.size) 25 [.slice a0 n0 c0, .slice b0 m0 d0, .int .i64 t0]) := V1
  have Ds_1 : Hid (rSta.rd w1 (fun b => b < W.heap.size) [.slice a0 n0 c0, .slice b0 m0 d0, .int .i64 t0] (s)) := Rep.below h0 b1
  have B_1 : Hid (Below W.heap.size W w1) := b1
  have HNm : Hid (nm.size ≤ maxLen) := h1
  clear h1
  clear V1 b1 z1 hD hU hI h0 ht0
  go_enter Try.func3, Try.ntmps3
  go_wp2_with fail
  refine Calls.mono (alive10_u _) ?_
  rintro e w2 ⟨rfl, b2⟩
  have Rs_2 : Hid (Row w2 (W.heap.size) 25 [.slice a0 n0 c0, .slice b0 m0 d0, .int .i64 t0]) := Rs_1.out.below (b2)
  have Ds_2 : Hid (rSta.rd w2 (fun b => b < W.heap.size) [.slice a0 n0 c0, .slice b0 m0 d0, .int .i64 t0] (s)) := Rep.below Ds_1.out (b2)
  have B_2 : Hid (Below W.heap.size W w2) := on B_1.out (b2)
  clear Rs_1 Ds_1
  clear b2
  have qs0 := Rs_2.out.cell (j := 0) rfl
  have qs1 := Rs_2.out.cell (j := 1) rfl
  have qs2 := Rs_2.out.cell (j := 2) rfl
  go_wp2_with (go_at_call 7; refine (num10_u _ _).mono ?_; rintro e w99 ⟨rfl, rfl⟩)
  go_at_call 6
  refine Calls.mono (ofV w2 _ a0 b0 n0 c0 m0 d0 t0 s Ds_2.out) ?_
  rintro e w3 ⟨av, cv, bv, dv, rfl, h3, b3⟩
  have Dv_3 : Hid (rSta.rd w3 (fun b => w2.heap.size ≤ b) [.slice av n0 cv, .slice bv m0 dv, .int .i64 t0] (s)) := staF_sta h3
  have Rs_3 : Hid (Row w3 (W.heap.size) 25 [.slice a0 n0 c0, .slice b0 m0 d0, .int .i64 t0]) := Rs_2.out.below (b3)
  have Ds_3 : Hid (rSta.rd w3 (fun b => b < W.heap.size) [.slice a0 n0 c0, .slice b0 m0 d0, .int .i64 t0] (s)) := Rep.below Ds_2.out (b3)
  have B_3 : Hid (Below W.heap.size W w3) := on B_2.out (b3)
  clear qs0 qs1 qs2
  clear Rs_2 Ds_2
  clear h3 b3
  go_wp2_with (go_at_call 7; refine (num10_u _ _).mono ?_; rintro e w99 ⟨rfl, rfl⟩)
  go_at_call 5
  refine Calls.mono (do_v w3 _ av bv n0 cv m0 dv t0 s Dv_3.out 7 0 0 0 Mo.noName [] none 0 0 (by unfold I64; decide) (by unfold I64; decide) (by unfold I64; decide) (by unfold I64; decide) (by decide) (P' := fun _ => True) (rBytes_none _ _ _ _ (fun _ => rfl))) ?_
  rintro e w4 ⟨ac, nc, cc, bc, mc, dc, tc, xr, yr, zr, fr, gr, hr, rfl, hd4, hy4, hn4, bb4⟩
  obtain ⟨Er, hEr⟩ : ∃ z, z = (Mo.doR s Mo.lOp).1 := ⟨_, rfl⟩
  obtain ⟨Ir, hIr⟩ : ∃ z, z = (Mo.doR s Mo.lOp).2.2.1 := ⟨_, rfl⟩
  obtain ⟨Zr, hZr⟩ : ∃ z, z = (Mo.doR s Mo.lOp).2.2.2.2 := ⟨_, rfl⟩
  rw [← hEr, ← hIr, ← hZr]
  have HEr : Hid _ := hEr
  have HIr : Hid _ := hIr
  have HZr : Hid _ := hZr
  clear hEr hIr hZr
  have Dc_4 : Hid (rSta.rd w4 (fun b => w3.heap.size ≤ b ∧ b < w4.heap.size) [.slice ac nc cc, .slice bc mc dc, .int .i64 tc] (Mo.doS s Mo.lOp)) := rSta.weaken hd4 (fun q hq hl => ⟨hq, hl⟩)
  have Yr_4 : Hid (rBytes.rd w4 (fun b => w3.heap.size ≤ b) [.slice xr yr zr] ((Mo.doR s Mo.lOp).2.1)) := hy4
  have Nr_4 : Hid (rNmds.rd w4 (fun b => w3.heap.size ≤ b) [.slice fr gr hr] ((Mo.doR s Mo.lOp).2.2.2.1)) := hn4
  have Rs_4 : Hid (Row w4 (W.heap.size) 25 [.slice a0 n0 c0, .slice b0 m0 d0, .int .i64 t0]) := Rs_3.out.below (bb4)
  have Ds_4 : Hid (rSta.rd w4 (fun b => b < W.heap.size) [.slice a0 n0 c0, .slice b0 m0 d0, .int .i64 t0] (s)) := Rep.below Ds_3.out (bb4)
  have Dv_4 : Hid (rSta.rd w4 (fun b => w2.heap.size ≤ b) [.slice av n0 cv, .slice bv m0 dv, .int .i64 t0] (s)) := Rep.below Dv_3.out (bb4)
  have B_4 : Hid (Below W.heap.size W w4) := on B_3.out (bb4)
  clear Rs_3 Ds_3 Dv_3
  have HLT4 : Hid (W.heap.size < w4.heap.size) := Rs_4.out.lt
  clear hd4 hy4 hn4 bb4
  obtain ⟨wA5, wB5, wX5, w5, hA5, hB5, va, hX5, vr, hY5, vs, vt, k5, hl5⟩ := fresh2 w4 (.slice ac nc cc) (.slice bc mc dc) (.int .i64 tc) (.int .i64 Er) (.slice xr yr zr) (.int .i64 Ir) (.slice fr gr hr) (.int .i64 Zr)
  have Rc_5 : Hid (Row w5 (w4.heap.size) 29 [.slice ac nc cc, .slice bc mc dc, .int .i64 tc]) := vs
  have Rr_5 : Hid (Row w5 (wA5.heap.size) 34 [.int .i64 Er, .slice xr yr zr, .int .i64 Ir, .slice fr gr hr, .int .i64 Zr]) := vt
  have Rs_5 : Hid (Row w5 (W.heap.size) 25 [.slice a0 n0 c0, .slice b0 m0 d0, .int .i64 t0]) := Rs_4.out.below (k5)
  have Ds_5 : Hid (rSta.rd w5 (fun b => b < W.heap.size) [.slice a0 n0 c0, .slice b0 m0 d0, .int .i64 t0] (s)) := Rep.below Ds_4.out (k5)
  have Dv_5 : Hid (rSta.rd w5 (fun b => w2.heap.size ≤ b) [.slice av n0 cv, .slice bv m0 dv, .int .i64 t0] (s)) := Rep.below Dv_4.out (k5)
  have Dc_5 : Hid (rSta.rd w5 (fun b => w3.heap.size ≤ b ∧ b < w4.heap.size) [.slice ac nc cc, .slice bc mc dc, .int .i64 tc] (Mo.doS s Mo.lOp)) := Rep.below Dc_4.out (k5)
  have Yr_5 : Hid (rBytes.rd w5 (fun b => w3.heap.size ≤ b) [.slice xr yr zr] ((Mo.doR s Mo.lOp).2.1)) := Rep.below Yr_4.out (k5)
  have Nr_5 : Hid (rNmds.rd w5 (fun b => w3.heap.size ≤ b) [.slice fr gr hr] ((Mo.doR s Mo.lOp).2.2.2.1)) := Rep.below Nr_4.out (k5)
  have B_5 : Hid (Below W.heap.size W w5) := on B_4.out (k5)
  clear Rs_4 Ds_4 Dv_4 Dc_4 Yr_4 Nr_4
  have p5_0 := va.cell (j := 0) rfl
  have r5_0 := va.frozen 0
  have p5_1 := va.cell (j := 1) rfl
  have r5_1 := va.frozen 1
  have p5_2 := va.cell (j := 2) rfl
  have r5_2 := va.frozen 2
  have s5_0 := vr.cell (j := 0) rfl
  have u5_0 := vr.frozen 0
  have s5_1 := vr.cell (j := 1) rfl
  have u5_1 := vr.frozen 1
  have s5_2 := vr.cell (j := 2) rfl
  have u5_2 := vr.frozen 2
  have s5_3 := vr.cell (j := 3) rfl
  have u5_3 := vr.frozen 3
  have s5_4 := vr.cell (j := 4) rfl
  have u5_4 := vr.frozen 4
  have HL5 : Hid _ := hl5
  clear va vr vs vt k5 hl5
  have qs0 := Rs_5.out.cell (j := 0) rfl
  have qs1 := Rs_5.out.cell (j := 1) rfl
  have qs2 := Rs_5.out.cell (j := 2) rfl
  go_wp2_with (go_at_call 7; refine (num10_u _ _).mono ?_; rintro e w99 ⟨rfl, rfl⟩)
  go_at_call 6
  refine Calls.mono (ofV w5 _ a0 b0 n0 c0 m0 d0 t0 s Ds_5.out) ?_
  rintro e w6 ⟨au, cu, bu, du, rfl, h6, b6⟩
  have Du_6 : Hid (rSta.rd w6 (fun b => w5.heap.size ≤ b) [.slice au n0 cu, .slice bu m0 du, .int .i64 t0] (s)) := staF_sta h6
  have Rs_6 : Hid (Row w6 (W.heap.size) 25 [.slice a0 n0 c0, .slice b0 m0 d0, .int .i64 t0]) := Rs_5.out.below (b6)
  have Ds_6 : Hid (rSta.rd w6 (fun b => b < W.heap.size) [.slice a0 n0 c0, .slice b0 m0 d0, .int .i64 t0] (s)) := Rep.below Ds_5.out (b6)
  have Dv_6 : Hid (rSta.rd w6 (fun b => w2.heap.size ≤ b) [.slice av n0 cv, .slice bv m0 dv, .int .i64 t0] (s)) := Rep.below Dv_5.out (b6)
  have Dc_6 : Hid (rSta.rd w6 (fun b => w3.heap.size ≤ b ∧ b < w4.heap.size) [.slice ac nc cc, .slice bc mc dc, .int .i64 tc] (Mo.doS s Mo.lOp)) := Rep.below Dc_5.out (b6)
  have Yr_6 : Hid (rBytes.rd w6 (fun b => w3.heap.size ≤ b) [.slice xr yr zr] ((Mo.doR s Mo.lOp).2.1)) := Rep.below Yr_5.out (b6)
  have Nr_6 : Hid (rNmds.rd w6 (fun b => w3.heap.size ≤ b) [.slice fr gr hr] ((Mo.doR s Mo.lOp).2.2.2.1)) := Rep.below Nr_5.out (b6)
  have Rc_6 : Hid (Row w6 (w4.heap.size) 29 [.slice ac nc cc, .slice bc mc dc, .int .i64 tc]) := Rc_5.out.below (b6)
  have Rr_6 : Hid (Row w6 (wA5.heap.size) 34 [.int .i64 Er, .slice xr yr zr, .int .i64 Ir, .slice fr gr hr, .int .i64 Zr]) := Rr_5.out.below (b6)
  have B_6 : Hid (Below W.heap.size W w6) := on B_5.out (b6)
  clear p5_0 r5_0 p5_1 r5_1 p5_2 r5_2 s5_0 u5_0 s5_1 u5_1 s5_2 u5_2 s5_3 u5_3 s5_4 u5_4 hA5 hB5 hX5 hY5 qs0 qs1 qs2
  clear Rs_5 Ds_5 Dv_5 Dc_5 Yr_5 Nr_5 Rc_5 Rr_5
  clear h6 b6
  go_wp2_with (go_at_call 7; refine (num10_u _ _).mono ?_; rintro e w99 ⟨rfl, rfl⟩)
  go_at_call 5
  refine Calls.mono (do_v w6 _ au bu n0 cu m0 du t0 s Du_6.out 4 0 0 0 nm [] none 0 0 (by unfold I64; decide) (by unfold I64; decide) (by unfold I64; decide) (by unfold I64; decide) HNm.out (P' := fun _ => True) (rBytes_none _ _ _ _ (fun _ => rfl))) ?_
  rintro e w7 ⟨aa, na, ca, ba, ma, da, ta, xy, yy, zy, fy, gy, hy, rfl, hd7, hy7, hn7, bb7⟩
  obtain ⟨Ey, hEy⟩ : ∃ z, z = (Mo.doR s (Mo.tOp nm)).1 := ⟨_, rfl⟩
  obtain ⟨Iy, hIy⟩ : ∃ z, z = (Mo.doR s (Mo.tOp nm)).2.2.1 := ⟨_, rfl⟩
  obtain ⟨Zy, hZy⟩ : ∃ z, z = (Mo.doR s (Mo.tOp nm)).2.2.2.2 := ⟨_, rfl⟩
  rw [← hEy, ← hIy, ← hZy]
  have HEy : Hid _ := hEy
  have HIy : Hid _ := hIy
  have HZy : Hid _ := hZy
  clear hEy hIy hZy
  have Da_7 : Hid (rSta.rd w7 (fun b => w6.heap.size ≤ b ∧ b < w7.heap.size) [.slice aa na ca, .slice ba ma da, .int .i64 ta] (Mo.doS s (Mo.tOp nm))) := rSta.weaken hd7 (fun q hq hl => ⟨hq, hl⟩)
  have Yy_7 : Hid (rBytes.rd w7 (fun b => w6.heap.size ≤ b) [.slice xy yy zy] ((Mo.doR s (Mo.tOp nm)).2.1)) := hy7
  have Ny_7 : Hid (rNmds.rd w7 (fun b => w6.heap.size ≤ b) [.slice fy gy hy] ((Mo.doR s (Mo.tOp nm)).2.2.2.1)) := hn7
  have Rs_7 : Hid (Row w7 (W.heap.size) 25 [.slice a0 n0 c0, .slice b0 m0 d0, .int .i64 t0]) := Rs_6.out.below (bb7)
  have Ds_7 : Hid (rSta.rd w7 (fun b => b < W.heap.size) [.slice a0 n0 c0, .slice b0 m0 d0, .int .i64 t0] (s)) := Rep.below Ds_6.out (bb7)
  have Dv_7 : Hid (rSta.rd w7 (fun b => w2.heap.size ≤ b) [.slice av n0 cv, .slice bv m0 dv, .int .i64 t0] (s)) := Rep.below Dv_6.out (bb7)
  have Dc_7 : Hid (rSta.rd w7 (fun b => w3.heap.size ≤ b ∧ b < w4.heap.size) [.slice ac nc cc, .slice bc mc dc, .int .i64 tc] (Mo.doS s Mo.lOp)) := Rep.below Dc_6.out (bb7)
  have Yr_7 : Hid (rBytes.rd w7 (fun b => w3.heap.size ≤ b) [.slice xr yr zr] ((Mo.doR s Mo.lOp).2.1)) := Rep.below Yr_6.out (bb7)
  have Nr_7 : Hid (rNmds.rd w7 (fun b => w3.heap.size ≤ b) [.slice fr gr hr] ((Mo.doR s Mo.lOp).2.2.2.1)) := Rep.below Nr_6.out (bb7)
  have Rc_7 : Hid (Row w7 (w4.heap.size) 29 [.slice ac nc cc, .slice bc mc dc, .int .i64 tc]) := Rc_6.out.below (bb7)
  have Rr_7 : Hid (Row w7 (wA5.heap.size) 34 [.int .i64 Er, .slice xr yr zr, .int .i64 Ir, .slice fr gr hr, .int .i64 Zr]) := Rr_6.out.below (bb7)
  have Du_7 : Hid (rSta.rd w7 (fun b => w5.heap.size ≤ b) [.slice au n0 cu, .slice bu m0 du, .int .i64 t0] (s)) := Rep.below Du_6.out (bb7)
  have B_7 : Hid (Below W.heap.size W w7) := on B_6.out (bb7)
  clear Rs_6 Ds_6 Dv_6 Dc_6 Yr_6 Nr_6 Rc_6 Rr_6 Du_6
  have HLT7 : Hid (W.heap.size < w7.heap.size) := Rs_7.out.lt
  clear hd7 hy7 hn7 bb7
  obtain ⟨wA8, wB8, wX8, w8, hA8, hB8, va, hX8, vr, hY8, vs, vt, k8, hl8⟩ := fresh2 w7 (.slice aa na ca) (.slice ba ma da) (.int .i64 ta) (.int .i64 Ey) (.slice xy yy zy) (.int .i64 Iy) (.slice fy gy hy) (.int .i64 Zy)
  have Ra_8 : Hid (Row w8 (w7.heap.size) 29 [.slice aa na ca, .slice ba ma da, .int .i64 ta]) := vs
  have Ry_8 : Hid (Row w8 (wA8.heap.size) 34 [.int .i64 Ey, .slice xy yy zy, .int .i64 Iy, .slice fy gy hy, .int .i64 Zy]) := vt
  have Rs_8 : Hid (Row w8 (W.heap.size) 25 [.slice a0 n0 c0, .slice b0 m0 d0, .int .i64 t0]) := Rs_7.out.below (k8)
  have Ds_8 : Hid (rSta.rd w8 (fun b => b < W.heap.size) [.slice a0 n0 c0, .slice b0 m0 d0, .int .i64 t0] (s)) := Rep.below Ds_7.out (k8)
  have Dv_8 : Hid (rSta.rd w8 (fun b => w2.heap.size ≤ b) [.slice av n0 cv, .slice bv m0 dv, .int .i64 t0] (s)) := Rep.below Dv_7.out (k8)
  have Dc_8 : Hid (rSta.rd w8 (fun b => w3.heap.size ≤ b ∧ b < w4.heap.size) [.slice ac nc cc, .slice bc mc dc, .int .i64 tc] (Mo.doS s Mo.lOp)) := Rep.below Dc_7.out (k8)
  have Yr_8 : Hid (rBytes.rd w8 (fun b => w3.heap.size ≤ b) [.slice xr yr zr] ((Mo.doR s Mo.lOp).2.1)) := Rep.below Yr_7.out (k8)
  have Nr_8 : Hid (rNmds.rd w8 (fun b => w3.heap.size ≤ b) [.slice fr gr hr] ((Mo.doR s Mo.lOp).2.2.2.1)) := Rep.below Nr_7.out (k8)
  have Rc_8 : Hid (Row w8 (w4.heap.size) 29 [.slice ac nc cc, .slice bc mc dc, .int .i64 tc]) := Rc_7.out.below (k8)
  have Rr_8 : Hid (Row w8 (wA5.heap.size) 34 [.int .i64 Er, .slice xr yr zr, .int .i64 Ir, .slice fr gr hr, .int .i64 Zr]) := Rr_7.out.below (k8)
  have Du_8 : Hid (rSta.rd w8 (fun b => w5.heap.size ≤ b) [.slice au n0 cu, .slice bu m0 du, .int .i64 t0] (s)) := Rep.below Du_7.out (k8)
  have Da_8 : Hid (rSta.rd w8 (fun b => w6.heap.size ≤ b ∧ b < w7.heap.size) [.slice aa na ca, .slice ba ma da, .int .i64 ta] (Mo.doS s (Mo.tOp nm))) := Rep.below Da_7.out (k8)
  have Yy_8 : Hid (rBytes.rd w8 (fun b => w6.heap.size ≤ b) [.slice xy yy zy] ((Mo.doR s (Mo.tOp nm)).2.1)) := Rep.below Yy_7.out (k8)
  have Ny_8 : Hid (rNmds.rd w8 (fun b => w6.heap.size ≤ b) [.slice fy gy hy] ((Mo.doR s (Mo.tOp nm)).2.2.2.1)) := Rep.below Ny_7.out (k8)
  have B_8 : Hid (Below W.heap.size W w8) := on B_7.out (k8)
  clear Rs_7 Ds_7 Dv_7 Dc_7 Yr_7 Nr_7 Rc_7 Rr_7 Du_7 Da_7 Yy_7 Ny_7
  have p8_0 := va.cell (j := 0) rfl
  have r8_0 := va.frozen 0
  have p8_1 := va.cell (j := 1) rfl
  have r8_1 := va.frozen 1
  have p8_2 := va.cell (j := 2) rfl
  have r8_2 := va.frozen 2
  have s8_0 := vr.cell (j := 0) rfl
  have u8_0 := vr.frozen 0
  have s8_1 := vr.cell (j := 1) rfl
  have u8_1 := vr.frozen 1
  have s8_2 := vr.cell (j := 2) rfl
  have u8_2 := vr.frozen 2
  have s8_3 := vr.cell (j := 3) rfl
  have u8_3 := vr.frozen 3
  have s8_4 := vr.cell (j := 4) rfl
  have u8_4 := vr.frozen 4
  have HL8 : Hid _ := hl8
  clear va vr vs vt k8 hl8
  have qy0 := Ry_8.out.cell (j := 0) rfl
  have qy1 := Ry_8.out.cell (j := 1) rfl
  have qy2 := Ry_8.out.cell (j := 2) rfl
  have qy3 := Ry_8.out.cell (j := 3) rfl
  have qy4 := Ry_8.out.cell (j := 4) rfl
  have qa0 := Ra_8.out.cell (j := 0) rfl
  have qa1 := Ra_8.out.cell (j := 1) rfl
  have qa2 := Ra_8.out.cell (j := 2) rfl
  have qr0 := Rr_8.out.cell (j := 0) rfl
  have qr1 := Rr_8.out.cell (j := 1) rfl
  have qr2 := Rr_8.out.cell (j := 2) rfl
  have qr3 := Rr_8.out.cell (j := 3) rfl
  have qr4 := Rr_8.out.cell (j := 4) rfl
  by_cases hE : Ey = 0
  case neg =>
    have hEn : (Ey != 0) = true := bne_iff_ne.2 hE
    have hmg : ((ma : Int) == (gr : Int)) = true := by
      have h1 := (sta_parts Da_8.out).2.2.2.1
      have h2 := (rL_len Nr_8.out).1
      rcases Mo.err_some (s := s) (x := Mo.tOp nm) (by rw [← HEy.out]; exact hE) with ⟨k1, k2, -⟩ | ⟨k1, -, k2, -⟩
      · rw [k2] at h1
        have h3 : (Mo.doR s Mo.lOp).2.2.2.1 = [] := by unfold Mo.doR; rw [k1]; rfl
        rw [h3] at h2
        rw [beq_iff_eq, ← h1, ← h2]
        rfl
      · rw [k2] at h1
        rw [(Mo.lists k1).1] at h2
        have h4 : (Mo.named s.2.1).length = s.2.1.length := by unfold Mo.named; rw [List.length_map]
        rw [beq_iff_eq, ← h1, ← h2]
        show ((s.2.1.length : Nat) : Int) = ((Mo.named s.2.1).length : Int)
        rw [h4]
    go_wp2_with (go_at_call 7; refine (num10_u _ _).mono ?_; rintro e w99 ⟨rfl, rfl⟩)
    go_ret
    first
      | exact ⟨rfl, B_8.out⟩
      | exact ⟨by rw [hmg], B_8.out⟩
  case pos =>
    obtain ⟨k1, k2, k3, k4⟩ := Mo.lists_one (s := s) (nm := nm) (by rw [← HEy.out]; exact hE)
    have HOk : Hid _ := k1
    have HT2 : Hid _ := k2
    have HM8 : Hid (m0 ≤ 8) := by have h := HMs.out; rw [h] at k4; exact k4
    have HIy2 : Hid (Iy = s.2.2) := HIy.out.trans k3
    have HRl : Hid ((Mo.doR s Mo.lOp).2.2.2.1 = Mo.named s.2.1) := by unfold Hid; rw [(Mo.lists k1).1]
    have HPl : Hid ((Mo.doR (Mo.doS s (Mo.tOp nm)) Mo.lOp).2.2.2.1 = Mo.named s.2.1 ++ [(Iy, nm)]) := by
      unfold Hid
      rw [(Mo.lists (Mo.doS_fine k1 (Mo.tOp nm))).1, HIy2.out]
      show Mo.named (Mo.doS s (Mo.tOp nm)).2.1 = _
      rw [k2]
      unfold Mo.named
      rw [List.map_append]
      rfl
    have HIb : Hid (I64 Iy) := by rw [HIy2.out, ← HTs.out]; exact HT64.out
    clear k1 k2 k3 k4
    obtain rfl := hE
    clear HEy HIy
    have qa0 := Ra_8.out.cell (j := 0) rfl
    have qa1 := Ra_8.out.cell (j := 1) rfl
    have qa2 := Ra_8.out.cell (j := 2) rfl
    go_wp2_with (go_at_call 7; refine (num10_u _ _).mono ?_; rintro e w99 ⟨rfl, rfl⟩)
    go_at_call 5
    refine Calls.mono (do_v w8 _ aa ba na ca ma da ta (Mo.doS s (Mo.tOp nm)) Da_8.out 7 0 0 0 Mo.noName [] none 0 0 (by unfold I64; decide) (by unfold I64; decide) (by unfold I64; decide) (by unfold I64; decide) (by decide) (P' := fun _ => True) (rBytes_none _ _ _ _ (fun _ => rfl))) ?_
    rintro e w9 ⟨ae, ne, ce, be, me, de, te, xp, yp, zp, fp, gp, hp, rfl, hd9, hy9, hn9, bb9⟩
    obtain ⟨Ep, hEp⟩ : ∃ z, z = (Mo.doR (Mo.doS s (Mo.tOp nm)) Mo.lOp).1 := ⟨_, rfl⟩
    obtain ⟨Ip, hIp⟩ : ∃ z, z = (Mo.doR (Mo.doS s (Mo.tOp nm)) Mo.lOp).2.2.1 := ⟨_, rfl⟩
    obtain ⟨Zp, hZp⟩ : ∃ z, z = (Mo.doR (Mo.doS s (Mo.tOp nm)) Mo.lOp).2.2.2.2 := ⟨_, rfl⟩
    rw [← hEp, ← hIp, ← hZp]
    have HEp : Hid _ := hEp
    have HIp : Hid _ := hIp
    have HZp : Hid _ := hZp
    clear hEp hIp hZp
    have De_9 : Hid (rSta.rd w9 (fun b => w8.heap.size ≤ b ∧ b < w9.heap.size) [.slice ae ne ce, .slice be me de, .int .i64 te] (Mo.doS (Mo.doS s (Mo.tOp nm)) Mo.lOp)) := rSta.weaken hd9 (fun q hq hl => ⟨hq, hl⟩)
    have Yp_9 : Hid (rBytes.rd w9 (fun b => w8.heap.size ≤ b) [.slice xp yp zp] ((Mo.doR (Mo.doS s (Mo.tOp nm)) Mo.lOp).2.1)) := hy9
    have Np_9 : Hid (rNmds.rd w9 (fun b => w8.heap.size ≤ b) [.slice fp gp hp] ((Mo.doR (Mo.doS s (Mo.tOp nm)) Mo.lOp).2.2.2.1)) := hn9
    have Rs_9 : Hid (Row w9 (W.heap.size) 25 [.slice a0 n0 c0, .slice b0 m0 d0, .int .i64 t0]) := Rs_8.out.below (bb9)
    have Ds_9 : Hid (rSta.rd w9 (fun b => b < W.heap.size) [.slice a0 n0 c0, .slice b0 m0 d0, .int .i64 t0] (s)) := Rep.below Ds_8.out (bb9)
    have Dv_9 : Hid (rSta.rd w9 (fun b => w2.heap.size ≤ b) [.slice av n0 cv, .slice bv m0 dv, .int .i64 t0] (s)) := Rep.below Dv_8.out (bb9)
    have Dc_9 : Hid (rSta.rd w9 (fun b => w3.heap.size ≤ b ∧ b < w4.heap.size) [.slice ac nc cc, .slice bc mc dc, .int .i64 tc] (Mo.doS s Mo.lOp)) := Rep.below Dc_8.out (bb9)
    have Yr_9 : Hid (rBytes.rd w9 (fun b => w3.heap.size ≤ b) [.slice xr yr zr] ((Mo.doR s Mo.lOp).2.1)) := Rep.below Yr_8.out (bb9)
    have Nr_9 : Hid (rNmds.rd w9 (fun b => w3.heap.size ≤ b) [.slice fr gr hr] ((Mo.doR s Mo.lOp).2.2.2.1)) := Rep.below Nr_8.out (bb9)
    have Rc_9 : Hid (Row w9 (w4.heap.size) 29 [.slice ac nc cc, .slice bc mc dc, .int .i64 tc]) := Rc_8.out.below (bb9)
    have Rr_9 : Hid (Row w9 (wA5.heap.size) 34 [.int .i64 Er, .slice xr yr zr, .int .i64 Ir, .slice fr gr hr, .int .i64 Zr]) := Rr_8.out.below (bb9)
    have Du_9 : Hid (rSta.rd w9 (fun b => w5.heap.size ≤ b) [.slice au n0 cu, .slice bu m0 du, .int .i64 t0] (s)) := Rep.below Du_8.out (bb9)
    have Da_9 : Hid (rSta.rd w9 (fun b => w6.heap.size ≤ b ∧ b < w7.heap.size) [.slice aa na ca, .slice ba ma da, .int .i64 ta] (Mo.doS s (Mo.tOp nm))) := Rep.below Da_8.out (bb9)
    have Yy_9 : Hid (rBytes.rd w9 (fun b => w6.heap.size ≤ b) [.slice xy yy zy] ((Mo.doR s (Mo.tOp nm)).2.1)) := Rep.below Yy_8.out (bb9)
    have Ny_9 : Hid (rNmds.rd w9 (fun b => w6.heap.size ≤ b) [.slice fy gy hy] ((Mo.doR s (Mo.tOp nm)).2.2.2.1)) := Rep.below Ny_8.out (bb9)
    have Ra_9 : Hid (Row w9 (w7.heap.size) 29 [.slice aa na ca, .slice ba ma da, .int .i64 ta]) := Ra_8.out.below (bb9)
    have Ry_9 : Hid (Row w9 (wA8.heap.size) 34 [.int .i64 0, .slice xy yy zy, .int .i64 Iy, .slice fy gy hy, .int .i64 Zy]) := Ry_8.out.below (bb9)
    have B_9 : Hid (Below W.heap.size W w9) := on B_8.out (bb9)
    clear p8_0 r8_0 p8_1 r8_1 p8_2 r8_2 s8_0 u8_0 s8_1 u8_1 s8_2 u8_2 s8_3 u8_3 s8_4 u8_4 hA8 hB8 hX8 hY8 qy0 qy1 qy2 qy3 qy4 qa0 qa1 qa2 qr0 qr1 qr2 qr3 qr4
    clear Rs_8 Ds_8 Dv_8 Dc_8 Yr_8 Nr_8 Rc_8 Rr_8 Du_8 Da_8 Yy_8 Ny_8 Ra_8 Ry_8
    have HLT9 : Hid (W.heap.size < w9.heap.size) := Rs_9.out.lt
    clear hd9 hy9 hn9 bb9
    obtain ⟨wA10, wB10, wX10, w10, hA10, hB10, va, hX10, vr, hY10, vs, vt, k10, hl10⟩ := fresh2 w9 (.slice ae ne ce) (.slice be me de) (.int .i64 te) (.int .i64 Ep) (.slice xp yp zp) (.int .i64 Ip) (.slice fp gp hp) (.int .i64 Zp)
    have Re_10 : Hid (Row w10 (w9.heap.size) 29 [.slice ae ne ce, .slice be me de, .int .i64 te]) := vs
    have Rp_10 : Hid (Row w10 (wA10.heap.size) 34 [.int .i64 Ep, .slice xp yp zp, .int .i64 Ip, .slice fp gp hp, .int .i64 Zp]) := vt
    have Rs_10 : Hid (Row w10 (W.heap.size) 25 [.slice a0 n0 c0, .slice b0 m0 d0, .int .i64 t0]) := Rs_9.out.below (k10)
    have Ds_10 : Hid (rSta.rd w10 (fun b => b < W.heap.size) [.slice a0 n0 c0, .slice b0 m0 d0, .int .i64 t0] (s)) := Rep.below Ds_9.out (k10)
    have Dv_10 : Hid (rSta.rd w10 (fun b => w2.heap.size ≤ b) [.slice av n0 cv, .slice bv m0 dv, .int .i64 t0] (s)) := Rep.below Dv_9.out (k10)
    have Dc_10 : Hid (rSta.rd w10 (fun b => w3.heap.size ≤ b ∧ b < w4.heap.size) [.slice ac nc cc, .slice bc mc dc, .int .i64 tc] (Mo.doS s Mo.lOp)) := Rep.below Dc_9.out (k10)
    have Yr_10 : Hid (rBytes.rd w10 (fun b => w3.heap.size ≤ b) [.slice xr yr zr] ((Mo.doR s Mo.lOp).2.1)) := Rep.below Yr_9.out (k10)
    have Nr_10 : Hid (rNmds.rd w10 (fun b => w3.heap.size ≤ b) [.slice fr gr hr] ((Mo.doR s Mo.lOp).2.2.2.1)) := Rep.below Nr_9.out (k10)
    have Rc_10 : Hid (Row w10 (w4.heap.size) 29 [.slice ac nc cc, .slice bc mc dc, .int .i64 tc]) := Rc_9.out.below (k10)
    have Rr_10 : Hid (Row w10 (wA5.heap.size) 34 [.int .i64 Er, .slice xr yr zr, .int .i64 Ir, .slice fr gr hr, .int .i64 Zr]) := Rr_9.out.below (k10)
    have Du_10 : Hid (rSta.rd w10 (fun b => w5.heap.size ≤ b) [.slice au n0 cu, .slice bu m0 du, .int .i64 t0] (s)) := Rep.below Du_9.out (k10)
    have Da_10 : Hid (rSta.rd w10 (fun b => w6.heap.size ≤ b ∧ b < w7.heap.size) [.slice aa na ca, .slice ba ma da, .int .i64 ta] (Mo.doS s (Mo.tOp nm))) := Rep.below Da_9.out (k10)
    have Yy_10 : Hid (rBytes.rd w10 (fun b => w6.heap.size ≤ b) [.slice xy yy zy] ((Mo.doR s (Mo.tOp nm)).2.1)) := Rep.below Yy_9.out (k10)
    have Ny_10 : Hid (rNmds.rd w10 (fun b => w6.heap.size ≤ b) [.slice fy gy hy] ((Mo.doR s (Mo.tOp nm)).2.2.2.1)) := Rep.below Ny_9.out (k10)
    have Ra_10 : Hid (Row w10 (w7.heap.size) 29 [.slice aa na ca, .slice ba ma da, .int .i64 ta]) := Ra_9.out.below (k10)
    have Ry_10 : Hid (Row w10 (wA8.heap.size) 34 [.int .i64 0, .slice xy yy zy, .int .i64 Iy, .slice fy gy hy, .int .i64 Zy]) := Ry_9.out.below (k10)
    have De_10 : Hid (rSta.rd w10 (fun b => w8.heap.size ≤ b ∧ b < w9.heap.size) [.slice ae ne ce, .slice be me de, .int .i64 te] (Mo.doS (Mo.doS s (Mo.tOp nm)) Mo.lOp)) := Rep.below De_9.out (k10)
    have Yp_10 : Hid (rBytes.rd w10 (fun b => w8.heap.size ≤ b) [.slice xp yp zp] ((Mo.doR (Mo.doS s (Mo.tOp nm)) Mo.lOp).2.1)) := Rep.below Yp_9.out (k10)
    have Np_10 : Hid (rNmds.rd w10 (fun b => w8.heap.size ≤ b) [.slice fp gp hp] ((Mo.doR (Mo.doS s (Mo.tOp nm)) Mo.lOp).2.2.2.1)) := Rep.below Np_9.out (k10)
    have B_10 : Hid (Below W.heap.size W w10) := on B_9.out (k10)
    clear Rs_9 Ds_9 Dv_9 Dc_9 Yr_9 Nr_9 Rc_9 Rr_9 Du_9 Da_9 Yy_9 Ny_9 Ra_9 Ry_9 De_9 Yp_9 Np_9
    have p10_0 := va.cell (j := 0) rfl
    have r10_0 := va.frozen 0
    have p10_1 := va.cell (j := 1) rfl
    have r10_1 := va.frozen 1
    have p10_2 := va.cell (j := 2) rfl
    have r10_2 := va.frozen 2
    have s10_0 := vr.cell (j := 0) rfl
    have u10_0 := vr.frozen 0
    have s10_1 := vr.cell (j := 1) rfl
    have u10_1 := vr.frozen 1
    have s10_2 := vr.cell (j := 2) rfl
    have u10_2 := vr.frozen 2
    have s10_3 := vr.cell (j := 3) rfl
    have u10_3 := vr.frozen 3
    have s10_4 := vr.cell (j := 4) rfl
    have u10_4 := vr.frozen 4
    have HL10 : Hid _ := hl10
    clear va vr vs vt k10 hl10
    have qp0 := Rp_10.out.cell (j := 0) rfl
    have qp1 := Rp_10.out.cell (j := 1) rfl
    have qp2 := Rp_10.out.cell (j := 2) rfl
    have qp3 := Rp_10.out.cell (j := 3) rfl
    have qp4 := Rp_10.out.cell (j := 4) rfl
    have qr0 := Rr_10.out.cell (j := 0) rfl
    have qr1 := Rr_10.out.cell (j := 1) rfl
    have qr2 := Rr_10.out.cell (j := 2) rfl
    have qr3 := Rr_10.out.cell (j := 3) rfl
    have qr4 := Rr_10.out.cell (j := 4) rfl
    have qs0 := Rs_10.out.cell (j := 0) rfl
    have qs1 := Rs_10.out.cell (j := 1) rfl
    have qs2 := Rs_10.out.cell (j := 2) rfl
    have qy0 := Ry_10.out.cell (j := 0) rfl
    have qy1 := Ry_10.out.cell (j := 1) rfl
    have qy2 := Ry_10.out.cell (j := 2) rfl
    have qy3 := Ry_10.out.cell (j := 3) rfl
    have qy4 := Ry_10.out.cell (j := 4) rfl
    have HLn : Hid ((Mo.named s.2.1).length = m0) := by unfold Hid Mo.named; rw [List.length_map]; exact HMs.out
    have HGr : Hid (gr = m0) := by have h := (rL_len Nr_10.out).1; rw [HRl.out, HLn.out] at h; exact h.symm
    have HGp : Hid (gp = m0 + 1) := by have h := (rL_len Np_10.out).1; rw [HPl.out, List.length_append, HLn.out] at h; exact h.symm
    have hm8 : m0 ≤ 8 := HM8.out
    have hg1 : gr ≤ 8 := by rw [HGr.out]; exact hm8
    have e5 : ((gp : Int) != (gr : Int) + 1) = false := by rw [bne_eq_false_iff_eq, HGr.out, HGp.out]; omega
    have e6 : ((gr : Int) != (m0 : Int)) = false := by rw [bne_eq_false_iff_eq, HGr.out]
    go_wp2_with fail
    clear e5 e6
    clear p10_0 r10_0 p10_1 r10_1 p10_2 r10_2 s10_0 u10_0 s10_1 u10_1 s10_2 u10_2 s10_3 u10_3 s10_4 u10_4 hA10 hB10 hX10 hY10 qp0 qp1 qp2 qp3 qp4 qr0 qr1 qr2 qr3 qr4 qs0 qs1 qs2 qy0 qy1 qy2 qy3 qy4
    go_loopw [11] (fun i wr => ∃ j : Nat, j ≤ gr ∧ i = .int .i64 j ∧ Below w10.heap.size w10 wr) (fun i _ => gr - (intOf i).toNat)
    case atStart => exact ⟨0, Nat.zero_le _, rfl, Below.refl _ _⟩
    case round =>
      obtain ⟨j, hj, rfl, belo⟩ := hrel
      obtain ⟨w11, hw11⟩ : ∃ v, v = wr := ⟨_, rfl⟩
      subst hw11
      have Rs_11 : Hid (Row w11 (W.heap.size) 25 [.slice a0 n0 c0, .slice b0 m0 d0, .int .i64 t0]) := Rs_10.out.below (belo)
      have Ds_11 : Hid (rSta.rd w11 (fun b => b < W.heap.size) [.slice a0 n0 c0, .slice b0 m0 d0, .int .i64 t0] (s)) := Rep.below Ds_10.out (belo)
      have Dv_11 : Hid (rSta.rd w11 (fun b => w2.heap.size ≤ b) [.slice av n0 cv, .slice bv m0 dv, .int .i64 t0] (s)) := Rep.below Dv_10.out (belo)
      have Dc_11 : Hid (rSta.rd w11 (fun b => w3.heap.size ≤ b ∧ b < w4.heap.size) [.slice ac nc cc, .slice bc mc dc, .int .i64 tc] (Mo.doS s Mo.lOp)) := Rep.below Dc_10.out (belo)
      have Yr_11 : Hid (rBytes.rd w11 (fun b => w3.heap.size ≤ b) [.slice xr yr zr] ((Mo.doR s Mo.lOp).2.1)) := Rep.below Yr_10.out (belo)
      have Nr_11 : Hid (rNmds.rd w11 (fun b => w3.heap.size ≤ b) [.slice fr gr hr] ((Mo.doR s Mo.lOp).2.2.2.1)) := Rep.below Nr_10.out (belo)
      have Rc_11 : Hid (Row w11 (w4.heap.size) 29 [.slice ac nc cc, .slice bc mc dc, .int .i64 tc]) := Rc_10.out.below (belo)
      have Rr_11 : Hid (Row w11 (wA5.heap.size) 34 [.int .i64 Er, .slice xr yr zr, .int .i64 Ir, .slice fr gr hr, .int .i64 Zr]) := Rr_10.out.below (belo)
      have Du_11 : Hid (rSta.rd w11 (fun b => w5.heap.size ≤ b) [.slice au n0 cu, .slice bu m0 du, .int .i64 t0] (s)) := Rep.below Du_10.out (belo)
      have Da_11 : Hid (rSta.rd w11 (fun b => w6.heap.size ≤ b ∧ b < w7.heap.size) [.slice aa na ca, .slice ba ma da, .int .i64 ta] (Mo.doS s (Mo.tOp nm))) := Rep.below Da_10.out (belo)
      have Yy_11 : Hid (rBytes.rd w11 (fun b => w6.heap.size ≤ b) [.slice xy yy zy] ((Mo.doR s (Mo.tOp nm)).2.1)) := Rep.below Yy_10.out (belo)
      have Ny_11 : Hid (rNmds.rd w11 (fun b => w6.heap.size ≤ b) [.slice fy gy hy] ((Mo.doR s (Mo.tOp nm)).2.2.2.1)) := Rep.below Ny_10.out (belo)
      have Ra_11 : Hid (Row w11 (w7.heap.size) 29 [.slice aa na ca, .slice ba ma da, .int .i64 ta]) := Ra_10.out.below (belo)
      have Ry_11 : Hid (Row w11 (wA8.heap.size) 34 [.int .i64 0, .slice xy yy zy, .int .i64 Iy, .slice fy gy hy, .int .i64 Zy]) := Ry_10.out.below (belo)
      have De_11 : Hid (rSta.rd w11 (fun b => w8.heap.size ≤ b ∧ b < w9.heap.size) [.slice ae ne ce, .slice be me de, .int .i64 te] (Mo.doS (Mo.doS s (Mo.tOp nm)) Mo.lOp)) := Rep.below De_10.out (belo)
      have Yp_11 : Hid (rBytes.rd w11 (fun b => w8.heap.size ≤ b) [.slice xp yp zp] ((Mo.doR (Mo.doS s (Mo.tOp nm)) Mo.lOp).2.1)) := Rep.below Yp_10.out (belo)
      have Np_11 : Hid (rNmds.rd w11 (fun b => w8.heap.size ≤ b) [.slice fp gp hp] ((Mo.doR (Mo.doS s (Mo.tOp nm)) Mo.lOp).2.2.2.1)) := Rep.below Np_10.out (belo)
      have Re_11 : Hid (Row w11 (w9.heap.size) 29 [.slice ae ne ce, .slice be me de, .int .i64 te]) := Re_10.out.below (belo)
      have Rp_11 : Hid (Row w11 (wA10.heap.size) 34 [.int .i64 Ep, .slice xp yp zp, .int .i64 Ip, .slice fp gp hp, .int .i64 Zp]) := Rp_10.out.below (belo)
      have B_11 : Hid (Below W.heap.size W w11) := on B_10.out (belo)
      clear Rs_10 Ds_10 Dv_10 Dc_10 Yr_10 Nr_10 Rc_10 Rr_10 Du_10 Da_10 Yy_10 Ny_10 Ra_10 Ry_10 De_10 Yp_10 Np_10 Re_10 Rp_10
      have BL1 : Hid (Below w10.heap.size w10 w11) := belo
      clear belo
      have qr0 := Rr_11.out.cell (j := 0) rfl
      have qr1 := Rr_11.out.cell (j := 1) rfl
      have qr2 := Rr_11.out.cell (j := 2) rfl
      have qr3 := Rr_11.out.cell (j := 3) rfl
      have qr4 := Rr_11.out.cell (j := 4) rfl
      have qp0 := Rp_11.out.cell (j := 0) rfl
      have qp1 := Rp_11.out.cell (j := 1) rfl
      have qp2 := Rp_11.out.cell (j := 2) rfl
      have qp3 := Rp_11.out.cell (j := 3) rfl
      have qp4 := Rp_11.out.cell (j := 4) rfl
      have qs0 := Rs_11.out.cell (j := 0) rfl
      have qs1 := Rs_11.out.cell (j := 1) rfl
      have qs2 := Rs_11.out.cell (j := 2) rfl
      by_cases hjn : j < gr
      · skip
        have hjz : (j : Int) < (gr : Int) := by omega
        have hjm : j < m0 := by rw [← HGr.out]; exact hjn
        have hjp : (j : Int) < (gp : Int) := by rw [HGp.out]; omega
        have hjmz : (j : Int) < (m0 : Int) := by omega
        obtain ⟨-, HPs, -, hls, -⟩ := sta_parts Ds_11.out
        have HNr := Nr_11.out
        have HNp := Np_11.out
        rw [HRl.out] at HNr
        rw [HPl.out] at HNp
        have hjs : j < s.2.1.length := by rw [hls]; exact hjm
        have hjr : j < (Mo.named s.2.1).length := by rw [HLn.out]; exact hjm
        have hjpp : j < (Mo.named s.2.1 ++ [(Iy, nm)]).length := by rw [List.length_append, HLn.out]; omega
        obtain ⟨g, off, rfl, -, -, hat⟩ := rNmds_at HNr (by omega)
        obtain ⟨g', off', rfl, -, -, hbt⟩ := rNmds_at HNp (by omega)
        obtain ⟨g2, off2, rfl, -, -, hct⟩ := rSnps_at HPs (by omega)
        obtain ⟨c0', c1', -, -⟩ := hat j hjr
        obtain ⟨d0', d1', -, -⟩ := hbt j hjpp
        obtain ⟨y, ym, yd, -, -, s0', s1', -, -, -⟩ := hct j hjs
        rw [List.getElem_append_left hjr] at d0' d1'
        have hnj : (Mo.named s.2.1)[j] = (s.2.1[j].1, s.2.1[j].2.1) := List.getElem_map (fun x : Snp => (x.1, x.2.1))
        rw [hnj] at c0' c1' d0' d1'
        clear hat hbt hct hnj HPs hls HNr HNp hjr hjpp hjm
        simp only at c0' c1' d0' d1'
        generalize s.2.1[j].1 = id at *
        generalize s.2.1[j].2.1 = nj at *
        clear hjs
        have e1 : (id == id) = true := beq_self_eq_true _
        have e2 : (nj.toList == nj.toList) = true := beq_self_eq_true _
        have e3 : (id != id) = false := bne_self_eq_false _
        have e4 : (nj.toList != nj.toList) = false := bne_self_eq_false _
        go_wp2_with fail
        go_quiet (fail)
        go_wp2
        go_roundw
        case rel => exact ⟨j + 1, by omega, by go_num, below_drewN BL1.out _⟩
        case measure => simp [intOf]; omega
      · obtain rfl : gr = j := by omega
        have qy0 := Ry_11.out.cell (j := 0) rfl
        have qy1 := Ry_11.out.cell (j := 1) rfl
        have qy2 := Ry_11.out.cell (j := 2) rfl
        have qy3 := Ry_11.out.cell (j := 3) rfl
        have qy4 := Ry_11.out.cell (j := 4) rfl
        have hgz : (gr : Int) < (gp : Int) := by rw [HGr.out, HGp.out]; omega
        have HNp := Np_11.out
        rw [HPl.out] at HNp
        have hjpp : gr < (Mo.named s.2.1 ++ [(Iy, nm)]).length := by rw [List.length_append, HLn.out, HGr.out]; show m0 < m0 + 1; omega
        obtain ⟨g', off', hfp, -, -, hbt⟩ := rNmds_at HNp (by omega)
        rw [hfp] at qp3
        clear hfp
        obtain ⟨d0', d1', -, -⟩ := hbt gr hjpp
        have hlast : (Mo.named s.2.1 ++ [(Iy, nm)])[gr] = (Iy, nm) := by rw [List.getElem_append_right (by rw [HLn.out, HGr.out]; exact Nat.le_refl _)]; simp
        rw [hlast] at d0' d1'
        clear hbt hlast hjpp HNp
        simp only at d0' d1'
        have e1 : (Iy == Iy) = true := beq_self_eq_true _
        have e2 : (nm.toList == nm.toList) = true := beq_self_eq_true _
        go_wp2_with fail
        go_quiet (fail)
        clear e1 e2
        clear qr0 qr1 qr2 qr3 qr4 qp0 qp1 qp2 qp3 qp4 qs0 qs1 qs2 qy0 qy1 qy2 qy3 qy4
        obtain ⟨w12, hw12⟩ : ∃ v, v = w11.drewN nq := ⟨_, rfl⟩
        have bdr : Below w11.heap.size w11 w12 := by rw [hw12]; exact below_drewN (Below.refl _ _) _
        rw [← hw12]
        clear hw12
        have Rs_12 : Hid (Row w12 (W.heap.size) 25 [.slice a0 n0 c0, .slice b0 m0 d0, .int .i64 t0]) := Rs_11.out.below (bdr)
        have Ds_12 : Hid (rSta.rd w12 (fun b => b < W.heap.size) [.slice a0 n0 c0, .slice b0 m0 d0, .int .i64 t0] (s)) := Rep.below Ds_11.out (bdr)
        have Dv_12 : Hid (rSta.rd w12 (fun b => w2.heap.size ≤ b) [.slice av n0 cv, .slice bv m0 dv, .int .i64 t0] (s)) := Rep.below Dv_11.out (bdr)
        have Dc_12 : Hid (rSta.rd w12 (fun b => w3.heap.size ≤ b ∧ b < w4.heap.size) [.slice ac nc cc, .slice bc mc dc, .int .i64 tc] (Mo.doS s Mo.lOp)) := Rep.below Dc_11.out (bdr)
        have Yr_12 : Hid (rBytes.rd w12 (fun b => w3.heap.size ≤ b) [.slice xr yr zr] ((Mo.doR s Mo.lOp).2.1)) := Rep.below Yr_11.out (bdr)
        have Nr_12 : Hid (rNmds.rd w12 (fun b => w3.heap.size ≤ b) [.slice fr gr hr] ((Mo.doR s Mo.lOp).2.2.2.1)) := Rep.below Nr_11.out (bdr)
        have Rc_12 : Hid (Row w12 (w4.heap.size) 29 [.slice ac nc cc, .slice bc mc dc, .int .i64 tc]) := Rc_11.out.below (bdr)
        have Rr_12 : Hid (Row w12 (wA5.heap.size) 34 [.int .i64 Er, .slice xr yr zr, .int .i64 Ir, .slice fr gr hr, .int .i64 Zr]) := Rr_11.out.below (bdr)
        have Du_12 : Hid (rSta.rd w12 (fun b => w5.heap.size ≤ b) [.slice au n0 cu, .slice bu m0 du, .int .i64 t0] (s)) := Rep.below Du_11.out (bdr)
        have Da_12 : Hid (rSta.rd w12 (fun b => w6.heap.size ≤ b ∧ b < w7.heap.size) [.slice aa na ca, .slice ba ma da, .int .i64 ta] (Mo.doS s (Mo.tOp nm))) := Rep.below Da_11.out (bdr)
        have Yy_12 : Hid (rBytes.rd w12 (fun b => w6.heap.size ≤ b) [.slice xy yy zy] ((Mo.doR s (Mo.tOp nm)).2.1)) := Rep.below Yy_11.out (bdr)
        have Ny_12 : Hid (rNmds.rd w12 (fun b => w6.heap.size ≤ b) [.slice fy gy hy] ((Mo.doR s (Mo.tOp nm)).2.2.2.1)) := Rep.below Ny_11.out (bdr)
        have Ra_12 : Hid (Row w12 (w7.heap.size) 29 [.slice aa na ca, .slice ba ma da, .int .i64 ta]) := Ra_11.out.below (bdr)
        have Ry_12 : Hid (Row w12 (wA8.heap.size) 34 [.int .i64 0, .slice xy yy zy, .int .i64 Iy, .slice fy gy hy, .int .i64 Zy]) := Ry_11.out.below (bdr)
        have De_12 : Hid (rSta.rd w12 (fun b => w8.heap.size ≤ b ∧ b < w9.heap.size) [.slice ae ne ce, .slice be me de, .int .i64 te] (Mo.doS (Mo.doS s (Mo.tOp nm)) Mo.lOp)) := Rep.below De_11.out (bdr)
        have Yp_12 : Hid (rBytes.rd w12 (fun b => w8.heap.size ≤ b) [.slice xp yp zp] ((Mo.doR (Mo.doS s (Mo.tOp nm)) Mo.lOp).2.1)) := Rep.below Yp_11.out (bdr)
        have Np_12 : Hid (rNmds.rd w12 (fun b => w8.heap.size ≤ b) [.slice fp gp hp] ((Mo.doR (Mo.doS s (Mo.tOp nm)) Mo.lOp).2.2.2.1)) := Rep.below Np_11.out (bdr)
        have Re_12 : Hid (Row w12 (w9.heap.size) 29 [.slice ae ne ce, .slice be me de, .int .i64 te]) := Re_11.out.below (bdr)
        have Rp_12 : Hid (Row w12 (wA10.heap.size) 34 [.int .i64 Ep, .slice xp yp zp, .int .i64 Ip, .slice fp gp hp, .int .i64 Zp]) := Rp_11.out.below (bdr)
        have B_12 : Hid (Below W.heap.size W w12) := on B_11.out (bdr)
        clear Rs_11 Ds_11 Dv_11 Dc_11 Yr_11 Nr_11 Rc_11 Rr_11 Du_11 Da_11 Yy_11 Ny_11 Ra_11 Ry_11 De_11 Yp_11 Np_11 Re_11 Rp_11
        clear bdr
        go_wp2_with (go_at_call 7; refine (num10_u _ _).mono ?_; rintro e w99 ⟨rfl, rfl⟩)
        go_ret
        exact ⟨rfl, B_12.out⟩
set_option maxRecDepth 100000 in
theorem llists_lifted (os : Os) (started : os.Started) (H : Type) (enc : TypeId × Value → H) :
    ReturnsInHanded {} Try.checked os 3 .any (Rows.modelListsSpec.pre6 enc Try.prog Try.f3 Rows.modelListsRow.domain false) (Rows.modelListsSpec.post enc Try.prog Try.f3 false true false false) := by
  refine returnsInHanded_of_change_sized (C := Try.checked) own started (by kernel_rfl) Try.func3
    (ChangeSpec.witness6 (enc := enc) (C := Try.checked) false ⟨#[], #[.agg #[.slice none 0 0, .slice none 0 0, .int .i64 0], .string ByteArray.empty], []⟩ 8 (by kernel_rfl) (by kernel_rfl) (by kernel_rfl) (by kernel_rfl)) ?_
  intro W base args ds gs before hval0 hW _ hsz0 _
  have hsz : (DataW.weightsEach Try.prog (Try.f3.params.toList ++ Rows.modelListsSpec.plain.varTypes Try.prog) (ds ++ gs)).all (· ≤ reachBytes) = true := hsz0
  clear hsz0
  have hval : ∀ (j : Nat) t v, Try.f3.params[j]? = some t → args[j]? = some v → Value.okWide Try.prog W .any base t v := hval0
  have hW' := hW
  obtain ⟨p, q, hA0, hV, rfl, hfz, hnd⟩ := hW
  have hA : DataW.TrodAll enc Try.prog W 0 (fun _ => true) true Try.f3.params.toList args.toList ds p := hA0
  rw [Try.params3] at hA hval hsz
  obtain ⟨v0, vs0, d0, ds0, p0, q0, hargs, rfl, rfl, h0, r0⟩ := trodAll_cons hA
  obtain ⟨v1, vs1, d1, ds1, p1, q1, rfl, rfl, rfl, h1, r1⟩ := trodAll_cons r0
  obtain ⟨rfl, rfl, rfl⟩ := trodAll_nil r1
  obtain rfl : args = #[v0, v1] := by cases args; simp_all
  obtain ⟨rfl, rfl⟩ := trodVars_none hV
  obtain ⟨c0, rfl, -⟩ := okWide_struct Try.underlying25 (hval 0 25 v0 rfl rfl)
  have k0 := h0
  have lt0 : ∀ x ∈ p0, x.block < W.heap.size := by obtain ⟨m, hm⟩ := k0; exact DataW.trod_lt m _ _ _ hm
  obtain ⟨x0, hx0⟩ := opens_state10.arg h0 hsz (j := 0) rfl rfl
  obtain ⟨a1, rfl, rfl, rfl, w1⟩ := open_string Try.underlying9 (hval 1 9 v1 rfl rfl) h1
  clear hA0 hval0
  refine (llists_walk c0.toList x0 a1 W hx0 w1).mono fun e W' ⟨he, bel⟩ => ?_
  subst he
  exact ⟨_, rfl, _, _, _, [], _, [], hW', trodAll_mk1 (shut_bool Try.underlying4 _), (trodAll_cons_mk (Below.trod laidOut (by kernel_rfl) (of_decide_eq_true (by kernel_rfl)) k0 bel lt0) (trodAll_cons_mk (shut_string Try.underlying9 w1) trodAll_mk0)), rfl, bel.frame _, fun h => by cases h⟩
theorem modelLists_holds : Rows.ModelListsSaid :=
  OpenClaim.holds_of_wide 3 Try.f3 rfl rfl rfl rfl rfl rfl rfl ⟨rfl, rfl, rfl, rfl, rfl⟩ rfl rfl rfl rfl rfl (by kernel_rfl) Try.func3 (by kernel_rfl)
    (of_decide_eq_true (by kernel_rfl)) (by unfold Func.isWrapper; first | (rw [if_pos (by decide +kernel)]; kernel_rfl) | (rw [if_neg (by decide +kernel)]; exact ⟨rfl, rfl⟩))
    (fun os started H enc _ => llists_lifted os started H enc)
end Go.Proofs.Ytflcojljpbojlab
