/-
  Discarded sectors are zeros, and a disk made of another size and back. Conditions: none.
-/
import Derived.Test.YtflcojljpbojlaaM18
import Derived.Test.YtflcojljpbojlaaM19
import Derived.Test.YtflcojljpbojlaaM20
import Derived.Test.YtflcojljpbojlaaM21
import Derived.Test.YtflcojljpbojlaaM22
namespace Go.Proofs.Ytflcojljpbojlaa
open Go.ChangeShapes Go.WideShapes Go.ChangeAt Go.RowKit
open Go.ChangeMaps (open_string shut_string)
set_option linter.unusedVariables false
set_option maxRecDepth 20000 in
set_option maxHeartbeats 8000000 in
theorem ldrops_walk (cs0 : List Value) (s : Sta) (at' N size : Int) (W : World) (h0 : rSta.rd W (fun b => b < W.heap.size) cs0 s) (h1 : -9223372036854775808 ≤ at') (h2 : at' ≤ 9223372036854775807) (h3 : -9223372036854775808 ≤ N) (h4 : N ≤ 9223372036854775807) (h5 : -9223372036854775808 ≤ size) (h6 : size ≤ 9223372036854775807) :
    Calls Try.prog 7 #[.agg cs0.toArray, .int .i64 at', .int .i64 N, .int .i64 size] W fun e W' => e = .returned (.bool true) ∧ Below W.heap.size W W' := by
  obtain ⟨a0, n0, c0, b0, m0, d0, rfl, hD, hU, hI⟩ := rSta_cells h0
  obtain ⟨t0, ht0⟩ : ∃ t, t = s.2.2 := ⟨_, rfl⟩
  rw [← ht0] at h0 ⊢
  rw [← ht0] at hI
  have HTs : Hid _ := ht0
  have HT64 : Hid (I64 t0) := hI
  have HNs : Hid (s.1.length = n0) := (rL_len hD).1
  have HMs : Hid (s.2.1.length = m0) := (rL_len hU).1
  rw [show ([.slice a0 n0 c0, .slice b0 m0 d0, .int .i64 t0] : List Value).toArray = #[.slice a0 n0 c0, .slice b0 m0 d0, .int .i64 t0] from rfl]
  obtain ⟨w1, hw1, V1, b1, z1⟩ := boxedRow W 25 [.slice a0 n0 c0, .slice b0 m0 d0, .int .i64 t0]
  have Rs_1 : Hid (Row w1 (W.heap.size) 25 [.slice a0 n0 c0, .slice b0 m0 d0, .int .i64 t0]) := V1
  have Ds_1 : Hid (rSta.rd w1 (fun b => b < W.heap.size) [.slice a0 n0 c0, .slice b0 m0 d0, .int .i64 t0] (s)) := Rep.below h0 b1
  have B_1 : Hid (Below W.heap.size W w1) := b1
  have HA : Hid (I64 at') := ⟨h1, h2⟩
  have HB : Hid (I64 N) := ⟨h3, h4⟩
  have HC : Hid (I64 size) := ⟨h5, h6⟩
  clear h1 h2 h3 h4 h5 h6
  clear V1 b1 z1 hD hU hI h0 ht0
  go_enter Try.func7, Try.ntmps7
  go_wp2_with fail
  refine Calls.mono (alive10_u _) ?_
  rintro e w2 ⟨rfl, b2⟩
  have Rs_2 : Hid (Row w2 (W.heap.size) 25 [.slice a0 n0 c0, .slice b0 m0 d0, .int .i64 t0]) := Rs_1.out.below (b2)
  have Ds_2 : Hid (rSta.rd w2 (fun b => b < W.heap.size) [.slice a0 n0 c0, .slice b0 m0 d0, .int .i64 t0] (s)) := Rep.below Ds_1.out (b2)
  have B_2 : Hid (Below W.heap.size W w2) := on B_1.out (b2)
  clear Rs_1 Ds_1
  clear b2
  have qs0 := Rs_2.out.cell (j := 0) rfl
  have qs1 := Rs_2.out.cell (j := 1) rfl
  have qs2 := Rs_2.out.cell (j := 2) rfl
  go_wp2_with (go_at_call 15; refine (num10_u _ _).mono ?_; rintro e w99 ⟨rfl, rfl⟩)
  go_at_call 9
  refine Calls.mono (ofV w2 _ a0 b0 n0 c0 m0 d0 t0 s Ds_2.out) ?_
  rintro e w3 ⟨av, cv, bv, dv, rfl, h3, b3⟩
  have Dv_3 : Hid (rSta.rd w3 (fun b => w2.heap.size ≤ b) [.slice av n0 cv, .slice bv m0 dv, .int .i64 t0] (s)) := staF_sta h3
  have Rs_3 : Hid (Row w3 (W.heap.size) 25 [.slice a0 n0 c0, .slice b0 m0 d0, .int .i64 t0]) := Rs_2.out.below (b3)
  have Ds_3 : Hid (rSta.rd w3 (fun b => b < W.heap.size) [.slice a0 n0 c0, .slice b0 m0 d0, .int .i64 t0] (s)) := Rep.below Ds_2.out (b3)
  have B_3 : Hid (Below W.heap.size W w3) := on B_2.out (b3)
  clear qs0 qs1 qs2
  clear Rs_2 Ds_2
  clear h3 b3
  go_wp2_with (go_at_call 15; refine (num10_u _ _).mono ?_; rintro e w99 ⟨rfl, rfl⟩)
  go_at_call 11
  refine Calls.mono (do_v w3 _ av bv n0 cv m0 dv t0 s Dv_3.out 3 at' N 0 Mo.noName [] none 0 0 (by unfold I64; decide) HA.out HB.out (by unfold I64; decide) (by decide) (P' := fun _ => True) (rBytes_none _ _ _ _ (fun _ => rfl))) ?_
  rintro e w4 ⟨aa, na, ca, ba, ma, da, ta, xr, yr, zr, fr, gr, hr, rfl, hd4, hy4, hn4, bb4⟩
  obtain ⟨Er, hEr⟩ : ∃ z, z = (Mo.doR s (Mo.cOp at' N)).1 := ⟨_, rfl⟩
  obtain ⟨Ir, hIr⟩ : ∃ z, z = (Mo.doR s (Mo.cOp at' N)).2.2.1 := ⟨_, rfl⟩
  obtain ⟨Zr, hZr⟩ : ∃ z, z = (Mo.doR s (Mo.cOp at' N)).2.2.2.2 := ⟨_, rfl⟩
  rw [← hEr, ← hIr, ← hZr]
  have HEr : Hid _ := hEr
  have HIr : Hid _ := hIr
  have HZr : Hid _ := hZr
  clear hEr hIr hZr
  have Da_4 : Hid (rSta.rd w4 (fun b => w3.heap.size ≤ b ∧ b < w4.heap.size) [.slice aa na ca, .slice ba ma da, .int .i64 ta] (Mo.doS s (Mo.cOp at' N))) := rSta.weaken hd4 (fun q hq hl => ⟨hq, hl⟩)
  have Yr_4 : Hid (rBytes.rd w4 (fun b => w3.heap.size ≤ b) [.slice xr yr zr] ((Mo.doR s (Mo.cOp at' N)).2.1)) := hy4
  have Nr_4 : Hid (rNmds.rd w4 (fun b => w3.heap.size ≤ b) [.slice fr gr hr] ((Mo.doR s (Mo.cOp at' N)).2.2.2.1)) := hn4
  have Rs_4 : Hid (Row w4 (W.heap.size) 25 [.slice a0 n0 c0, .slice b0 m0 d0, .int .i64 t0]) := Rs_3.out.below (bb4)
  have Ds_4 : Hid (rSta.rd w4 (fun b => b < W.heap.size) [.slice a0 n0 c0, .slice b0 m0 d0, .int .i64 t0] (s)) := Rep.below Ds_3.out (bb4)
  have Dv_4 : Hid (rSta.rd w4 (fun b => w2.heap.size ≤ b) [.slice av n0 cv, .slice bv m0 dv, .int .i64 t0] (s)) := Rep.below Dv_3.out (bb4)
  have B_4 : Hid (Below W.heap.size W w4) := on B_3.out (bb4)
  clear Rs_3 Ds_3 Dv_3
  have HLT4 : Hid (W.heap.size < w4.heap.size) := Rs_4.out.lt
  clear hd4 hy4 hn4 bb4
  obtain ⟨wA5, wB5, wX5, w5, hA5, hB5, va, hX5, vr, hY5, vs, vt, k5, hl5⟩ := fresh2 w4 (.slice aa na ca) (.slice ba ma da) (.int .i64 ta) (.int .i64 Er) (.slice xr yr zr) (.int .i64 Ir) (.slice fr gr hr) (.int .i64 Zr)
  have Ra_5 : Hid (Row w5 (w4.heap.size) 31 [.slice aa na ca, .slice ba ma da, .int .i64 ta]) := vs
  have Rr_5 : Hid (Row w5 (wA5.heap.size) 38 [.int .i64 Er, .slice xr yr zr, .int .i64 Ir, .slice fr gr hr, .int .i64 Zr]) := vt
  have Rs_5 : Hid (Row w5 (W.heap.size) 25 [.slice a0 n0 c0, .slice b0 m0 d0, .int .i64 t0]) := Rs_4.out.below (k5)
  have Ds_5 : Hid (rSta.rd w5 (fun b => b < W.heap.size) [.slice a0 n0 c0, .slice b0 m0 d0, .int .i64 t0] (s)) := Rep.below Ds_4.out (k5)
  have Dv_5 : Hid (rSta.rd w5 (fun b => w2.heap.size ≤ b) [.slice av n0 cv, .slice bv m0 dv, .int .i64 t0] (s)) := Rep.below Dv_4.out (k5)
  have Da_5 : Hid (rSta.rd w5 (fun b => w3.heap.size ≤ b ∧ b < w4.heap.size) [.slice aa na ca, .slice ba ma da, .int .i64 ta] (Mo.doS s (Mo.cOp at' N))) := Rep.below Da_4.out (k5)
  have Yr_5 : Hid (rBytes.rd w5 (fun b => w3.heap.size ≤ b) [.slice xr yr zr] ((Mo.doR s (Mo.cOp at' N)).2.1)) := Rep.below Yr_4.out (k5)
  have Nr_5 : Hid (rNmds.rd w5 (fun b => w3.heap.size ≤ b) [.slice fr gr hr] ((Mo.doR s (Mo.cOp at' N)).2.2.2.1)) := Rep.below Nr_4.out (k5)
  have B_5 : Hid (Below W.heap.size W w5) := on B_4.out (k5)
  clear Rs_4 Ds_4 Dv_4 Da_4 Yr_4 Nr_4
  have p5_0 := va.cell (j := 0) rfl
  have r5_0 := va.frozen 0
  have p5_1 := va.cell (j := 1) rfl
  have r5_1 := va.frozen 1
  have p5_2 := va.cell (j := 2) rfl
  have r5_2 := va.frozen 2
  have s5_0 := vr.cell (j := 0) rfl
  have u5_0 := vr.frozen 0
  have s5_1 := vr.cell (j := 1) rfl
  have u5_1 := vr.frozen 1
  have s5_2 := vr.cell (j := 2) rfl
  have u5_2 := vr.frozen 2
  have s5_3 := vr.cell (j := 3) rfl
  have u5_3 := vr.frozen 3
  have s5_4 := vr.cell (j := 4) rfl
  have u5_4 := vr.frozen 4
  have HL5 : Hid _ := hl5
  clear va vr vs vt k5 hl5
  have qr0 := Rr_5.out.cell (j := 0) rfl
  have qr1 := Rr_5.out.cell (j := 1) rfl
  have qr2 := Rr_5.out.cell (j := 2) rfl
  have qr3 := Rr_5.out.cell (j := 3) rfl
  have qr4 := Rr_5.out.cell (j := 4) rfl
  by_cases hE : Er = 0
  case neg =>
    have hEn : (Er == 0) = false := beq_eq_false_iff_ne.2 hE
    have hcase : Mo.ok s = false ∨ Mo.ok s = true := by
      by_cases h : Mo.ok s = true
      · exact .inr h
      · exact .inl (Bool.eq_false_iff.2 h)
    rcases hcase with hok | hok
    · have HK : Hid (Mo.checkE s = 9) := Mo.checkE_nine hok
      clear hok
      have qs0 := Rs_5.out.cell (j := 0) rfl
      have qs1 := Rs_5.out.cell (j := 1) rfl
      have qs2 := Rs_5.out.cell (j := 2) rfl
      go_wp2_with (go_at_call 15; refine (num10_u _ _).mono ?_; rintro e w99 ⟨rfl, rfl⟩)
      go_at_call 17
      refine Calls.mono (docCheck_v w5 _ a0 b0 n0 c0 m0 d0 t0 s Ds_5.out) ?_
      rintro e w6 ⟨rfl, b6⟩
      rw [HK.out]
      have Rs_6 : Hid (Row w6 (W.heap.size) 25 [.slice a0 n0 c0, .slice b0 m0 d0, .int .i64 t0]) := Rs_5.out.below (b6)
      have Ds_6 : Hid (rSta.rd w6 (fun b => b < W.heap.size) [.slice a0 n0 c0, .slice b0 m0 d0, .int .i64 t0] (s)) := Rep.below Ds_5.out (b6)
      have Dv_6 : Hid (rSta.rd w6 (fun b => w2.heap.size ≤ b) [.slice av n0 cv, .slice bv m0 dv, .int .i64 t0] (s)) := Rep.below Dv_5.out (b6)
      have Da_6 : Hid (rSta.rd w6 (fun b => w3.heap.size ≤ b ∧ b < w4.heap.size) [.slice aa na ca, .slice ba ma da, .int .i64 ta] (Mo.doS s (Mo.cOp at' N))) := Rep.below Da_5.out (b6)
      have Yr_6 : Hid (rBytes.rd w6 (fun b => w3.heap.size ≤ b) [.slice xr yr zr] ((Mo.doR s (Mo.cOp at' N)).2.1)) := Rep.below Yr_5.out (b6)
      have Nr_6 : Hid (rNmds.rd w6 (fun b => w3.heap.size ≤ b) [.slice fr gr hr] ((Mo.doR s (Mo.cOp at' N)).2.2.2.1)) := Rep.below Nr_5.out (b6)
      have Ra_6 : Hid (Row w6 (w4.heap.size) 31 [.slice aa na ca, .slice ba ma da, .int .i64 ta]) := Ra_5.out.below (b6)
      have Rr_6 : Hid (Row w6 (wA5.heap.size) 38 [.int .i64 Er, .slice xr yr zr, .int .i64 Ir, .slice fr gr hr, .int .i64 Zr]) := Rr_5.out.below (b6)
      have B_6 : Hid (Below W.heap.size W w6) := on B_5.out (b6)
      clear p5_0 r5_0 p5_1 r5_1 p5_2 r5_2 s5_0 u5_0 s5_1 u5_1 s5_2 u5_2 s5_3 u5_3 s5_4 u5_4 hA5 hB5 hX5 hY5 qr0 qr1 qr2 qr3 qr4 qs0 qs1 qs2
      clear Rs_5 Ds_5 Dv_5 Da_5 Yr_5 Nr_5 Ra_5 Rr_5
      go_wp2_with (go_at_call 15; refine (num10_u _ _).mono ?_; rintro e w99 ⟨rfl, rfl⟩)
      go_ret
      exact ⟨rfl, B_6.out⟩
    · have HK : Hid (Mo.checkE s = 0) := Mo.checkE_zero.2 hok
      have HOk : Hid _ := hok
      clear hok
      have qs0 := Rs_5.out.cell (j := 0) rfl
      have qs1 := Rs_5.out.cell (j := 1) rfl
      have qs2 := Rs_5.out.cell (j := 2) rfl
      go_wp2_with (go_at_call 15; refine (num10_u _ _).mono ?_; rintro e w99 ⟨rfl, rfl⟩)
      go_at_call 17
      refine Calls.mono (docCheck_v w5 _ a0 b0 n0 c0 m0 d0 t0 s Ds_5.out) ?_
      rintro e w7 ⟨rfl, b7⟩
      rw [HK.out]
      have Rs_7 : Hid (Row w7 (W.heap.size) 25 [.slice a0 n0 c0, .slice b0 m0 d0, .int .i64 t0]) := Rs_5.out.below (b7)
      have Ds_7 : Hid (rSta.rd w7 (fun b => b < W.heap.size) [.slice a0 n0 c0, .slice b0 m0 d0, .int .i64 t0] (s)) := Rep.below Ds_5.out (b7)
      have Dv_7 : Hid (rSta.rd w7 (fun b => w2.heap.size ≤ b) [.slice av n0 cv, .slice bv m0 dv, .int .i64 t0] (s)) := Rep.below Dv_5.out (b7)
      have Da_7 : Hid (rSta.rd w7 (fun b => w3.heap.size ≤ b ∧ b < w4.heap.size) [.slice aa na ca, .slice ba ma da, .int .i64 ta] (Mo.doS s (Mo.cOp at' N))) := Rep.below Da_5.out (b7)
      have Yr_7 : Hid (rBytes.rd w7 (fun b => w3.heap.size ≤ b) [.slice xr yr zr] ((Mo.doR s (Mo.cOp at' N)).2.1)) := Rep.below Yr_5.out (b7)
      have Nr_7 : Hid (rNmds.rd w7 (fun b => w3.heap.size ≤ b) [.slice fr gr hr] ((Mo.doR s (Mo.cOp at' N)).2.2.2.1)) := Rep.below Nr_5.out (b7)
      have Ra_7 : Hid (Row w7 (w4.heap.size) 31 [.slice aa na ca, .slice ba ma da, .int .i64 ta]) := Ra_5.out.below (b7)
      have Rr_7 : Hid (Row w7 (wA5.heap.size) 38 [.int .i64 Er, .slice xr yr zr, .int .i64 Ir, .slice fr gr hr, .int .i64 Zr]) := Rr_5.out.below (b7)
      have B_7 : Hid (Below W.heap.size W w7) := on B_5.out (b7)
      clear p5_0 r5_0 p5_1 r5_1 p5_2 r5_2 s5_0 u5_0 s5_1 u5_1 s5_2 u5_2 s5_3 u5_3 s5_4 u5_4 hA5 hB5 hX5 hY5 qr0 qr1 qr2 qr3 qr4 qs0 qs1 qs2
      clear Rs_5 Ds_5 Dv_5 Da_5 Yr_5 Nr_5 Ra_5 Rr_5
      have hc3 : size < 0 ∨ (¬ size < 0 ∧ 3000 < size) ∨ (¬ size < 0 ∧ ¬ 3000 < size) := by omega
      rcases hc3 with h1 | ⟨h1, h2⟩ | ⟨h1, h2⟩
      · skip
        go_wp2_with (go_at_call 15; refine (num10_u _ _).mono ?_; rintro e w99 ⟨rfl, rfl⟩)
        go_ret
        exact ⟨rfl, B_7.out⟩
      · skip
        go_wp2_with (go_at_call 15; refine (num10_u _ _).mono ?_; rintro e w99 ⟨rfl, rfl⟩)
        go_ret
        exact ⟨rfl, B_7.out⟩
      · skip
        have qs0 := Rs_7.out.cell (j := 0) rfl
        have qs1 := Rs_7.out.cell (j := 1) rfl
        have qs2 := Rs_7.out.cell (j := 2) rfl
        have hsz := Mo.sizes_back (s := s) HOk.out (n := size) (by omega) (by omega)
        obtain ⟨k1, k2, k3, k4, k5, k6⟩ := hsz
        have k6' : ∀ m : Nat, s.1.length = m → ∀ (i : Nat) (hi : i < s.1.length) (hi' : i < (Mo.doS (Mo.doS s (Mo.zOp size)) (Mo.zOp (m : Int))).1.length), (Mo.doS (Mo.doS s (Mo.zOp size)) (Mo.zOp (m : Int))).1[i] = if (i : Int) < size then s.1[i] else [] := fun m hm => by subst hm; exact k6
        rw [HNs.out] at k3 k4 k5
        have HSz : Hid (0 ≤ size ∧ size ≤ 3000) := ⟨by omega, by omega⟩
        have HF1 : Hid _ := k1
        have HF2 : Hid _ := k2
        have HF3 : Hid _ := k3
        have HF4 : Hid _ := k4
        have HF5 : Hid (n0 ≤ 65536) := k5
        have HF6 : Hid _ := k6' n0 HNs.out
        clear k1 k2 k3 k4 k5 k6 k6'
        go_wp2_with (go_at_call 15; refine (num10_u _ _).mono ?_; rintro e w99 ⟨rfl, rfl⟩)
        go_at_call 9
        refine Calls.mono (ofV w7 _ a0 b0 n0 c0 m0 d0 t0 s Ds_7.out) ?_
        rintro e w8 ⟨au, cu, bu, du, rfl, h8, b8⟩
        have Du_8 : Hid (rSta.rd w8 (fun b => w7.heap.size ≤ b) [.slice au n0 cu, .slice bu m0 du, .int .i64 t0] (s)) := staF_sta h8
        have Rs_8 : Hid (Row w8 (W.heap.size) 25 [.slice a0 n0 c0, .slice b0 m0 d0, .int .i64 t0]) := Rs_7.out.below (b8)
        have Ds_8 : Hid (rSta.rd w8 (fun b => b < W.heap.size) [.slice a0 n0 c0, .slice b0 m0 d0, .int .i64 t0] (s)) := Rep.below Ds_7.out (b8)
        have Dv_8 : Hid (rSta.rd w8 (fun b => w2.heap.size ≤ b) [.slice av n0 cv, .slice bv m0 dv, .int .i64 t0] (s)) := Rep.below Dv_7.out (b8)
        have Da_8 : Hid (rSta.rd w8 (fun b => w3.heap.size ≤ b ∧ b < w4.heap.size) [.slice aa na ca, .slice ba ma da, .int .i64 ta] (Mo.doS s (Mo.cOp at' N))) := Rep.below Da_7.out (b8)
        have Yr_8 : Hid (rBytes.rd w8 (fun b => w3.heap.size ≤ b) [.slice xr yr zr] ((Mo.doR s (Mo.cOp at' N)).2.1)) := Rep.below Yr_7.out (b8)
        have Nr_8 : Hid (rNmds.rd w8 (fun b => w3.heap.size ≤ b) [.slice fr gr hr] ((Mo.doR s (Mo.cOp at' N)).2.2.2.1)) := Rep.below Nr_7.out (b8)
        have Ra_8 : Hid (Row w8 (w4.heap.size) 31 [.slice aa na ca, .slice ba ma da, .int .i64 ta]) := Ra_7.out.below (b8)
        have Rr_8 : Hid (Row w8 (wA5.heap.size) 38 [.int .i64 Er, .slice xr yr zr, .int .i64 Ir, .slice fr gr hr, .int .i64 Zr]) := Rr_7.out.below (b8)
        have B_8 : Hid (Below W.heap.size W w8) := on B_7.out (b8)
        clear qs0 qs1 qs2
        clear Rs_7 Ds_7 Dv_7 Da_7 Yr_7 Nr_7 Ra_7 Rr_7
        clear h8 b8
        go_wp2_with (go_at_call 15; refine (num10_u _ _).mono ?_; rintro e w99 ⟨rfl, rfl⟩)
        go_at_call 11
        refine Calls.mono (do_v w8 _ au bu n0 cu m0 du t0 s Du_8.out 8 0 size 0 Mo.noName [] none 0 0 (by unfold I64; decide) (by unfold I64; decide) HC.out (by unfold I64; decide) (by decide) (P' := fun _ => True) (rBytes_none _ _ _ _ (fun _ => rfl))) ?_
        rintro e w9 ⟨ab, nb, cb, bb, mb, db, tb, xp, yp, zp, fp, gp, hp, rfl, hd9, hy9, hn9, bb9⟩
        obtain ⟨Ep, hEp⟩ : ∃ z, z = (Mo.doR s (Mo.zOp size)).1 := ⟨_, rfl⟩
        obtain ⟨Ip, hIp⟩ : ∃ z, z = (Mo.doR s (Mo.zOp size)).2.2.1 := ⟨_, rfl⟩
        obtain ⟨Zp, hZp⟩ : ∃ z, z = (Mo.doR s (Mo.zOp size)).2.2.2.2 := ⟨_, rfl⟩
        rw [← hEp, ← hIp, ← hZp]
        have HEp : Hid _ := hEp
        have HIp : Hid _ := hIp
        have HZp : Hid _ := hZp
        clear hEp hIp hZp
        have Db_9 : Hid (rSta.rd w9 (fun b => w8.heap.size ≤ b ∧ b < w9.heap.size) [.slice ab nb cb, .slice bb mb db, .int .i64 tb] (Mo.doS s (Mo.zOp size))) := rSta.weaken hd9 (fun q hq hl => ⟨hq, hl⟩)
        have Yp_9 : Hid (rBytes.rd w9 (fun b => w8.heap.size ≤ b) [.slice xp yp zp] ((Mo.doR s (Mo.zOp size)).2.1)) := hy9
        have Np_9 : Hid (rNmds.rd w9 (fun b => w8.heap.size ≤ b) [.slice fp gp hp] ((Mo.doR s (Mo.zOp size)).2.2.2.1)) := hn9
        have Rs_9 : Hid (Row w9 (W.heap.size) 25 [.slice a0 n0 c0, .slice b0 m0 d0, .int .i64 t0]) := Rs_8.out.below (bb9)
        have Ds_9 : Hid (rSta.rd w9 (fun b => b < W.heap.size) [.slice a0 n0 c0, .slice b0 m0 d0, .int .i64 t0] (s)) := Rep.below Ds_8.out (bb9)
        have Dv_9 : Hid (rSta.rd w9 (fun b => w2.heap.size ≤ b) [.slice av n0 cv, .slice bv m0 dv, .int .i64 t0] (s)) := Rep.below Dv_8.out (bb9)
        have Da_9 : Hid (rSta.rd w9 (fun b => w3.heap.size ≤ b ∧ b < w4.heap.size) [.slice aa na ca, .slice ba ma da, .int .i64 ta] (Mo.doS s (Mo.cOp at' N))) := Rep.below Da_8.out (bb9)
        have Yr_9 : Hid (rBytes.rd w9 (fun b => w3.heap.size ≤ b) [.slice xr yr zr] ((Mo.doR s (Mo.cOp at' N)).2.1)) := Rep.below Yr_8.out (bb9)
        have Nr_9 : Hid (rNmds.rd w9 (fun b => w3.heap.size ≤ b) [.slice fr gr hr] ((Mo.doR s (Mo.cOp at' N)).2.2.2.1)) := Rep.below Nr_8.out (bb9)
        have Ra_9 : Hid (Row w9 (w4.heap.size) 31 [.slice aa na ca, .slice ba ma da, .int .i64 ta]) := Ra_8.out.below (bb9)
        have Rr_9 : Hid (Row w9 (wA5.heap.size) 38 [.int .i64 Er, .slice xr yr zr, .int .i64 Ir, .slice fr gr hr, .int .i64 Zr]) := Rr_8.out.below (bb9)
        have Du_9 : Hid (rSta.rd w9 (fun b => w7.heap.size ≤ b) [.slice au n0 cu, .slice bu m0 du, .int .i64 t0] (s)) := Rep.below Du_8.out (bb9)
        have B_9 : Hid (Below W.heap.size W w9) := on B_8.out (bb9)
        clear Rs_8 Ds_8 Dv_8 Da_8 Yr_8 Nr_8 Ra_8 Rr_8 Du_8
        have HLT9 : Hid (W.heap.size < w9.heap.size) := Rs_9.out.lt
        clear hd9 hy9 hn9 bb9
        obtain ⟨wA10, wB10, wX10, w10, hA10, hB10, va, hX10, vr, hY10, vs, vt, k10, hl10⟩ := fresh2 w9 (.slice ab nb cb) (.slice bb mb db) (.int .i64 tb) (.int .i64 Ep) (.slice xp yp zp) (.int .i64 Ip) (.slice fp gp hp) (.int .i64 Zp)
        have Rb_10 : Hid (Row w10 (w9.heap.size) 31 [.slice ab nb cb, .slice bb mb db, .int .i64 tb]) := vs
        have Rp_10 : Hid (Row w10 (wA10.heap.size) 38 [.int .i64 Ep, .slice xp yp zp, .int .i64 Ip, .slice fp gp hp, .int .i64 Zp]) := vt
        have Rs_10 : Hid (Row w10 (W.heap.size) 25 [.slice a0 n0 c0, .slice b0 m0 d0, .int .i64 t0]) := Rs_9.out.below (k10)
        have Ds_10 : Hid (rSta.rd w10 (fun b => b < W.heap.size) [.slice a0 n0 c0, .slice b0 m0 d0, .int .i64 t0] (s)) := Rep.below Ds_9.out (k10)
        have Dv_10 : Hid (rSta.rd w10 (fun b => w2.heap.size ≤ b) [.slice av n0 cv, .slice bv m0 dv, .int .i64 t0] (s)) := Rep.below Dv_9.out (k10)
        have Da_10 : Hid (rSta.rd w10 (fun b => w3.heap.size ≤ b ∧ b < w4.heap.size) [.slice aa na ca, .slice ba ma da, .int .i64 ta] (Mo.doS s (Mo.cOp at' N))) := Rep.below Da_9.out (k10)
        have Yr_10 : Hid (rBytes.rd w10 (fun b => w3.heap.size ≤ b) [.slice xr yr zr] ((Mo.doR s (Mo.cOp at' N)).2.1)) := Rep.below Yr_9.out (k10)
        have Nr_10 : Hid (rNmds.rd w10 (fun b => w3.heap.size ≤ b) [.slice fr gr hr] ((Mo.doR s (Mo.cOp at' N)).2.2.2.1)) := Rep.below Nr_9.out (k10)
        have Ra_10 : Hid (Row w10 (w4.heap.size) 31 [.slice aa na ca, .slice ba ma da, .int .i64 ta]) := Ra_9.out.below (k10)
        have Rr_10 : Hid (Row w10 (wA5.heap.size) 38 [.int .i64 Er, .slice xr yr zr, .int .i64 Ir, .slice fr gr hr, .int .i64 Zr]) := Rr_9.out.below (k10)
        have Du_10 : Hid (rSta.rd w10 (fun b => w7.heap.size ≤ b) [.slice au n0 cu, .slice bu m0 du, .int .i64 t0] (s)) := Rep.below Du_9.out (k10)
        have Db_10 : Hid (rSta.rd w10 (fun b => w8.heap.size ≤ b ∧ b < w9.heap.size) [.slice ab nb cb, .slice bb mb db, .int .i64 tb] (Mo.doS s (Mo.zOp size))) := Rep.below Db_9.out (k10)
        have Yp_10 : Hid (rBytes.rd w10 (fun b => w8.heap.size ≤ b) [.slice xp yp zp] ((Mo.doR s (Mo.zOp size)).2.1)) := Rep.below Yp_9.out (k10)
        have Np_10 : Hid (rNmds.rd w10 (fun b => w8.heap.size ≤ b) [.slice fp gp hp] ((Mo.doR s (Mo.zOp size)).2.2.2.1)) := Rep.below Np_9.out (k10)
        have B_10 : Hid (Below W.heap.size W w10) := on B_9.out (k10)
        clear Rs_9 Ds_9 Dv_9 Da_9 Yr_9 Nr_9 Ra_9 Rr_9 Du_9 Db_9 Yp_9 Np_9
        have p10_0 := va.cell (j := 0) rfl
        have r10_0 := va.frozen 0
        have p10_1 := va.cell (j := 1) rfl
        have r10_1 := va.frozen 1
        have p10_2 := va.cell (j := 2) rfl
        have r10_2 := va.frozen 2
        have s10_0 := vr.cell (j := 0) rfl
        have u10_0 := vr.frozen 0
        have s10_1 := vr.cell (j := 1) rfl
        have u10_1 := vr.frozen 1
        have s10_2 := vr.cell (j := 2) rfl
        have u10_2 := vr.frozen 2
        have s10_3 := vr.cell (j := 3) rfl
        have u10_3 := vr.frozen 3
        have s10_4 := vr.cell (j := 4) rfl
        have u10_4 := vr.frozen 4
        have HL10 : Hid _ := hl10
        clear va vr vs vt k10 hl10
        obtain rfl := HEp.out.trans HF1.out
        have hn6 : n0 ≤ 65536 := HF5.out
        have qb0 := Rb_10.out.cell (j := 0) rfl
        have qb1 := Rb_10.out.cell (j := 1) rfl
        have qb2 := Rb_10.out.cell (j := 2) rfl
        have qs0 := Rs_10.out.cell (j := 0) rfl
        have qs1 := Rs_10.out.cell (j := 1) rfl
        have qs2 := Rs_10.out.cell (j := 2) rfl
        go_wp2_with (go_at_call 15; refine (num10_u _ _).mono ?_; rintro e w99 ⟨rfl, rfl⟩)
        go_at_call 11
        refine Calls.mono (do_v w10 _ ab bb nb cb mb db tb (Mo.doS s (Mo.zOp size)) Db_10.out 8 0 (n0 : Int) 0 Mo.noName [] none 0 0 (by unfold I64; decide) (by unfold I64; decide) (by have h := HF5.out; unfold Hid at h; unfold I64; omega) (by unfold I64; decide) (by decide) (P' := fun _ => True) (rBytes_none _ _ _ _ (fun _ => rfl))) ?_
        rintro e w11 ⟨ae, ne, ce, be, me, de, te, xq, yq, zq, fq, gq, hq, rfl, hd11, hy11, hn11, bb11⟩
        obtain ⟨Eq, hEq⟩ : ∃ z, z = (Mo.doR (Mo.doS s (Mo.zOp size)) (Mo.zOp (n0 : Int))).1 := ⟨_, rfl⟩
        obtain ⟨Iq, hIq⟩ : ∃ z, z = (Mo.doR (Mo.doS s (Mo.zOp size)) (Mo.zOp (n0 : Int))).2.2.1 := ⟨_, rfl⟩
        obtain ⟨Zq, hZq⟩ : ∃ z, z = (Mo.doR (Mo.doS s (Mo.zOp size)) (Mo.zOp (n0 : Int))).2.2.2.2 := ⟨_, rfl⟩
        rw [← hEq, ← hIq, ← hZq]
        have HEq : Hid _ := hEq
        have HIq : Hid _ := hIq
        have HZq : Hid _ := hZq
        clear hEq hIq hZq
        have De_11 : Hid (rSta.rd w11 (fun b => w10.heap.size ≤ b ∧ b < w11.heap.size) [.slice ae ne ce, .slice be me de, .int .i64 te] (Mo.doS (Mo.doS s (Mo.zOp size)) (Mo.zOp (n0 : Int)))) := rSta.weaken hd11 (fun q hq hl => ⟨hq, hl⟩)
        have Yq_11 : Hid (rBytes.rd w11 (fun b => w10.heap.size ≤ b) [.slice xq yq zq] ((Mo.doR (Mo.doS s (Mo.zOp size)) (Mo.zOp (n0 : Int))).2.1)) := hy11
        have Nq_11 : Hid (rNmds.rd w11 (fun b => w10.heap.size ≤ b) [.slice fq gq hq] ((Mo.doR (Mo.doS s (Mo.zOp size)) (Mo.zOp (n0 : Int))).2.2.2.1)) := hn11
        have Rs_11 : Hid (Row w11 (W.heap.size) 25 [.slice a0 n0 c0, .slice b0 m0 d0, .int .i64 t0]) := Rs_10.out.below (bb11)
        have Ds_11 : Hid (rSta.rd w11 (fun b => b < W.heap.size) [.slice a0 n0 c0, .slice b0 m0 d0, .int .i64 t0] (s)) := Rep.below Ds_10.out (bb11)
        have Dv_11 : Hid (rSta.rd w11 (fun b => w2.heap.size ≤ b) [.slice av n0 cv, .slice bv m0 dv, .int .i64 t0] (s)) := Rep.below Dv_10.out (bb11)
        have Da_11 : Hid (rSta.rd w11 (fun b => w3.heap.size ≤ b ∧ b < w4.heap.size) [.slice aa na ca, .slice ba ma da, .int .i64 ta] (Mo.doS s (Mo.cOp at' N))) := Rep.below Da_10.out (bb11)
        have Yr_11 : Hid (rBytes.rd w11 (fun b => w3.heap.size ≤ b) [.slice xr yr zr] ((Mo.doR s (Mo.cOp at' N)).2.1)) := Rep.below Yr_10.out (bb11)
        have Nr_11 : Hid (rNmds.rd w11 (fun b => w3.heap.size ≤ b) [.slice fr gr hr] ((Mo.doR s (Mo.cOp at' N)).2.2.2.1)) := Rep.below Nr_10.out (bb11)
        have Ra_11 : Hid (Row w11 (w4.heap.size) 31 [.slice aa na ca, .slice ba ma da, .int .i64 ta]) := Ra_10.out.below (bb11)
        have Rr_11 : Hid (Row w11 (wA5.heap.size) 38 [.int .i64 Er, .slice xr yr zr, .int .i64 Ir, .slice fr gr hr, .int .i64 Zr]) := Rr_10.out.below (bb11)
        have Du_11 : Hid (rSta.rd w11 (fun b => w7.heap.size ≤ b) [.slice au n0 cu, .slice bu m0 du, .int .i64 t0] (s)) := Rep.below Du_10.out (bb11)
        have Db_11 : Hid (rSta.rd w11 (fun b => w8.heap.size ≤ b ∧ b < w9.heap.size) [.slice ab nb cb, .slice bb mb db, .int .i64 tb] (Mo.doS s (Mo.zOp size))) := Rep.below Db_10.out (bb11)
        have Yp_11 : Hid (rBytes.rd w11 (fun b => w8.heap.size ≤ b) [.slice xp yp zp] ((Mo.doR s (Mo.zOp size)).2.1)) := Rep.below Yp_10.out (bb11)
        have Np_11 : Hid (rNmds.rd w11 (fun b => w8.heap.size ≤ b) [.slice fp gp hp] ((Mo.doR s (Mo.zOp size)).2.2.2.1)) := Rep.below Np_10.out (bb11)
        have Rb_11 : Hid (Row w11 (w9.heap.size) 31 [.slice ab nb cb, .slice bb mb db, .int .i64 tb]) := Rb_10.out.below (bb11)
        have Rp_11 : Hid (Row w11 (wA10.heap.size) 38 [.int .i64 0, .slice xp yp zp, .int .i64 Ip, .slice fp gp hp, .int .i64 Zp]) := Rp_10.out.below (bb11)
        have B_11 : Hid (Below W.heap.size W w11) := on B_10.out (bb11)
        clear p10_0 r10_0 p10_1 r10_1 p10_2 r10_2 s10_0 u10_0 s10_1 u10_1 s10_2 u10_2 s10_3 u10_3 s10_4 u10_4 hA10 hB10 hX10 hY10 qb0 qb1 qb2 qs0 qs1 qs2
        clear Rs_10 Ds_10 Dv_10 Da_10 Yr_10 Nr_10 Ra_10 Rr_10 Du_10 Db_10 Yp_10 Np_10 Rb_10 Rp_10
        have HLT11 : Hid (W.heap.size < w11.heap.size) := Rs_11.out.lt
        clear hd11 hy11 hn11 bb11
        obtain ⟨wA12, wB12, wX12, w12, hA12, hB12, va, hX12, vr, hY12, vs, vt, k12, hl12⟩ := fresh2 w11 (.slice ae ne ce) (.slice be me de) (.int .i64 te) (.int .i64 Eq) (.slice xq yq zq) (.int .i64 Iq) (.slice fq gq hq) (.int .i64 Zq)
        have Re_12 : Hid (Row w12 (w11.heap.size) 31 [.slice ae ne ce, .slice be me de, .int .i64 te]) := vs
        have Rq_12 : Hid (Row w12 (wA12.heap.size) 38 [.int .i64 Eq, .slice xq yq zq, .int .i64 Iq, .slice fq gq hq, .int .i64 Zq]) := vt
        have Rs_12 : Hid (Row w12 (W.heap.size) 25 [.slice a0 n0 c0, .slice b0 m0 d0, .int .i64 t0]) := Rs_11.out.below (k12)
        have Ds_12 : Hid (rSta.rd w12 (fun b => b < W.heap.size) [.slice a0 n0 c0, .slice b0 m0 d0, .int .i64 t0] (s)) := Rep.below Ds_11.out (k12)
        have Dv_12 : Hid (rSta.rd w12 (fun b => w2.heap.size ≤ b) [.slice av n0 cv, .slice bv m0 dv, .int .i64 t0] (s)) := Rep.below Dv_11.out (k12)
        have Da_12 : Hid (rSta.rd w12 (fun b => w3.heap.size ≤ b ∧ b < w4.heap.size) [.slice aa na ca, .slice ba ma da, .int .i64 ta] (Mo.doS s (Mo.cOp at' N))) := Rep.below Da_11.out (k12)
        have Yr_12 : Hid (rBytes.rd w12 (fun b => w3.heap.size ≤ b) [.slice xr yr zr] ((Mo.doR s (Mo.cOp at' N)).2.1)) := Rep.below Yr_11.out (k12)
        have Nr_12 : Hid (rNmds.rd w12 (fun b => w3.heap.size ≤ b) [.slice fr gr hr] ((Mo.doR s (Mo.cOp at' N)).2.2.2.1)) := Rep.below Nr_11.out (k12)
        have Ra_12 : Hid (Row w12 (w4.heap.size) 31 [.slice aa na ca, .slice ba ma da, .int .i64 ta]) := Ra_11.out.below (k12)
        have Rr_12 : Hid (Row w12 (wA5.heap.size) 38 [.int .i64 Er, .slice xr yr zr, .int .i64 Ir, .slice fr gr hr, .int .i64 Zr]) := Rr_11.out.below (k12)
        have Du_12 : Hid (rSta.rd w12 (fun b => w7.heap.size ≤ b) [.slice au n0 cu, .slice bu m0 du, .int .i64 t0] (s)) := Rep.below Du_11.out (k12)
        have Db_12 : Hid (rSta.rd w12 (fun b => w8.heap.size ≤ b ∧ b < w9.heap.size) [.slice ab nb cb, .slice bb mb db, .int .i64 tb] (Mo.doS s (Mo.zOp size))) := Rep.below Db_11.out (k12)
        have Yp_12 : Hid (rBytes.rd w12 (fun b => w8.heap.size ≤ b) [.slice xp yp zp] ((Mo.doR s (Mo.zOp size)).2.1)) := Rep.below Yp_11.out (k12)
        have Np_12 : Hid (rNmds.rd w12 (fun b => w8.heap.size ≤ b) [.slice fp gp hp] ((Mo.doR s (Mo.zOp size)).2.2.2.1)) := Rep.below Np_11.out (k12)
        have Rb_12 : Hid (Row w12 (w9.heap.size) 31 [.slice ab nb cb, .slice bb mb db, .int .i64 tb]) := Rb_11.out.below (k12)
        have Rp_12 : Hid (Row w12 (wA10.heap.size) 38 [.int .i64 0, .slice xp yp zp, .int .i64 Ip, .slice fp gp hp, .int .i64 Zp]) := Rp_11.out.below (k12)
        have De_12 : Hid (rSta.rd w12 (fun b => w10.heap.size ≤ b ∧ b < w11.heap.size) [.slice ae ne ce, .slice be me de, .int .i64 te] (Mo.doS (Mo.doS s (Mo.zOp size)) (Mo.zOp (n0 : Int)))) := Rep.below De_11.out (k12)
        have Yq_12 : Hid (rBytes.rd w12 (fun b => w10.heap.size ≤ b) [.slice xq yq zq] ((Mo.doR (Mo.doS s (Mo.zOp size)) (Mo.zOp (n0 : Int))).2.1)) := Rep.below Yq_11.out (k12)
        have Nq_12 : Hid (rNmds.rd w12 (fun b => w10.heap.size ≤ b) [.slice fq gq hq] ((Mo.doR (Mo.doS s (Mo.zOp size)) (Mo.zOp (n0 : Int))).2.2.2.1)) := Rep.below Nq_11.out (k12)
        have B_12 : Hid (Below W.heap.size W w12) := on B_11.out (k12)
        clear Rs_11 Ds_11 Dv_11 Da_11 Yr_11 Nr_11 Ra_11 Rr_11 Du_11 Db_11 Yp_11 Np_11 Rb_11 Rp_11 De_11 Yq_11 Nq_11
        have p12_0 := va.cell (j := 0) rfl
        have r12_0 := va.frozen 0
        have p12_1 := va.cell (j := 1) rfl
        have r12_1 := va.frozen 1
        have p12_2 := va.cell (j := 2) rfl
        have r12_2 := va.frozen 2
        have s12_0 := vr.cell (j := 0) rfl
        have u12_0 := vr.frozen 0
        have s12_1 := vr.cell (j := 1) rfl
        have u12_1 := vr.frozen 1
        have s12_2 := vr.cell (j := 2) rfl
        have u12_2 := vr.frozen 2
        have s12_3 := vr.cell (j := 3) rfl
        have u12_3 := vr.frozen 3
        have s12_4 := vr.cell (j := 4) rfl
        have u12_4 := vr.frozen 4
        have HL12 : Hid _ := hl12
        clear va vr vs vt k12 hl12
        obtain rfl := HEq.out.trans HF3.out
        have qp0 := Rp_12.out.cell (j := 0) rfl
        have qp1 := Rp_12.out.cell (j := 1) rfl
        have qp2 := Rp_12.out.cell (j := 2) rfl
        have qp3 := Rp_12.out.cell (j := 3) rfl
        have qp4 := Rp_12.out.cell (j := 4) rfl
        have qq0 := Rq_12.out.cell (j := 0) rfl
        have qq1 := Rq_12.out.cell (j := 1) rfl
        have qq2 := Rq_12.out.cell (j := 2) rfl
        have qq3 := Rq_12.out.cell (j := 3) rfl
        have qq4 := Rq_12.out.cell (j := 4) rfl
        have qe0 := Re_12.out.cell (j := 0) rfl
        have qe1 := Re_12.out.cell (j := 1) rfl
        have qe2 := Re_12.out.cell (j := 2) rfl
        have qs0 := Rs_12.out.cell (j := 0) rfl
        have qs1 := Rs_12.out.cell (j := 1) rfl
        have qs2 := Rs_12.out.cell (j := 2) rfl
        have HNe : Hid (ne = n0) := (sta_parts De_12.out).2.2.1.symm.trans HF4.out
        have eZ : (Zp != size) = false := by rw [bne_eq_false_iff_eq]; exact HZp.out.trans HF2.out
        have eL : ((ne : Int) != (n0 : Int)) = false := by rw [bne_eq_false_iff_eq, HNe.out]
        go_wp2_with fail
        go_quiet ((go_at_call 15; exact Calls.quiet_of_same ((num10_u _ _).mono (fun e w' h => ⟨h.1, h.2.symm⟩))))
        clear eZ eL
        clear p12_0 r12_0 p12_1 r12_1 p12_2 r12_2 s12_0 u12_0 s12_1 u12_1 s12_2 u12_2 s12_3 u12_3 s12_4 u12_4 hA12 hB12 hX12 hY12 qp0 qp1 qp2 qp3 qp4 qq0 qq1 qq2 qq3 qq4 qe0 qe1 qe2 qs0 qs1 qs2
        obtain ⟨w13, hw13⟩ : ∃ v, v = w12.drewN nq := ⟨_, rfl⟩
        have bdr : Below w12.heap.size w12 w13 := by rw [hw13]; exact below_drewN (Below.refl _ _) _
        rw [← hw13]
        clear hw13
        have Rs_13 : Hid (Row w13 (W.heap.size) 25 [.slice a0 n0 c0, .slice b0 m0 d0, .int .i64 t0]) := Rs_12.out.below (bdr)
        have Ds_13 : Hid (rSta.rd w13 (fun b => b < W.heap.size) [.slice a0 n0 c0, .slice b0 m0 d0, .int .i64 t0] (s)) := Rep.below Ds_12.out (bdr)
        have Dv_13 : Hid (rSta.rd w13 (fun b => w2.heap.size ≤ b) [.slice av n0 cv, .slice bv m0 dv, .int .i64 t0] (s)) := Rep.below Dv_12.out (bdr)
        have Da_13 : Hid (rSta.rd w13 (fun b => w3.heap.size ≤ b ∧ b < w4.heap.size) [.slice aa na ca, .slice ba ma da, .int .i64 ta] (Mo.doS s (Mo.cOp at' N))) := Rep.below Da_12.out (bdr)
        have Yr_13 : Hid (rBytes.rd w13 (fun b => w3.heap.size ≤ b) [.slice xr yr zr] ((Mo.doR s (Mo.cOp at' N)).2.1)) := Rep.below Yr_12.out (bdr)
        have Nr_13 : Hid (rNmds.rd w13 (fun b => w3.heap.size ≤ b) [.slice fr gr hr] ((Mo.doR s (Mo.cOp at' N)).2.2.2.1)) := Rep.below Nr_12.out (bdr)
        have Ra_13 : Hid (Row w13 (w4.heap.size) 31 [.slice aa na ca, .slice ba ma da, .int .i64 ta]) := Ra_12.out.below (bdr)
        have Rr_13 : Hid (Row w13 (wA5.heap.size) 38 [.int .i64 Er, .slice xr yr zr, .int .i64 Ir, .slice fr gr hr, .int .i64 Zr]) := Rr_12.out.below (bdr)
        have Du_13 : Hid (rSta.rd w13 (fun b => w7.heap.size ≤ b) [.slice au n0 cu, .slice bu m0 du, .int .i64 t0] (s)) := Rep.below Du_12.out (bdr)
        have Db_13 : Hid (rSta.rd w13 (fun b => w8.heap.size ≤ b ∧ b < w9.heap.size) [.slice ab nb cb, .slice bb mb db, .int .i64 tb] (Mo.doS s (Mo.zOp size))) := Rep.below Db_12.out (bdr)
        have Yp_13 : Hid (rBytes.rd w13 (fun b => w8.heap.size ≤ b) [.slice xp yp zp] ((Mo.doR s (Mo.zOp size)).2.1)) := Rep.below Yp_12.out (bdr)
        have Np_13 : Hid (rNmds.rd w13 (fun b => w8.heap.size ≤ b) [.slice fp gp hp] ((Mo.doR s (Mo.zOp size)).2.2.2.1)) := Rep.below Np_12.out (bdr)
        have Rb_13 : Hid (Row w13 (w9.heap.size) 31 [.slice ab nb cb, .slice bb mb db, .int .i64 tb]) := Rb_12.out.below (bdr)
        have Rp_13 : Hid (Row w13 (wA10.heap.size) 38 [.int .i64 0, .slice xp yp zp, .int .i64 Ip, .slice fp gp hp, .int .i64 Zp]) := Rp_12.out.below (bdr)
        have De_13 : Hid (rSta.rd w13 (fun b => w10.heap.size ≤ b ∧ b < w11.heap.size) [.slice ae ne ce, .slice be me de, .int .i64 te] (Mo.doS (Mo.doS s (Mo.zOp size)) (Mo.zOp (n0 : Int)))) := Rep.below De_12.out (bdr)
        have Yq_13 : Hid (rBytes.rd w13 (fun b => w10.heap.size ≤ b) [.slice xq yq zq] ((Mo.doR (Mo.doS s (Mo.zOp size)) (Mo.zOp (n0 : Int))).2.1)) := Rep.below Yq_12.out (bdr)
        have Nq_13 : Hid (rNmds.rd w13 (fun b => w10.heap.size ≤ b) [.slice fq gq hq] ((Mo.doR (Mo.doS s (Mo.zOp size)) (Mo.zOp (n0 : Int))).2.2.2.1)) := Rep.below Nq_12.out (bdr)
        have Re_13 : Hid (Row w13 (w11.heap.size) 31 [.slice ae ne ce, .slice be me de, .int .i64 te]) := Re_12.out.below (bdr)
        have Rq_13 : Hid (Row w13 (wA12.heap.size) 38 [.int .i64 0, .slice xq yq zq, .int .i64 Iq, .slice fq gq hq, .int .i64 Zq]) := Rq_12.out.below (bdr)
        have B_13 : Hid (Below W.heap.size W w13) := on B_12.out (bdr)
        clear Rs_12 Ds_12 Dv_12 Da_12 Yr_12 Nr_12 Ra_12 Rr_12 Du_12 Db_12 Yp_12 Np_12 Rb_12 Rp_12 De_12 Yq_12 Nq_12 Re_12 Rq_12
        clear bdr
        go_wp2
        go_loopw [16] (fun i wr => ∃ j : Nat, j ≤ n0 ∧ i = .int .i64 j ∧ Below w13.heap.size w13 wr) (fun i _ => n0 - (intOf i).toNat)
        case atStart => exact ⟨0, Nat.zero_le _, rfl, Below.refl _ _⟩
        case round =>
          obtain ⟨j, hj, rfl, belo⟩ := hrel
          obtain ⟨w14, hw14⟩ : ∃ v, v = wr := ⟨_, rfl⟩
          subst hw14
          have Rs_14 : Hid (Row w14 (W.heap.size) 25 [.slice a0 n0 c0, .slice b0 m0 d0, .int .i64 t0]) := Rs_13.out.below (belo)
          have Ds_14 : Hid (rSta.rd w14 (fun b => b < W.heap.size) [.slice a0 n0 c0, .slice b0 m0 d0, .int .i64 t0] (s)) := Rep.below Ds_13.out (belo)
          have Dv_14 : Hid (rSta.rd w14 (fun b => w2.heap.size ≤ b) [.slice av n0 cv, .slice bv m0 dv, .int .i64 t0] (s)) := Rep.below Dv_13.out (belo)
          have Da_14 : Hid (rSta.rd w14 (fun b => w3.heap.size ≤ b ∧ b < w4.heap.size) [.slice aa na ca, .slice ba ma da, .int .i64 ta] (Mo.doS s (Mo.cOp at' N))) := Rep.below Da_13.out (belo)
          have Yr_14 : Hid (rBytes.rd w14 (fun b => w3.heap.size ≤ b) [.slice xr yr zr] ((Mo.doR s (Mo.cOp at' N)).2.1)) := Rep.below Yr_13.out (belo)
          have Nr_14 : Hid (rNmds.rd w14 (fun b => w3.heap.size ≤ b) [.slice fr gr hr] ((Mo.doR s (Mo.cOp at' N)).2.2.2.1)) := Rep.below Nr_13.out (belo)
          have Ra_14 : Hid (Row w14 (w4.heap.size) 31 [.slice aa na ca, .slice ba ma da, .int .i64 ta]) := Ra_13.out.below (belo)
          have Rr_14 : Hid (Row w14 (wA5.heap.size) 38 [.int .i64 Er, .slice xr yr zr, .int .i64 Ir, .slice fr gr hr, .int .i64 Zr]) := Rr_13.out.below (belo)
          have Du_14 : Hid (rSta.rd w14 (fun b => w7.heap.size ≤ b) [.slice au n0 cu, .slice bu m0 du, .int .i64 t0] (s)) := Rep.below Du_13.out (belo)
          have Db_14 : Hid (rSta.rd w14 (fun b => w8.heap.size ≤ b ∧ b < w9.heap.size) [.slice ab nb cb, .slice bb mb db, .int .i64 tb] (Mo.doS s (Mo.zOp size))) := Rep.below Db_13.out (belo)
          have Yp_14 : Hid (rBytes.rd w14 (fun b => w8.heap.size ≤ b) [.slice xp yp zp] ((Mo.doR s (Mo.zOp size)).2.1)) := Rep.below Yp_13.out (belo)
          have Np_14 : Hid (rNmds.rd w14 (fun b => w8.heap.size ≤ b) [.slice fp gp hp] ((Mo.doR s (Mo.zOp size)).2.2.2.1)) := Rep.below Np_13.out (belo)
          have Rb_14 : Hid (Row w14 (w9.heap.size) 31 [.slice ab nb cb, .slice bb mb db, .int .i64 tb]) := Rb_13.out.below (belo)
          have Rp_14 : Hid (Row w14 (wA10.heap.size) 38 [.int .i64 0, .slice xp yp zp, .int .i64 Ip, .slice fp gp hp, .int .i64 Zp]) := Rp_13.out.below (belo)
          have De_14 : Hid (rSta.rd w14 (fun b => w10.heap.size ≤ b ∧ b < w11.heap.size) [.slice ae ne ce, .slice be me de, .int .i64 te] (Mo.doS (Mo.doS s (Mo.zOp size)) (Mo.zOp (n0 : Int)))) := Rep.below De_13.out (belo)
          have Yq_14 : Hid (rBytes.rd w14 (fun b => w10.heap.size ≤ b) [.slice xq yq zq] ((Mo.doR (Mo.doS s (Mo.zOp size)) (Mo.zOp (n0 : Int))).2.1)) := Rep.below Yq_13.out (belo)
          have Nq_14 : Hid (rNmds.rd w14 (fun b => w10.heap.size ≤ b) [.slice fq gq hq] ((Mo.doR (Mo.doS s (Mo.zOp size)) (Mo.zOp (n0 : Int))).2.2.2.1)) := Rep.below Nq_13.out (belo)
          have Re_14 : Hid (Row w14 (w11.heap.size) 31 [.slice ae ne ce, .slice be me de, .int .i64 te]) := Re_13.out.below (belo)
          have Rq_14 : Hid (Row w14 (wA12.heap.size) 38 [.int .i64 0, .slice xq yq zq, .int .i64 Iq, .slice fq gq hq, .int .i64 Zq]) := Rq_13.out.below (belo)
          have B_14 : Hid (Below W.heap.size W w14) := on B_13.out (belo)
          clear Rs_13 Ds_13 Dv_13 Da_13 Yr_13 Nr_13 Ra_13 Rr_13 Du_13 Db_13 Yp_13 Np_13 Rb_13 Rp_13 De_13 Yq_13 Nq_13 Re_13 Rq_13
          have BL1 : Hid (Below w13.heap.size w13 w14) := belo
          clear belo
          have qe0 := Re_14.out.cell (j := 0) rfl
          have qe1 := Re_14.out.cell (j := 1) rfl
          have qe2 := Re_14.out.cell (j := 2) rfl
          have qs0 := Rs_14.out.cell (j := 0) rfl
          have qs1 := Rs_14.out.cell (j := 1) rfl
          have qs2 := Rs_14.out.cell (j := 2) rfl
          have hn6 : n0 ≤ 65536 := HF5.out
          have hne1 : ne ≤ n0 := Nat.le_of_eq HNe.out
          have hne2 : n0 ≤ ne := Nat.le_of_eq HNe.out.symm
          by_cases hjn : j < n0
          · skip
            have hjz : (j : Int) < (n0 : Int) := by omega
            obtain ⟨HPa, -, hla, -, -⟩ := sta_parts De_14.out
            obtain ⟨HPs, -, hls, -, -⟩ := sta_parts Ds_14.out
            have hja : j < (Mo.doS (Mo.doS s (Mo.zOp size)) (Mo.zOp (n0 : Int))).1.length := by rw [hla]; omega
            have hjs : j < s.1.length := by rw [hls]; exact hjn
            have hjna : (j : Int) < (ne : Int) := by omega
            obtain ⟨g, off, rfl, -, -, hat⟩ := rLists_at HPa (by omega)
            obtain ⟨g', off', rfl, -, -, hbt⟩ := rLists_at HPs (by omega)
            obtain ⟨x, xm, xd, hx, hxl, c0'⟩ := hat j hja
            obtain ⟨y, ym, yd, hy, -, d0'⟩ := hbt j hjs
            have HX : Hid (IsB w14 x xm _) := (rBytes_isB hx).1
            have HY : Hid (IsB w14 y ym _) := (rBytes_isB hy).1
            have HXl : Hid _ := hxl
            have HEqv : Hid _ := HF6.out j hjs hja
            obtain ⟨X, hX⟩ : ∃ X, X = (Mo.doS (Mo.doS s (Mo.zOp size)) (Mo.zOp (n0 : Int))).1[j] := ⟨_, rfl⟩
            obtain ⟨Y, hY⟩ : ∃ Y, Y = s.1[j] := ⟨_, rfl⟩
            rw [← hX] at HX HEqv HXl
            rw [← hY] at HY HEqv
            clear hat hbt hx hy hX hY hla hls HPa HPs hja hjs hxl
            by_cases hsz : (j : Int) < size
            · obtain rfl : X = Y := by rw [HEqv.out, if_pos hsz]
              clear HEqv
              have e1 : decide ((j : Int) < size) = true := decide_eq_true hsz
              have e2 : decide (size ≤ (j : Int)) = false := decide_eq_false (by omega)
              go_wp2
              refine wp_region_held_drew (S := (fun w' : World => w'.cell? ⟨w11.heap.size, 0, none⟩ = some (.slice (some ⟨g, off, none⟩) ne ce) ∧ w'.cell? ⟨W.heap.size, 0, none⟩ = some (.slice (some ⟨g', off', none⟩) n0 c0) ∧ w'.cell? ⟨g, off + j, none⟩ = some (.slice x xm xd) ∧ w'.cell? ⟨g', off' + j, none⟩ = some (.slice y ym yd))) (by kernel_rfl) (⟨qe0, qs0, c0', d0'⟩) (fun hHeld => ?_)
              refine wpAnyH_takeL (i := 0) (v := ?_) rfl rfl (by kernel_rfl) (by kernel_rfl) (by kernel_rfl) (fun _ _ _ h => h) (Or.inl ⟨by rfl, ?_⟩) (by assumption) ?_
              rotate_left
              · intro w hSw
                try dsimp only at hSw
                go_simp
                all_goals with_reducible rfl
              simp only [List.set_cons_zero, List.set_cons_succ]
              refine wpAnyH_takeL (i := 1) (v := ?_) rfl rfl (by kernel_rfl) (by kernel_rfl) (by kernel_rfl) (fun _ _ _ h => h) (Or.inl ⟨by rfl, ?_⟩) (by assumption) ?_
              rotate_left
              · intro w hSw
                try dsimp only at hSw
                go_simp
                all_goals with_reducible rfl
              simp only [List.set_cons_zero, List.set_cons_succ]
              refine wpAnyH_takeL (i := 2) (v := ?_) rfl rfl (by kernel_rfl) (by kernel_rfl) (by kernel_rfl) (fun _ _ _ h => h) (Or.inl ⟨by rfl, ?_⟩) (by assumption) ?_
              rotate_left
              · intro w hSw
                try dsimp only at hSw
                go_simp
                all_goals with_reducible rfl
              simp only [List.set_cons_zero, List.set_cons_succ]
              refine wpAnyH_takeL (i := 3) (v := ?_) rfl rfl (by kernel_rfl) (by kernel_rfl) (by kernel_rfl) (fun _ _ _ h => h) (Or.inl ⟨by rfl, ?_⟩) (by assumption) ?_
              rotate_left
              · intro w hSw
                try dsimp only at hSw
                go_simp
                all_goals with_reducible rfl
              simp only [List.set_cons_zero, List.set_cons_succ]
              refine wpAnyH_takeL (i := 4) (v := ?_) rfl rfl (by kernel_rfl) (by kernel_rfl) (by kernel_rfl) (fun _ _ _ h => h) (Or.inl ⟨by rfl, ?_⟩) (by assumption) ?_
              rotate_left
              · intro w hSw
                try dsimp only at hSw
                go_simp
                all_goals with_reducible rfl
              simp only [List.set_cons_zero, List.set_cons_succ]
              refine wpAnyH_takeL (i := 5) (v := ?_) rfl rfl (by kernel_rfl) (by kernel_rfl) (by kernel_rfl) (fun _ _ _ h => h) (Or.inl ⟨by rfl, ?_⟩) (by assumption) ?_
              rotate_left
              · intro w hSw
                try dsimp only at hSw
                go_simp
                all_goals with_reducible rfl
              simp only [List.set_cons_zero, List.set_cons_succ]
              refine wpAnyH_takeL (i := 6) (v := ?_) rfl rfl (by kernel_rfl) (by kernel_rfl) (by kernel_rfl) (fun _ _ _ h => h) (Or.inl ⟨by rfl, ?_⟩) (by assumption) ?_
              rotate_left
              · intro w hSw
                try dsimp only at hSw
                go_simp
                all_goals with_reducible rfl
              simp only [List.set_cons_zero, List.set_cons_succ]
              refine wpAnyH_takeL (i := 7) (v := ?_) rfl rfl (by kernel_rfl) (by kernel_rfl) (by kernel_rfl) (fun _ _ _ h => h) (Or.inl ⟨by rfl, ?_⟩) (by assumption) ?_
              rotate_left
              · intro w hSw
                try dsimp only at hSw
                go_simp
                all_goals with_reducible rfl
              simp only [List.set_cons_zero, List.set_cons_succ]
              refine wpAnyH_takeL (i := 8) (v := ?_) rfl rfl (by kernel_rfl) (by kernel_rfl) (by kernel_rfl) (fun _ _ _ h => h) (Or.inl ⟨by rfl, ?_⟩) (by assumption) ?_
              rotate_left
              · intro w hSw
                try dsimp only at hSw
                go_simp
                all_goals with_reducible rfl
              simp only [List.set_cons_zero, List.set_cons_succ]
              refine wpAnyH_takeL (i := 9) (v := ?_) rfl rfl (by kernel_rfl) (by kernel_rfl) (by kernel_rfl) (fun _ _ _ h => h) (Or.inl ⟨by rfl, ?_⟩) (by assumption) ?_
              rotate_left
              · intro w hSw
                try dsimp only at hSw
                go_simp
                all_goals with_reducible rfl
              simp only [List.set_cons_zero, List.set_cons_succ]
              refine wpAnyH_takeL (i := 10) (v := ?_) rfl rfl (by kernel_rfl) (by kernel_rfl) (by kernel_rfl) (fun _ _ _ h => h) (Or.inl ⟨by rfl, ?_⟩) (by assumption) ?_
              rotate_left
              · intro w hSw
                try dsimp only at hSw
                go_simp
                all_goals with_reducible rfl
              simp only [List.set_cons_zero, List.set_cons_succ]
              refine wpAnyH_takeL (i := 11) (v := ?_) rfl rfl (by kernel_rfl) (by kernel_rfl) (by kernel_rfl) (fun _ _ _ h => h) (Or.inl ⟨by rfl, ?_⟩) (by assumption) ?_
              rotate_left
              · intro w hSw
                try dsimp only at hSw
                go_simp
                all_goals with_reducible rfl
              simp only [List.set_cons_zero, List.set_cons_succ]
              refine wpAnyH_takeL (i := 12) (v := ?_) rfl rfl (by kernel_rfl) (by kernel_rfl) (by kernel_rfl) (fun _ _ _ h => h) (Or.inl ⟨by rfl, ?_⟩) (by assumption) ?_
              rotate_left
              · intro w hSw
                try dsimp only at hSw
                go_simp
                all_goals with_reducible rfl
              simp only [List.set_cons_zero, List.set_cons_succ]
              refine wpAnyH_takeL (i := 13) (v := ?_) rfl rfl (by kernel_rfl) (by kernel_rfl) (by kernel_rfl) (fun _ _ _ h => h) (Or.inl ⟨by rfl, ?_⟩) (by assumption) ?_
              rotate_left
              · intro w hSw
                try dsimp only at hSw
                go_simp
                all_goals with_reducible rfl
              simp only [List.set_cons_zero, List.set_cons_succ]
              refine wpAnyH_ready (rs := [14]) (by kernel_rfl) (by simp) ?_
              refine AllReadyH.cons rfl (fun K hK => ?_) ?_
              · go_simp
                go_at_call 18
                have h1 : IsB w14.drew x xm X := HX.out
                have h2 : IsB w14.drew y ym X := HY.out
                refine (sameBytes_any _ x y xm xd ym yd X X h1 h2).mono ?_
                rintro e w' ⟨rfl, rfl⟩
                rw [beq_self_eq_true]
                clear h1 h2
                go_simp
                refine hK.out _ _ ?_ (fun hHeld => ?_)
                · try dsimp only
                  exact ⟨qe0, qs0, c0', d0'⟩
                clear hK K
                refine wpAnyH_takeL (i := 15) (v := ?_) rfl rfl (by kernel_rfl) (by kernel_rfl) (by kernel_rfl) (fun _ _ _ h => h) (Or.inl ⟨by rfl, ?_⟩) (by assumption) ?_
                rotate_left
                · intro w hSw
                  try dsimp only at hSw
                  go_simp
                  all_goals with_reducible rfl
                simp only [List.set_cons_zero, List.set_cons_succ]
                refine wpAnyH_takeL (i := 16) (v := ?_) rfl rfl (by kernel_rfl) (by kernel_rfl) (by kernel_rfl) (fun _ _ _ h => h) (Or.inl ⟨by rfl, ?_⟩) (by assumption) ?_
                rotate_left
                · intro w hSw
                  try dsimp only at hSw
                  go_simp
                  all_goals with_reducible rfl
                simp only [List.set_cons_zero, List.set_cons_succ]
                refine wpAnyH_takeL (i := 17) (v := ?_) rfl rfl (by kernel_rfl) (by kernel_rfl) (by kernel_rfl) (fun _ _ _ h => h) (Or.inl ⟨by rfl, ?_⟩) (by assumption) ?_
                rotate_left
                · intro w hSw
                  try dsimp only at hSw
                  go_simp
                  all_goals with_reducible rfl
                simp only [List.set_cons_zero, List.set_cons_succ]
                refine wpAnyH_takeL (i := 18) (v := ?_) rfl rfl (by kernel_rfl) (by kernel_rfl) (by kernel_rfl) (fun _ _ _ h => h) (Or.inl ⟨by rfl, ?_⟩) (by assumption) ?_
                rotate_left
                · intro w hSw
                  try dsimp only at hSw
                  go_simp
                  all_goals with_reducible rfl
                simp only [List.set_cons_zero, List.set_cons_succ]
                refine wpAnyH_takeL (i := 19) (v := ?_) rfl rfl (by kernel_rfl) (by kernel_rfl) (by kernel_rfl) (fun _ _ _ h => h) (Or.inl ⟨by rfl, ?_⟩) (by assumption) ?_
                rotate_left
                · intro w hSw
                  try dsimp only at hSw
                  go_simp
                  all_goals with_reducible rfl
                simp only [List.set_cons_zero, List.set_cons_succ]
                refine wpAnyH_takeL (i := 20) (v := ?_) rfl rfl (by kernel_rfl) (by kernel_rfl) (by kernel_rfl) (fun _ _ _ h => h) (Or.inl ⟨by rfl, ?_⟩) (by assumption) ?_
                rotate_left
                · intro w hSw
                  try dsimp only at hSw
                  go_simp
                  all_goals with_reducible rfl
                simp only [List.set_cons_zero, List.set_cons_succ]
                refine wpAnyH_takeL (i := 21) (v := ?_) rfl rfl (by kernel_rfl) (by kernel_rfl) (by kernel_rfl) (fun _ _ _ h => h) (Or.inl ⟨by rfl, ?_⟩) (by assumption) ?_
                rotate_left
                · intro w hSw
                  try dsimp only at hSw
                  go_simp
                  all_goals with_reducible rfl
                simp only [List.set_cons_zero, List.set_cons_succ]
                refine wpAnyH_passL (i := 22) rfl rfl (by kernel_rfl) (by kernel_rfl) (by kernel_rfl) (by rfl) (fun _ _ _ h => h) (by assumption) ?_
                simp only [List.set_cons_zero, List.set_cons_succ]
                refine wpAnyH_passL (i := 23) rfl rfl (by kernel_rfl) (by kernel_rfl) (by kernel_rfl) (by rfl) (fun _ _ _ h => h) (by assumption) ?_
                simp only [List.set_cons_zero, List.set_cons_succ]
                refine wpAnyH_passL (i := 24) rfl rfl (by kernel_rfl) (by kernel_rfl) (by kernel_rfl) (by rfl) (fun _ _ _ h => h) (by assumption) ?_
                simp only [List.set_cons_zero, List.set_cons_succ]
                refine wpAnyH_passL (i := 25) rfl rfl (by kernel_rfl) (by kernel_rfl) (by kernel_rfl) (by rfl) (fun _ _ _ h => h) (by assumption) ?_
                simp only [List.set_cons_zero, List.set_cons_succ]
                refine wpAnyH_passL (i := 26) rfl rfl (by kernel_rfl) (by kernel_rfl) (by kernel_rfl) (by rfl) (fun _ _ _ h => h) (by assumption) ?_
                simp only [List.set_cons_zero, List.set_cons_succ]
                refine wpAnyH_passL (i := 27) rfl rfl (by kernel_rfl) (by kernel_rfl) (by kernel_rfl) (by rfl) (fun _ _ _ h => h) (by assumption) ?_
                simp only [List.set_cons_zero, List.set_cons_succ]
                refine wpAnyH_passL (i := 28) rfl rfl (by kernel_rfl) (by kernel_rfl) (by kernel_rfl) (by rfl) (fun _ _ _ h => h) (by assumption) ?_
                simp only [List.set_cons_zero, List.set_cons_succ]
                refine wpAnyH_takeL (i := 29) (v := ?_) rfl rfl (by kernel_rfl) (by kernel_rfl) (by kernel_rfl) (fun _ _ _ h => h) (Or.inl ⟨by rfl, ?_⟩) (by assumption) ?_
                rotate_left
                · intro w hSw
                  try dsimp only at hSw
                  go_simp
                  all_goals with_reducible rfl
                simp only [List.set_cons_zero, List.set_cons_succ]
                refine wpAnyH_takeL (i := 30) (v := ?_) rfl rfl (by kernel_rfl) (by kernel_rfl) (by kernel_rfl) (fun _ _ _ h => h) (Or.inl ⟨by rfl, ?_⟩) (by assumption) ?_
                rotate_left
                · intro w hSw
                  try dsimp only at hSw
                  go_simp
                  all_goals with_reducible rfl
                simp only [List.set_cons_zero, List.set_cons_succ]
                refine wpAnyH_done (by kernel_rfl) ?_ _
                clear hHeld
                go_wp2
                go_roundw
                case rel => exact ⟨j + 1, by omega, by go_num, BL1.out.drew⟩
                case measure => simp [intOf]; omega
              exact AllReadyH.nil
            · have hX0 : X = [] := by rw [HEqv.out, if_neg hsz]
              obtain rfl : xm = 0 := by have h := HXl.out; rw [hX0] at h; exact h.symm
              clear HEqv hX0 HX HY HXl
              have e1 : decide ((j : Int) < size) = false := decide_eq_false hsz
              have e2 : decide (size ≤ (j : Int)) = true := decide_eq_true (by omega)
              go_wp2
              refine wp_region_held_drew (S := (fun w' : World => w'.cell? ⟨w11.heap.size, 0, none⟩ = some (.slice (some ⟨g, off, none⟩) ne ce) ∧ w'.cell? ⟨W.heap.size, 0, none⟩ = some (.slice (some ⟨g', off', none⟩) n0 c0) ∧ w'.cell? ⟨g, off + j, none⟩ = some (.slice x 0 xd) ∧ w'.cell? ⟨g', off' + j, none⟩ = some (.slice y ym yd))) (by kernel_rfl) (⟨qe0, qs0, c0', d0'⟩) (fun hHeld => ?_)
              refine wpAnyH_takeL (i := 0) (v := ?_) rfl rfl (by kernel_rfl) (by kernel_rfl) (by kernel_rfl) (fun _ _ _ h => h) (Or.inl ⟨by rfl, ?_⟩) (by assumption) ?_
              rotate_left
              · intro w hSw
                try dsimp only at hSw
                go_simp
                all_goals with_reducible rfl
              simp only [List.set_cons_zero, List.set_cons_succ]
              refine wpAnyH_takeL (i := 1) (v := ?_) rfl rfl (by kernel_rfl) (by kernel_rfl) (by kernel_rfl) (fun _ _ _ h => h) (Or.inl ⟨by rfl, ?_⟩) (by assumption) ?_
              rotate_left
              · intro w hSw
                try dsimp only at hSw
                go_simp
                all_goals with_reducible rfl
              simp only [List.set_cons_zero, List.set_cons_succ]
              refine wpAnyH_takeL (i := 2) (v := ?_) rfl rfl (by kernel_rfl) (by kernel_rfl) (by kernel_rfl) (fun _ _ _ h => h) (Or.inl ⟨by rfl, ?_⟩) (by assumption) ?_
              rotate_left
              · intro w hSw
                try dsimp only at hSw
                go_simp
                all_goals with_reducible rfl
              simp only [List.set_cons_zero, List.set_cons_succ]
              refine wpAnyH_takeL (i := 3) (v := ?_) rfl rfl (by kernel_rfl) (by kernel_rfl) (by kernel_rfl) (fun _ _ _ h => h) (Or.inl ⟨by rfl, ?_⟩) (by assumption) ?_
              rotate_left
              · intro w hSw
                try dsimp only at hSw
                go_simp
                all_goals with_reducible rfl
              simp only [List.set_cons_zero, List.set_cons_succ]
              refine wpAnyH_passL (i := 4) rfl rfl (by kernel_rfl) (by kernel_rfl) (by kernel_rfl) (by rfl) (fun _ _ _ h => h) (by assumption) ?_
              simp only [List.set_cons_zero, List.set_cons_succ]
              refine wpAnyH_passL (i := 5) rfl rfl (by kernel_rfl) (by kernel_rfl) (by kernel_rfl) (by rfl) (fun _ _ _ h => h) (by assumption) ?_
              simp only [List.set_cons_zero, List.set_cons_succ]
              refine wpAnyH_passL (i := 6) rfl rfl (by kernel_rfl) (by kernel_rfl) (by kernel_rfl) (by rfl) (fun _ _ _ h => h) (by assumption) ?_
              simp only [List.set_cons_zero, List.set_cons_succ]
              refine wpAnyH_passL (i := 7) rfl rfl (by kernel_rfl) (by kernel_rfl) (by kernel_rfl) (by rfl) (fun _ _ _ h => h) (by assumption) ?_
              simp only [List.set_cons_zero, List.set_cons_succ]
              refine wpAnyH_passL (i := 8) rfl rfl (by kernel_rfl) (by kernel_rfl) (by kernel_rfl) (by rfl) (fun _ _ _ h => h) (by assumption) ?_
              simp only [List.set_cons_zero, List.set_cons_succ]
              refine wpAnyH_passL (i := 9) rfl rfl (by kernel_rfl) (by kernel_rfl) (by kernel_rfl) (by rfl) (fun _ _ _ h => h) (by assumption) ?_
              simp only [List.set_cons_zero, List.set_cons_succ]
              refine wpAnyH_passL (i := 10) rfl rfl (by kernel_rfl) (by kernel_rfl) (by kernel_rfl) (by rfl) (fun _ _ _ h => h) (by assumption) ?_
              simp only [List.set_cons_zero, List.set_cons_succ]
              refine wpAnyH_passL (i := 11) rfl rfl (by kernel_rfl) (by kernel_rfl) (by kernel_rfl) (by rfl) (fun _ _ _ h => h) (by assumption) ?_
              simp only [List.set_cons_zero, List.set_cons_succ]
              refine wpAnyH_passL (i := 12) rfl rfl (by kernel_rfl) (by kernel_rfl) (by kernel_rfl) (by rfl) (fun _ _ _ h => h) (by assumption) ?_
              simp only [List.set_cons_zero, List.set_cons_succ]
              refine wpAnyH_passL (i := 13) rfl rfl (by kernel_rfl) (by kernel_rfl) (by kernel_rfl) (by rfl) (fun _ _ _ h => h) (by assumption) ?_
              simp only [List.set_cons_zero, List.set_cons_succ]
              refine wpAnyH_passL (i := 14) rfl rfl (by kernel_rfl) (by kernel_rfl) (by kernel_rfl) (by rfl) (fun _ _ _ h => h) (by assumption) ?_
              simp only [List.set_cons_zero, List.set_cons_succ]
              refine wpAnyH_passL (i := 15) rfl rfl (by kernel_rfl) (by kernel_rfl) (by kernel_rfl) (by rfl) (fun _ _ _ h => h) (by assumption) ?_
              simp only [List.set_cons_zero, List.set_cons_succ]
              refine wpAnyH_takeL (i := 16) (v := ?_) rfl rfl (by kernel_rfl) (by kernel_rfl) (by kernel_rfl) (fun _ _ _ h => h) (Or.inl ⟨by rfl, ?_⟩) (by assumption) ?_
              rotate_left
              · intro w hSw
                try dsimp only at hSw
                go_simp
                all_goals with_reducible rfl
              simp only [List.set_cons_zero, List.set_cons_succ]
              refine wpAnyH_takeL (i := 17) (v := ?_) rfl rfl (by kernel_rfl) (by kernel_rfl) (by kernel_rfl) (fun _ _ _ h => h) (Or.inl ⟨by rfl, ?_⟩) (by assumption) ?_
              rotate_left
              · intro w hSw
                try dsimp only at hSw
                go_simp
                all_goals with_reducible rfl
              simp only [List.set_cons_zero, List.set_cons_succ]
              refine wpAnyH_takeL (i := 18) (v := ?_) rfl rfl (by kernel_rfl) (by kernel_rfl) (by kernel_rfl) (fun _ _ _ h => h) (Or.inl ⟨by rfl, ?_⟩) (by assumption) ?_
              rotate_left
              · intro w hSw
                try dsimp only at hSw
                go_simp
                all_goals with_reducible rfl
              simp only [List.set_cons_zero, List.set_cons_succ]
              refine wpAnyH_takeL (i := 19) (v := ?_) rfl rfl (by kernel_rfl) (by kernel_rfl) (by kernel_rfl) (fun _ _ _ h => h) (Or.inl ⟨by rfl, ?_⟩) (by assumption) ?_
              rotate_left
              · intro w hSw
                try dsimp only at hSw
                go_simp
                all_goals with_reducible rfl
              simp only [List.set_cons_zero, List.set_cons_succ]
              refine wpAnyH_takeL (i := 20) (v := ?_) rfl rfl (by kernel_rfl) (by kernel_rfl) (by kernel_rfl) (fun _ _ _ h => h) (Or.inl ⟨by rfl, ?_⟩) (by assumption) ?_
              rotate_left
              · intro w hSw
                try dsimp only at hSw
                go_simp
                all_goals with_reducible rfl
              simp only [List.set_cons_zero, List.set_cons_succ]
              refine wpAnyH_takeL (i := 21) (v := ?_) rfl rfl (by kernel_rfl) (by kernel_rfl) (by kernel_rfl) (fun _ _ _ h => h) (Or.inl ⟨by rfl, ?_⟩) (by assumption) ?_
              rotate_left
              · intro w hSw
                try dsimp only at hSw
                go_simp
                all_goals with_reducible rfl
              simp only [List.set_cons_zero, List.set_cons_succ]
              refine wpAnyH_takeL (i := 22) (v := ?_) rfl rfl (by kernel_rfl) (by kernel_rfl) (by kernel_rfl) (fun _ _ _ h => h) (Or.inl ⟨by rfl, ?_⟩) (by assumption) ?_
              rotate_left
              · intro w hSw
                try dsimp only at hSw
                go_simp
                all_goals with_reducible rfl
              simp only [List.set_cons_zero, List.set_cons_succ]
              refine wpAnyH_takeL (i := 23) (v := ?_) rfl rfl (by kernel_rfl) (by kernel_rfl) (by kernel_rfl) (fun _ _ _ h => h) (Or.inl ⟨by rfl, ?_⟩) (by assumption) ?_
              rotate_left
              · intro w hSw
                try dsimp only at hSw
                go_simp
                all_goals with_reducible rfl
              simp only [List.set_cons_zero, List.set_cons_succ]
              refine wpAnyH_takeL (i := 24) (v := ?_) rfl rfl (by kernel_rfl) (by kernel_rfl) (by kernel_rfl) (fun _ _ _ h => h) (Or.inl ⟨by rfl, ?_⟩) (by assumption) ?_
              rotate_left
              · intro w hSw
                try dsimp only at hSw
                go_simp
                all_goals with_reducible rfl
              simp only [List.set_cons_zero, List.set_cons_succ]
              refine wpAnyH_takeL (i := 25) (v := ?_) rfl rfl (by kernel_rfl) (by kernel_rfl) (by kernel_rfl) (fun _ _ _ h => h) (Or.inl ⟨by rfl, ?_⟩) (by assumption) ?_
              rotate_left
              · intro w hSw
                try dsimp only at hSw
                go_simp
                all_goals with_reducible rfl
              simp only [List.set_cons_zero, List.set_cons_succ]
              refine wpAnyH_takeL (i := 26) (v := ?_) rfl rfl (by kernel_rfl) (by kernel_rfl) (by kernel_rfl) (fun _ _ _ h => h) (Or.inl ⟨by rfl, ?_⟩) (by assumption) ?_
              rotate_left
              · intro w hSw
                try dsimp only at hSw
                go_simp
                all_goals with_reducible rfl
              simp only [List.set_cons_zero, List.set_cons_succ]
              refine wpAnyH_takeL (i := 27) (v := ?_) rfl rfl (by kernel_rfl) (by kernel_rfl) (by kernel_rfl) (fun _ _ _ h => h) (Or.inl ⟨by rfl, ?_⟩) (by assumption) ?_
              rotate_left
              · intro w hSw
                try dsimp only at hSw
                go_simp
                all_goals with_reducible rfl
              simp only [List.set_cons_zero, List.set_cons_succ]
              refine wpAnyH_takeL (i := 28) (v := ?_) rfl rfl (by kernel_rfl) (by kernel_rfl) (by kernel_rfl) (fun _ _ _ h => h) (Or.inl ⟨by rfl, ?_⟩) (by assumption) ?_
              rotate_left
              · intro w hSw
                try dsimp only at hSw
                go_simp
                all_goals with_reducible rfl
              simp only [List.set_cons_zero, List.set_cons_succ]
              refine wpAnyH_takeL (i := 29) (v := ?_) rfl rfl (by kernel_rfl) (by kernel_rfl) (by kernel_rfl) (fun _ _ _ h => h) (Or.inl ⟨by rfl, ?_⟩) (by assumption) ?_
              rotate_left
              · intro w hSw
                try dsimp only at hSw
                go_simp
                all_goals with_reducible rfl
              simp only [List.set_cons_zero, List.set_cons_succ]
              refine wpAnyH_takeL (i := 30) (v := ?_) rfl rfl (by kernel_rfl) (by kernel_rfl) (by kernel_rfl) (fun _ _ _ h => h) (Or.inl ⟨by rfl, ?_⟩) (by assumption) ?_
              rotate_left
              · intro w hSw
                try dsimp only at hSw
                go_simp
                all_goals with_reducible rfl
              simp only [List.set_cons_zero, List.set_cons_succ]
              refine wpAnyH_done (by kernel_rfl) ?_ _
              clear hHeld
              go_wp2
              go_roundw
              case rel => exact ⟨j + 1, by omega, by go_num, BL1.out.drew⟩
              case measure => simp [intOf]; omega
          · obtain rfl : n0 = j := by omega
            go_wp2_with (go_at_call 15; refine (num10_u _ _).mono ?_; rintro e w99 ⟨rfl, rfl⟩)
            go_ret
            exact ⟨rfl, B_14.out⟩
  case pos =>
    have HDr := Mo.drops (s := s) (a := at') (n := N) (by rw [← HEr.out]; exact hE)
    obtain ⟨k1, k2, k3, k4, k5, k6, k7⟩ := HDr
    rw [HNs.out] at k4 k5 k6
    have HAt : Hid (0 ≤ at' ∧ 0 ≤ N ∧ N ≤ 64 ∧ at' + N ≤ n0 ∧ n0 ≤ 65536) := ⟨k1, k2, k3, k4, k5⟩
    have HLa : Hid _ := k6
    have HAll : Hid _ := k7
    obtain ⟨A, hA⟩ : ∃ A : Nat, at' = (A : Int) := ⟨at'.toNat, by omega⟩
    obtain ⟨M, hM⟩ : ∃ M : Nat, N = (M : Int) := ⟨N.toNat, by omega⟩
    have HAA : Hid _ := hA
    have HMM : Hid _ := hM
    clear k1 k2 k3 k4 k5 k6 k7 hA hM
    obtain rfl := hE
    clear HEr
    have hat0 : 0 ≤ at' := HAt.out.1
    have hN0 : 0 ≤ N := HAt.out.2.1
    have hN1 : N ≤ 64 := HAt.out.2.2.1
    have hatk : at' + N ≤ n0 := HAt.out.2.2.2.1
    have hn6 : n0 ≤ 65536 := HAt.out.2.2.2.2
    go_wp2_with (go_at_call 15; refine (num10_u _ _).mono ?_; rintro e w99 ⟨rfl, rfl⟩)
    clear p5_0 r5_0 p5_1 r5_1 p5_2 r5_2 s5_0 u5_0 s5_1 u5_1 s5_2 u5_2 s5_3 u5_3 s5_4 u5_4 hA5 hB5 hX5 hY5 qr0 qr1 qr2 qr3 qr4
    have HNa : Hid (na = n0) := (sta_parts Da_5.out).2.2.1.symm.trans HLa.out
    go_loopw [11] (fun i wr => ∃ j : Nat, A ≤ j ∧ j ≤ A + M ∧ i = .int .i64 j ∧ Below w5.heap.size w5 wr) (fun i _ => A + M - (intOf i).toNat)
    case atStart => exact ⟨A, Nat.le_refl _, by omega, by rw [HAA.out], Below.refl _ _⟩
    case round =>
      obtain ⟨j, hj1, hj2, rfl, belo⟩ := hrel
      obtain ⟨w15, hw15⟩ : ∃ v, v = wr := ⟨_, rfl⟩
      subst hw15
      have Rs_15 : Hid (Row w15 (W.heap.size) 25 [.slice a0 n0 c0, .slice b0 m0 d0, .int .i64 t0]) := Rs_5.out.below (belo)
      have Ds_15 : Hid (rSta.rd w15 (fun b => b < W.heap.size) [.slice a0 n0 c0, .slice b0 m0 d0, .int .i64 t0] (s)) := Rep.below Ds_5.out (belo)
      have Dv_15 : Hid (rSta.rd w15 (fun b => w2.heap.size ≤ b) [.slice av n0 cv, .slice bv m0 dv, .int .i64 t0] (s)) := Rep.below Dv_5.out (belo)
      have Da_15 : Hid (rSta.rd w15 (fun b => w3.heap.size ≤ b ∧ b < w4.heap.size) [.slice aa na ca, .slice ba ma da, .int .i64 ta] (Mo.doS s (Mo.cOp at' N))) := Rep.below Da_5.out (belo)
      have Yr_15 : Hid (rBytes.rd w15 (fun b => w3.heap.size ≤ b) [.slice xr yr zr] ((Mo.doR s (Mo.cOp at' N)).2.1)) := Rep.below Yr_5.out (belo)
      have Nr_15 : Hid (rNmds.rd w15 (fun b => w3.heap.size ≤ b) [.slice fr gr hr] ((Mo.doR s (Mo.cOp at' N)).2.2.2.1)) := Rep.below Nr_5.out (belo)
      have Ra_15 : Hid (Row w15 (w4.heap.size) 31 [.slice aa na ca, .slice ba ma da, .int .i64 ta]) := Ra_5.out.below (belo)
      have Rr_15 : Hid (Row w15 (wA5.heap.size) 38 [.int .i64 0, .slice xr yr zr, .int .i64 Ir, .slice fr gr hr, .int .i64 Zr]) := Rr_5.out.below (belo)
      have B_15 : Hid (Below W.heap.size W w15) := on B_5.out (belo)
      clear Rs_5 Ds_5 Dv_5 Da_5 Yr_5 Nr_5 Ra_5 Rr_5
      have BL0 : Hid (Below w5.heap.size w5 w15) := belo
      clear belo
      have hAA : at' = (A : Int) := HAA.out
      have hMM : N = (M : Int) := HMM.out
      by_cases hjn : j < A + M
      · skip
        have qa0 := Ra_15.out.cell (j := 0) rfl
        have qa1 := Ra_15.out.cell (j := 1) rfl
        have qa2 := Ra_15.out.cell (j := 2) rfl
        have hjz : (j : Int) < at' + N := by omega
        obtain ⟨HPa, -, hla, -, -⟩ := sta_parts Da_15.out
        have hja : j < (Mo.doS s (Mo.cOp at' N)).1.length := by rw [HLa.out]; omega
        have hjna : (j : Int) < (na : Int) := by rw [HNa.out]; omega
        obtain ⟨g, off, rfl, -, -, hat⟩ := rLists_at HPa (by omega)
        obtain ⟨x, xm, xd, hx, hxl, c0'⟩ := hat j hja
        obtain rfl : xm = 0 := by rw [HAll.out j hja (by omega) (by omega)] at hxl; exact hxl.symm
        clear hat hx hxl hla HPa hja
        go_wp2
        go_roundw
        case rel => exact ⟨j + 1, by omega, by omega, by go_num, BL0.out⟩
        case measure => simp [intOf]; omega
      · have hjz : ¬ (j : Int) < at' + N := by omega
        have hcase : Mo.ok s = false ∨ Mo.ok s = true := by
          by_cases h : Mo.ok s = true
          · exact .inr h
          · exact .inl (Bool.eq_false_iff.2 h)
        rcases hcase with hok | hok
        · have HK : Hid (Mo.checkE s = 9) := Mo.checkE_nine hok
          clear hok
          have qs0 := Rs_15.out.cell (j := 0) rfl
          have qs1 := Rs_15.out.cell (j := 1) rfl
          have qs2 := Rs_15.out.cell (j := 2) rfl
          go_wp2_with (go_at_call 15; refine (num10_u _ _).mono ?_; rintro e w99 ⟨rfl, rfl⟩)
          go_at_call 17
          refine Calls.mono (docCheck_v w15 _ a0 b0 n0 c0 m0 d0 t0 s Ds_15.out) ?_
          rintro e w16 ⟨rfl, b16⟩
          rw [HK.out]
          have Rs_16 : Hid (Row w16 (W.heap.size) 25 [.slice a0 n0 c0, .slice b0 m0 d0, .int .i64 t0]) := Rs_15.out.below (b16)
          have Ds_16 : Hid (rSta.rd w16 (fun b => b < W.heap.size) [.slice a0 n0 c0, .slice b0 m0 d0, .int .i64 t0] (s)) := Rep.below Ds_15.out (b16)
          have Dv_16 : Hid (rSta.rd w16 (fun b => w2.heap.size ≤ b) [.slice av n0 cv, .slice bv m0 dv, .int .i64 t0] (s)) := Rep.below Dv_15.out (b16)
          have Da_16 : Hid (rSta.rd w16 (fun b => w3.heap.size ≤ b ∧ b < w4.heap.size) [.slice aa na ca, .slice ba ma da, .int .i64 ta] (Mo.doS s (Mo.cOp at' N))) := Rep.below Da_15.out (b16)
          have Yr_16 : Hid (rBytes.rd w16 (fun b => w3.heap.size ≤ b) [.slice xr yr zr] ((Mo.doR s (Mo.cOp at' N)).2.1)) := Rep.below Yr_15.out (b16)
          have Nr_16 : Hid (rNmds.rd w16 (fun b => w3.heap.size ≤ b) [.slice fr gr hr] ((Mo.doR s (Mo.cOp at' N)).2.2.2.1)) := Rep.below Nr_15.out (b16)
          have Ra_16 : Hid (Row w16 (w4.heap.size) 31 [.slice aa na ca, .slice ba ma da, .int .i64 ta]) := Ra_15.out.below (b16)
          have Rr_16 : Hid (Row w16 (wA5.heap.size) 38 [.int .i64 0, .slice xr yr zr, .int .i64 Ir, .slice fr gr hr, .int .i64 Zr]) := Rr_15.out.below (b16)
          have B_16 : Hid (Below W.heap.size W w16) := on B_15.out (b16)
          clear qs0 qs1 qs2
          clear Rs_15 Ds_15 Dv_15 Da_15 Yr_15 Nr_15 Ra_15 Rr_15
          go_wp2_with (go_at_call 15; refine (num10_u _ _).mono ?_; rintro e w99 ⟨rfl, rfl⟩)
          go_ret
          exact ⟨rfl, B_16.out⟩
        · have HK : Hid (Mo.checkE s = 0) := Mo.checkE_zero.2 hok
          have HOk : Hid _ := hok
          clear hok
          have qs0 := Rs_15.out.cell (j := 0) rfl
          have qs1 := Rs_15.out.cell (j := 1) rfl
          have qs2 := Rs_15.out.cell (j := 2) rfl
          go_wp2_with (go_at_call 15; refine (num10_u _ _).mono ?_; rintro e w99 ⟨rfl, rfl⟩)
          go_at_call 17
          refine Calls.mono (docCheck_v w15 _ a0 b0 n0 c0 m0 d0 t0 s Ds_15.out) ?_
          rintro e w17 ⟨rfl, b17⟩
          rw [HK.out]
          have Rs_17 : Hid (Row w17 (W.heap.size) 25 [.slice a0 n0 c0, .slice b0 m0 d0, .int .i64 t0]) := Rs_15.out.below (b17)
          have Ds_17 : Hid (rSta.rd w17 (fun b => b < W.heap.size) [.slice a0 n0 c0, .slice b0 m0 d0, .int .i64 t0] (s)) := Rep.below Ds_15.out (b17)
          have Dv_17 : Hid (rSta.rd w17 (fun b => w2.heap.size ≤ b) [.slice av n0 cv, .slice bv m0 dv, .int .i64 t0] (s)) := Rep.below Dv_15.out (b17)
          have Da_17 : Hid (rSta.rd w17 (fun b => w3.heap.size ≤ b ∧ b < w4.heap.size) [.slice aa na ca, .slice ba ma da, .int .i64 ta] (Mo.doS s (Mo.cOp at' N))) := Rep.below Da_15.out (b17)
          have Yr_17 : Hid (rBytes.rd w17 (fun b => w3.heap.size ≤ b) [.slice xr yr zr] ((Mo.doR s (Mo.cOp at' N)).2.1)) := Rep.below Yr_15.out (b17)
          have Nr_17 : Hid (rNmds.rd w17 (fun b => w3.heap.size ≤ b) [.slice fr gr hr] ((Mo.doR s (Mo.cOp at' N)).2.2.2.1)) := Rep.below Nr_15.out (b17)
          have Ra_17 : Hid (Row w17 (w4.heap.size) 31 [.slice aa na ca, .slice ba ma da, .int .i64 ta]) := Ra_15.out.below (b17)
          have Rr_17 : Hid (Row w17 (wA5.heap.size) 38 [.int .i64 0, .slice xr yr zr, .int .i64 Ir, .slice fr gr hr, .int .i64 Zr]) := Rr_15.out.below (b17)
          have B_17 : Hid (Below W.heap.size W w17) := on B_15.out (b17)
          clear qs0 qs1 qs2
          clear Rs_15 Ds_15 Dv_15 Da_15 Yr_15 Nr_15 Ra_15 Rr_15
          have hc3 : size < 0 ∨ (¬ size < 0 ∧ 3000 < size) ∨ (¬ size < 0 ∧ ¬ 3000 < size) := by omega
          rcases hc3 with h1 | ⟨h1, h2⟩ | ⟨h1, h2⟩
          · skip
            go_wp2_with (go_at_call 15; refine (num10_u _ _).mono ?_; rintro e w99 ⟨rfl, rfl⟩)
            go_ret
            exact ⟨rfl, B_17.out⟩
          · skip
            go_wp2_with (go_at_call 15; refine (num10_u _ _).mono ?_; rintro e w99 ⟨rfl, rfl⟩)
            go_ret
            exact ⟨rfl, B_17.out⟩
          · skip
            have qs0 := Rs_17.out.cell (j := 0) rfl
            have qs1 := Rs_17.out.cell (j := 1) rfl
            have qs2 := Rs_17.out.cell (j := 2) rfl
            have hsz := Mo.sizes_back (s := s) HOk.out (n := size) (by omega) (by omega)
            obtain ⟨k1, k2, k3, k4, k5, k6⟩ := hsz
            have k6' : ∀ m : Nat, s.1.length = m → ∀ (i : Nat) (hi : i < s.1.length) (hi' : i < (Mo.doS (Mo.doS s (Mo.zOp size)) (Mo.zOp (m : Int))).1.length), (Mo.doS (Mo.doS s (Mo.zOp size)) (Mo.zOp (m : Int))).1[i] = if (i : Int) < size then s.1[i] else [] := fun m hm => by subst hm; exact k6
            rw [HNs.out] at k3 k4 k5
            have HSz : Hid (0 ≤ size ∧ size ≤ 3000) := ⟨by omega, by omega⟩
            have HF1 : Hid _ := k1
            have HF2 : Hid _ := k2
            have HF3 : Hid _ := k3
            have HF4 : Hid _ := k4
            have HF5 : Hid (n0 ≤ 65536) := k5
            have HF6 : Hid _ := k6' n0 HNs.out
            clear k1 k2 k3 k4 k5 k6 k6'
            go_wp2_with (go_at_call 15; refine (num10_u _ _).mono ?_; rintro e w99 ⟨rfl, rfl⟩)
            go_at_call 9
            refine Calls.mono (ofV w17 _ a0 b0 n0 c0 m0 d0 t0 s Ds_17.out) ?_
            rintro e w18 ⟨au, cu, bu, du, rfl, h18, b18⟩
            have Du_18 : Hid (rSta.rd w18 (fun b => w17.heap.size ≤ b) [.slice au n0 cu, .slice bu m0 du, .int .i64 t0] (s)) := staF_sta h18
            have Rs_18 : Hid (Row w18 (W.heap.size) 25 [.slice a0 n0 c0, .slice b0 m0 d0, .int .i64 t0]) := Rs_17.out.below (b18)
            have Ds_18 : Hid (rSta.rd w18 (fun b => b < W.heap.size) [.slice a0 n0 c0, .slice b0 m0 d0, .int .i64 t0] (s)) := Rep.below Ds_17.out (b18)
            have Dv_18 : Hid (rSta.rd w18 (fun b => w2.heap.size ≤ b) [.slice av n0 cv, .slice bv m0 dv, .int .i64 t0] (s)) := Rep.below Dv_17.out (b18)
            have Da_18 : Hid (rSta.rd w18 (fun b => w3.heap.size ≤ b ∧ b < w4.heap.size) [.slice aa na ca, .slice ba ma da, .int .i64 ta] (Mo.doS s (Mo.cOp at' N))) := Rep.below Da_17.out (b18)
            have Yr_18 : Hid (rBytes.rd w18 (fun b => w3.heap.size ≤ b) [.slice xr yr zr] ((Mo.doR s (Mo.cOp at' N)).2.1)) := Rep.below Yr_17.out (b18)
            have Nr_18 : Hid (rNmds.rd w18 (fun b => w3.heap.size ≤ b) [.slice fr gr hr] ((Mo.doR s (Mo.cOp at' N)).2.2.2.1)) := Rep.below Nr_17.out (b18)
            have Ra_18 : Hid (Row w18 (w4.heap.size) 31 [.slice aa na ca, .slice ba ma da, .int .i64 ta]) := Ra_17.out.below (b18)
            have Rr_18 : Hid (Row w18 (wA5.heap.size) 38 [.int .i64 0, .slice xr yr zr, .int .i64 Ir, .slice fr gr hr, .int .i64 Zr]) := Rr_17.out.below (b18)
            have B_18 : Hid (Below W.heap.size W w18) := on B_17.out (b18)
            clear qs0 qs1 qs2
            clear Rs_17 Ds_17 Dv_17 Da_17 Yr_17 Nr_17 Ra_17 Rr_17
            clear h18 b18
            go_wp2_with (go_at_call 15; refine (num10_u _ _).mono ?_; rintro e w99 ⟨rfl, rfl⟩)
            go_at_call 11
            refine Calls.mono (do_v w18 _ au bu n0 cu m0 du t0 s Du_18.out 8 0 size 0 Mo.noName [] none 0 0 (by unfold I64; decide) (by unfold I64; decide) HC.out (by unfold I64; decide) (by decide) (P' := fun _ => True) (rBytes_none _ _ _ _ (fun _ => rfl))) ?_
            rintro e w19 ⟨ab, nb, cb, bb, mb, db, tb, xp, yp, zp, fp, gp, hp, rfl, hd19, hy19, hn19, bb19⟩
            obtain ⟨Ep, hEp⟩ : ∃ z, z = (Mo.doR s (Mo.zOp size)).1 := ⟨_, rfl⟩
            obtain ⟨Ip, hIp⟩ : ∃ z, z = (Mo.doR s (Mo.zOp size)).2.2.1 := ⟨_, rfl⟩
            obtain ⟨Zp, hZp⟩ : ∃ z, z = (Mo.doR s (Mo.zOp size)).2.2.2.2 := ⟨_, rfl⟩
            rw [← hEp, ← hIp, ← hZp]
            have HEp : Hid _ := hEp
            have HIp : Hid _ := hIp
            have HZp : Hid _ := hZp
            clear hEp hIp hZp
            have Db_19 : Hid (rSta.rd w19 (fun b => w18.heap.size ≤ b ∧ b < w19.heap.size) [.slice ab nb cb, .slice bb mb db, .int .i64 tb] (Mo.doS s (Mo.zOp size))) := rSta.weaken hd19 (fun q hq hl => ⟨hq, hl⟩)
            have Yp_19 : Hid (rBytes.rd w19 (fun b => w18.heap.size ≤ b) [.slice xp yp zp] ((Mo.doR s (Mo.zOp size)).2.1)) := hy19
            have Np_19 : Hid (rNmds.rd w19 (fun b => w18.heap.size ≤ b) [.slice fp gp hp] ((Mo.doR s (Mo.zOp size)).2.2.2.1)) := hn19
            have Rs_19 : Hid (Row w19 (W.heap.size) 25 [.slice a0 n0 c0, .slice b0 m0 d0, .int .i64 t0]) := Rs_18.out.below (bb19)
            have Ds_19 : Hid (rSta.rd w19 (fun b => b < W.heap.size) [.slice a0 n0 c0, .slice b0 m0 d0, .int .i64 t0] (s)) := Rep.below Ds_18.out (bb19)
            have Dv_19 : Hid (rSta.rd w19 (fun b => w2.heap.size ≤ b) [.slice av n0 cv, .slice bv m0 dv, .int .i64 t0] (s)) := Rep.below Dv_18.out (bb19)
            have Da_19 : Hid (rSta.rd w19 (fun b => w3.heap.size ≤ b ∧ b < w4.heap.size) [.slice aa na ca, .slice ba ma da, .int .i64 ta] (Mo.doS s (Mo.cOp at' N))) := Rep.below Da_18.out (bb19)
            have Yr_19 : Hid (rBytes.rd w19 (fun b => w3.heap.size ≤ b) [.slice xr yr zr] ((Mo.doR s (Mo.cOp at' N)).2.1)) := Rep.below Yr_18.out (bb19)
            have Nr_19 : Hid (rNmds.rd w19 (fun b => w3.heap.size ≤ b) [.slice fr gr hr] ((Mo.doR s (Mo.cOp at' N)).2.2.2.1)) := Rep.below Nr_18.out (bb19)
            have Ra_19 : Hid (Row w19 (w4.heap.size) 31 [.slice aa na ca, .slice ba ma da, .int .i64 ta]) := Ra_18.out.below (bb19)
            have Rr_19 : Hid (Row w19 (wA5.heap.size) 38 [.int .i64 0, .slice xr yr zr, .int .i64 Ir, .slice fr gr hr, .int .i64 Zr]) := Rr_18.out.below (bb19)
            have Du_19 : Hid (rSta.rd w19 (fun b => w17.heap.size ≤ b) [.slice au n0 cu, .slice bu m0 du, .int .i64 t0] (s)) := Rep.below Du_18.out (bb19)
            have B_19 : Hid (Below W.heap.size W w19) := on B_18.out (bb19)
            clear Rs_18 Ds_18 Dv_18 Da_18 Yr_18 Nr_18 Ra_18 Rr_18 Du_18
            have HLT19 : Hid (W.heap.size < w19.heap.size) := Rs_19.out.lt
            clear hd19 hy19 hn19 bb19
            obtain ⟨wA20, wB20, wX20, w20, hA20, hB20, va, hX20, vr, hY20, vs, vt, k20, hl20⟩ := fresh2 w19 (.slice ab nb cb) (.slice bb mb db) (.int .i64 tb) (.int .i64 Ep) (.slice xp yp zp) (.int .i64 Ip) (.slice fp gp hp) (.int .i64 Zp)
            have Rb_20 : Hid (Row w20 (w19.heap.size) 31 [.slice ab nb cb, .slice bb mb db, .int .i64 tb]) := vs
            have Rp_20 : Hid (Row w20 (wA20.heap.size) 38 [.int .i64 Ep, .slice xp yp zp, .int .i64 Ip, .slice fp gp hp, .int .i64 Zp]) := vt
            have Rs_20 : Hid (Row w20 (W.heap.size) 25 [.slice a0 n0 c0, .slice b0 m0 d0, .int .i64 t0]) := Rs_19.out.below (k20)
            have Ds_20 : Hid (rSta.rd w20 (fun b => b < W.heap.size) [.slice a0 n0 c0, .slice b0 m0 d0, .int .i64 t0] (s)) := Rep.below Ds_19.out (k20)
            have Dv_20 : Hid (rSta.rd w20 (fun b => w2.heap.size ≤ b) [.slice av n0 cv, .slice bv m0 dv, .int .i64 t0] (s)) := Rep.below Dv_19.out (k20)
            have Da_20 : Hid (rSta.rd w20 (fun b => w3.heap.size ≤ b ∧ b < w4.heap.size) [.slice aa na ca, .slice ba ma da, .int .i64 ta] (Mo.doS s (Mo.cOp at' N))) := Rep.below Da_19.out (k20)
            have Yr_20 : Hid (rBytes.rd w20 (fun b => w3.heap.size ≤ b) [.slice xr yr zr] ((Mo.doR s (Mo.cOp at' N)).2.1)) := Rep.below Yr_19.out (k20)
            have Nr_20 : Hid (rNmds.rd w20 (fun b => w3.heap.size ≤ b) [.slice fr gr hr] ((Mo.doR s (Mo.cOp at' N)).2.2.2.1)) := Rep.below Nr_19.out (k20)
            have Ra_20 : Hid (Row w20 (w4.heap.size) 31 [.slice aa na ca, .slice ba ma da, .int .i64 ta]) := Ra_19.out.below (k20)
            have Rr_20 : Hid (Row w20 (wA5.heap.size) 38 [.int .i64 0, .slice xr yr zr, .int .i64 Ir, .slice fr gr hr, .int .i64 Zr]) := Rr_19.out.below (k20)
            have Du_20 : Hid (rSta.rd w20 (fun b => w17.heap.size ≤ b) [.slice au n0 cu, .slice bu m0 du, .int .i64 t0] (s)) := Rep.below Du_19.out (k20)
            have Db_20 : Hid (rSta.rd w20 (fun b => w18.heap.size ≤ b ∧ b < w19.heap.size) [.slice ab nb cb, .slice bb mb db, .int .i64 tb] (Mo.doS s (Mo.zOp size))) := Rep.below Db_19.out (k20)
            have Yp_20 : Hid (rBytes.rd w20 (fun b => w18.heap.size ≤ b) [.slice xp yp zp] ((Mo.doR s (Mo.zOp size)).2.1)) := Rep.below Yp_19.out (k20)
            have Np_20 : Hid (rNmds.rd w20 (fun b => w18.heap.size ≤ b) [.slice fp gp hp] ((Mo.doR s (Mo.zOp size)).2.2.2.1)) := Rep.below Np_19.out (k20)
            have B_20 : Hid (Below W.heap.size W w20) := on B_19.out (k20)
            clear Rs_19 Ds_19 Dv_19 Da_19 Yr_19 Nr_19 Ra_19 Rr_19 Du_19 Db_19 Yp_19 Np_19
            have p20_0 := va.cell (j := 0) rfl
            have r20_0 := va.frozen 0
            have p20_1 := va.cell (j := 1) rfl
            have r20_1 := va.frozen 1
            have p20_2 := va.cell (j := 2) rfl
            have r20_2 := va.frozen 2
            have s20_0 := vr.cell (j := 0) rfl
            have u20_0 := vr.frozen 0
            have s20_1 := vr.cell (j := 1) rfl
            have u20_1 := vr.frozen 1
            have s20_2 := vr.cell (j := 2) rfl
            have u20_2 := vr.frozen 2
            have s20_3 := vr.cell (j := 3) rfl
            have u20_3 := vr.frozen 3
            have s20_4 := vr.cell (j := 4) rfl
            have u20_4 := vr.frozen 4
            have HL20 : Hid _ := hl20
            clear va vr vs vt k20 hl20
            obtain rfl := HEp.out.trans HF1.out
            have hn6 : n0 ≤ 65536 := HF5.out
            have qb0 := Rb_20.out.cell (j := 0) rfl
            have qb1 := Rb_20.out.cell (j := 1) rfl
            have qb2 := Rb_20.out.cell (j := 2) rfl
            have qs0 := Rs_20.out.cell (j := 0) rfl
            have qs1 := Rs_20.out.cell (j := 1) rfl
            have qs2 := Rs_20.out.cell (j := 2) rfl
            go_wp2_with (go_at_call 15; refine (num10_u _ _).mono ?_; rintro e w99 ⟨rfl, rfl⟩)
            go_at_call 11
            refine Calls.mono (do_v w20 _ ab bb nb cb mb db tb (Mo.doS s (Mo.zOp size)) Db_20.out 8 0 (n0 : Int) 0 Mo.noName [] none 0 0 (by unfold I64; decide) (by unfold I64; decide) (by have h := HF5.out; unfold Hid at h; unfold I64; omega) (by unfold I64; decide) (by decide) (P' := fun _ => True) (rBytes_none _ _ _ _ (fun _ => rfl))) ?_
            rintro e w21 ⟨ae, ne, ce, be, me, de, te, xq, yq, zq, fq, gq, hq, rfl, hd21, hy21, hn21, bb21⟩
            obtain ⟨Eq, hEq⟩ : ∃ z, z = (Mo.doR (Mo.doS s (Mo.zOp size)) (Mo.zOp (n0 : Int))).1 := ⟨_, rfl⟩
            obtain ⟨Iq, hIq⟩ : ∃ z, z = (Mo.doR (Mo.doS s (Mo.zOp size)) (Mo.zOp (n0 : Int))).2.2.1 := ⟨_, rfl⟩
            obtain ⟨Zq, hZq⟩ : ∃ z, z = (Mo.doR (Mo.doS s (Mo.zOp size)) (Mo.zOp (n0 : Int))).2.2.2.2 := ⟨_, rfl⟩
            rw [← hEq, ← hIq, ← hZq]
            have HEq : Hid _ := hEq
            have HIq : Hid _ := hIq
            have HZq : Hid _ := hZq
            clear hEq hIq hZq
            have De_21 : Hid (rSta.rd w21 (fun b => w20.heap.size ≤ b ∧ b < w21.heap.size) [.slice ae ne ce, .slice be me de, .int .i64 te] (Mo.doS (Mo.doS s (Mo.zOp size)) (Mo.zOp (n0 : Int)))) := rSta.weaken hd21 (fun q hq hl => ⟨hq, hl⟩)
            have Yq_21 : Hid (rBytes.rd w21 (fun b => w20.heap.size ≤ b) [.slice xq yq zq] ((Mo.doR (Mo.doS s (Mo.zOp size)) (Mo.zOp (n0 : Int))).2.1)) := hy21
            have Nq_21 : Hid (rNmds.rd w21 (fun b => w20.heap.size ≤ b) [.slice fq gq hq] ((Mo.doR (Mo.doS s (Mo.zOp size)) (Mo.zOp (n0 : Int))).2.2.2.1)) := hn21
            have Rs_21 : Hid (Row w21 (W.heap.size) 25 [.slice a0 n0 c0, .slice b0 m0 d0, .int .i64 t0]) := Rs_20.out.below (bb21)
            have Ds_21 : Hid (rSta.rd w21 (fun b => b < W.heap.size) [.slice a0 n0 c0, .slice b0 m0 d0, .int .i64 t0] (s)) := Rep.below Ds_20.out (bb21)
            have Dv_21 : Hid (rSta.rd w21 (fun b => w2.heap.size ≤ b) [.slice av n0 cv, .slice bv m0 dv, .int .i64 t0] (s)) := Rep.below Dv_20.out (bb21)
            have Da_21 : Hid (rSta.rd w21 (fun b => w3.heap.size ≤ b ∧ b < w4.heap.size) [.slice aa na ca, .slice ba ma da, .int .i64 ta] (Mo.doS s (Mo.cOp at' N))) := Rep.below Da_20.out (bb21)
            have Yr_21 : Hid (rBytes.rd w21 (fun b => w3.heap.size ≤ b) [.slice xr yr zr] ((Mo.doR s (Mo.cOp at' N)).2.1)) := Rep.below Yr_20.out (bb21)
            have Nr_21 : Hid (rNmds.rd w21 (fun b => w3.heap.size ≤ b) [.slice fr gr hr] ((Mo.doR s (Mo.cOp at' N)).2.2.2.1)) := Rep.below Nr_20.out (bb21)
            have Ra_21 : Hid (Row w21 (w4.heap.size) 31 [.slice aa na ca, .slice ba ma da, .int .i64 ta]) := Ra_20.out.below (bb21)
            have Rr_21 : Hid (Row w21 (wA5.heap.size) 38 [.int .i64 0, .slice xr yr zr, .int .i64 Ir, .slice fr gr hr, .int .i64 Zr]) := Rr_20.out.below (bb21)
            have Du_21 : Hid (rSta.rd w21 (fun b => w17.heap.size ≤ b) [.slice au n0 cu, .slice bu m0 du, .int .i64 t0] (s)) := Rep.below Du_20.out (bb21)
            have Db_21 : Hid (rSta.rd w21 (fun b => w18.heap.size ≤ b ∧ b < w19.heap.size) [.slice ab nb cb, .slice bb mb db, .int .i64 tb] (Mo.doS s (Mo.zOp size))) := Rep.below Db_20.out (bb21)
            have Yp_21 : Hid (rBytes.rd w21 (fun b => w18.heap.size ≤ b) [.slice xp yp zp] ((Mo.doR s (Mo.zOp size)).2.1)) := Rep.below Yp_20.out (bb21)
            have Np_21 : Hid (rNmds.rd w21 (fun b => w18.heap.size ≤ b) [.slice fp gp hp] ((Mo.doR s (Mo.zOp size)).2.2.2.1)) := Rep.below Np_20.out (bb21)
            have Rb_21 : Hid (Row w21 (w19.heap.size) 31 [.slice ab nb cb, .slice bb mb db, .int .i64 tb]) := Rb_20.out.below (bb21)
            have Rp_21 : Hid (Row w21 (wA20.heap.size) 38 [.int .i64 0, .slice xp yp zp, .int .i64 Ip, .slice fp gp hp, .int .i64 Zp]) := Rp_20.out.below (bb21)
            have B_21 : Hid (Below W.heap.size W w21) := on B_20.out (bb21)
            clear p20_0 r20_0 p20_1 r20_1 p20_2 r20_2 s20_0 u20_0 s20_1 u20_1 s20_2 u20_2 s20_3 u20_3 s20_4 u20_4 hA20 hB20 hX20 hY20 qb0 qb1 qb2 qs0 qs1 qs2
            clear Rs_20 Ds_20 Dv_20 Da_20 Yr_20 Nr_20 Ra_20 Rr_20 Du_20 Db_20 Yp_20 Np_20 Rb_20 Rp_20
            have HLT21 : Hid (W.heap.size < w21.heap.size) := Rs_21.out.lt
            clear hd21 hy21 hn21 bb21
            obtain ⟨wA22, wB22, wX22, w22, hA22, hB22, va, hX22, vr, hY22, vs, vt, k22, hl22⟩ := fresh2 w21 (.slice ae ne ce) (.slice be me de) (.int .i64 te) (.int .i64 Eq) (.slice xq yq zq) (.int .i64 Iq) (.slice fq gq hq) (.int .i64 Zq)
            have Re_22 : Hid (Row w22 (w21.heap.size) 31 [.slice ae ne ce, .slice be me de, .int .i64 te]) := vs
            have Rq_22 : Hid (Row w22 (wA22.heap.size) 38 [.int .i64 Eq, .slice xq yq zq, .int .i64 Iq, .slice fq gq hq, .int .i64 Zq]) := vt
            have Rs_22 : Hid (Row w22 (W.heap.size) 25 [.slice a0 n0 c0, .slice b0 m0 d0, .int .i64 t0]) := Rs_21.out.below (k22)
            have Ds_22 : Hid (rSta.rd w22 (fun b => b < W.heap.size) [.slice a0 n0 c0, .slice b0 m0 d0, .int .i64 t0] (s)) := Rep.below Ds_21.out (k22)
            have Dv_22 : Hid (rSta.rd w22 (fun b => w2.heap.size ≤ b) [.slice av n0 cv, .slice bv m0 dv, .int .i64 t0] (s)) := Rep.below Dv_21.out (k22)
            have Da_22 : Hid (rSta.rd w22 (fun b => w3.heap.size ≤ b ∧ b < w4.heap.size) [.slice aa na ca, .slice ba ma da, .int .i64 ta] (Mo.doS s (Mo.cOp at' N))) := Rep.below Da_21.out (k22)
            have Yr_22 : Hid (rBytes.rd w22 (fun b => w3.heap.size ≤ b) [.slice xr yr zr] ((Mo.doR s (Mo.cOp at' N)).2.1)) := Rep.below Yr_21.out (k22)
            have Nr_22 : Hid (rNmds.rd w22 (fun b => w3.heap.size ≤ b) [.slice fr gr hr] ((Mo.doR s (Mo.cOp at' N)).2.2.2.1)) := Rep.below Nr_21.out (k22)
            have Ra_22 : Hid (Row w22 (w4.heap.size) 31 [.slice aa na ca, .slice ba ma da, .int .i64 ta]) := Ra_21.out.below (k22)
            have Rr_22 : Hid (Row w22 (wA5.heap.size) 38 [.int .i64 0, .slice xr yr zr, .int .i64 Ir, .slice fr gr hr, .int .i64 Zr]) := Rr_21.out.below (k22)
            have Du_22 : Hid (rSta.rd w22 (fun b => w17.heap.size ≤ b) [.slice au n0 cu, .slice bu m0 du, .int .i64 t0] (s)) := Rep.below Du_21.out (k22)
            have Db_22 : Hid (rSta.rd w22 (fun b => w18.heap.size ≤ b ∧ b < w19.heap.size) [.slice ab nb cb, .slice bb mb db, .int .i64 tb] (Mo.doS s (Mo.zOp size))) := Rep.below Db_21.out (k22)
            have Yp_22 : Hid (rBytes.rd w22 (fun b => w18.heap.size ≤ b) [.slice xp yp zp] ((Mo.doR s (Mo.zOp size)).2.1)) := Rep.below Yp_21.out (k22)
            have Np_22 : Hid (rNmds.rd w22 (fun b => w18.heap.size ≤ b) [.slice fp gp hp] ((Mo.doR s (Mo.zOp size)).2.2.2.1)) := Rep.below Np_21.out (k22)
            have Rb_22 : Hid (Row w22 (w19.heap.size) 31 [.slice ab nb cb, .slice bb mb db, .int .i64 tb]) := Rb_21.out.below (k22)
            have Rp_22 : Hid (Row w22 (wA20.heap.size) 38 [.int .i64 0, .slice xp yp zp, .int .i64 Ip, .slice fp gp hp, .int .i64 Zp]) := Rp_21.out.below (k22)
            have De_22 : Hid (rSta.rd w22 (fun b => w20.heap.size ≤ b ∧ b < w21.heap.size) [.slice ae ne ce, .slice be me de, .int .i64 te] (Mo.doS (Mo.doS s (Mo.zOp size)) (Mo.zOp (n0 : Int)))) := Rep.below De_21.out (k22)
            have Yq_22 : Hid (rBytes.rd w22 (fun b => w20.heap.size ≤ b) [.slice xq yq zq] ((Mo.doR (Mo.doS s (Mo.zOp size)) (Mo.zOp (n0 : Int))).2.1)) := Rep.below Yq_21.out (k22)
            have Nq_22 : Hid (rNmds.rd w22 (fun b => w20.heap.size ≤ b) [.slice fq gq hq] ((Mo.doR (Mo.doS s (Mo.zOp size)) (Mo.zOp (n0 : Int))).2.2.2.1)) := Rep.below Nq_21.out (k22)
            have B_22 : Hid (Below W.heap.size W w22) := on B_21.out (k22)
            clear Rs_21 Ds_21 Dv_21 Da_21 Yr_21 Nr_21 Ra_21 Rr_21 Du_21 Db_21 Yp_21 Np_21 Rb_21 Rp_21 De_21 Yq_21 Nq_21
            have p22_0 := va.cell (j := 0) rfl
            have r22_0 := va.frozen 0
            have p22_1 := va.cell (j := 1) rfl
            have r22_1 := va.frozen 1
            have p22_2 := va.cell (j := 2) rfl
            have r22_2 := va.frozen 2
            have s22_0 := vr.cell (j := 0) rfl
            have u22_0 := vr.frozen 0
            have s22_1 := vr.cell (j := 1) rfl
            have u22_1 := vr.frozen 1
            have s22_2 := vr.cell (j := 2) rfl
            have u22_2 := vr.frozen 2
            have s22_3 := vr.cell (j := 3) rfl
            have u22_3 := vr.frozen 3
            have s22_4 := vr.cell (j := 4) rfl
            have u22_4 := vr.frozen 4
            have HL22 : Hid _ := hl22
            clear va vr vs vt k22 hl22
            obtain rfl := HEq.out.trans HF3.out
            have qp0 := Rp_22.out.cell (j := 0) rfl
            have qp1 := Rp_22.out.cell (j := 1) rfl
            have qp2 := Rp_22.out.cell (j := 2) rfl
            have qp3 := Rp_22.out.cell (j := 3) rfl
            have qp4 := Rp_22.out.cell (j := 4) rfl
            have qq0 := Rq_22.out.cell (j := 0) rfl
            have qq1 := Rq_22.out.cell (j := 1) rfl
            have qq2 := Rq_22.out.cell (j := 2) rfl
            have qq3 := Rq_22.out.cell (j := 3) rfl
            have qq4 := Rq_22.out.cell (j := 4) rfl
            have qe0 := Re_22.out.cell (j := 0) rfl
            have qe1 := Re_22.out.cell (j := 1) rfl
            have qe2 := Re_22.out.cell (j := 2) rfl
            have qs0 := Rs_22.out.cell (j := 0) rfl
            have qs1 := Rs_22.out.cell (j := 1) rfl
            have qs2 := Rs_22.out.cell (j := 2) rfl
            have HNe : Hid (ne = n0) := (sta_parts De_22.out).2.2.1.symm.trans HF4.out
            have eZ : (Zp != size) = false := by rw [bne_eq_false_iff_eq]; exact HZp.out.trans HF2.out
            have eL : ((ne : Int) != (n0 : Int)) = false := by rw [bne_eq_false_iff_eq, HNe.out]
            go_wp2_with fail
            go_quiet ((go_at_call 15; exact Calls.quiet_of_same ((num10_u _ _).mono (fun e w' h => ⟨h.1, h.2.symm⟩))))
            clear eZ eL
            clear p22_0 r22_0 p22_1 r22_1 p22_2 r22_2 s22_0 u22_0 s22_1 u22_1 s22_2 u22_2 s22_3 u22_3 s22_4 u22_4 hA22 hB22 hX22 hY22 qp0 qp1 qp2 qp3 qp4 qq0 qq1 qq2 qq3 qq4 qe0 qe1 qe2 qs0 qs1 qs2
            obtain ⟨w23, hw23⟩ : ∃ v, v = w22.drewN nq := ⟨_, rfl⟩
            have bdr : Below w22.heap.size w22 w23 := by rw [hw23]; exact below_drewN (Below.refl _ _) _
            rw [← hw23]
            clear hw23
            have Rs_23 : Hid (Row w23 (W.heap.size) 25 [.slice a0 n0 c0, .slice b0 m0 d0, .int .i64 t0]) := Rs_22.out.below (bdr)
            have Ds_23 : Hid (rSta.rd w23 (fun b => b < W.heap.size) [.slice a0 n0 c0, .slice b0 m0 d0, .int .i64 t0] (s)) := Rep.below Ds_22.out (bdr)
            have Dv_23 : Hid (rSta.rd w23 (fun b => w2.heap.size ≤ b) [.slice av n0 cv, .slice bv m0 dv, .int .i64 t0] (s)) := Rep.below Dv_22.out (bdr)
            have Da_23 : Hid (rSta.rd w23 (fun b => w3.heap.size ≤ b ∧ b < w4.heap.size) [.slice aa na ca, .slice ba ma da, .int .i64 ta] (Mo.doS s (Mo.cOp at' N))) := Rep.below Da_22.out (bdr)
            have Yr_23 : Hid (rBytes.rd w23 (fun b => w3.heap.size ≤ b) [.slice xr yr zr] ((Mo.doR s (Mo.cOp at' N)).2.1)) := Rep.below Yr_22.out (bdr)
            have Nr_23 : Hid (rNmds.rd w23 (fun b => w3.heap.size ≤ b) [.slice fr gr hr] ((Mo.doR s (Mo.cOp at' N)).2.2.2.1)) := Rep.below Nr_22.out (bdr)
            have Ra_23 : Hid (Row w23 (w4.heap.size) 31 [.slice aa na ca, .slice ba ma da, .int .i64 ta]) := Ra_22.out.below (bdr)
            have Rr_23 : Hid (Row w23 (wA5.heap.size) 38 [.int .i64 0, .slice xr yr zr, .int .i64 Ir, .slice fr gr hr, .int .i64 Zr]) := Rr_22.out.below (bdr)
            have Du_23 : Hid (rSta.rd w23 (fun b => w17.heap.size ≤ b) [.slice au n0 cu, .slice bu m0 du, .int .i64 t0] (s)) := Rep.below Du_22.out (bdr)
            have Db_23 : Hid (rSta.rd w23 (fun b => w18.heap.size ≤ b ∧ b < w19.heap.size) [.slice ab nb cb, .slice bb mb db, .int .i64 tb] (Mo.doS s (Mo.zOp size))) := Rep.below Db_22.out (bdr)
            have Yp_23 : Hid (rBytes.rd w23 (fun b => w18.heap.size ≤ b) [.slice xp yp zp] ((Mo.doR s (Mo.zOp size)).2.1)) := Rep.below Yp_22.out (bdr)
            have Np_23 : Hid (rNmds.rd w23 (fun b => w18.heap.size ≤ b) [.slice fp gp hp] ((Mo.doR s (Mo.zOp size)).2.2.2.1)) := Rep.below Np_22.out (bdr)
            have Rb_23 : Hid (Row w23 (w19.heap.size) 31 [.slice ab nb cb, .slice bb mb db, .int .i64 tb]) := Rb_22.out.below (bdr)
            have Rp_23 : Hid (Row w23 (wA20.heap.size) 38 [.int .i64 0, .slice xp yp zp, .int .i64 Ip, .slice fp gp hp, .int .i64 Zp]) := Rp_22.out.below (bdr)
            have De_23 : Hid (rSta.rd w23 (fun b => w20.heap.size ≤ b ∧ b < w21.heap.size) [.slice ae ne ce, .slice be me de, .int .i64 te] (Mo.doS (Mo.doS s (Mo.zOp size)) (Mo.zOp (n0 : Int)))) := Rep.below De_22.out (bdr)
            have Yq_23 : Hid (rBytes.rd w23 (fun b => w20.heap.size ≤ b) [.slice xq yq zq] ((Mo.doR (Mo.doS s (Mo.zOp size)) (Mo.zOp (n0 : Int))).2.1)) := Rep.below Yq_22.out (bdr)
            have Nq_23 : Hid (rNmds.rd w23 (fun b => w20.heap.size ≤ b) [.slice fq gq hq] ((Mo.doR (Mo.doS s (Mo.zOp size)) (Mo.zOp (n0 : Int))).2.2.2.1)) := Rep.below Nq_22.out (bdr)
            have Re_23 : Hid (Row w23 (w21.heap.size) 31 [.slice ae ne ce, .slice be me de, .int .i64 te]) := Re_22.out.below (bdr)
            have Rq_23 : Hid (Row w23 (wA22.heap.size) 38 [.int .i64 0, .slice xq yq zq, .int .i64 Iq, .slice fq gq hq, .int .i64 Zq]) := Rq_22.out.below (bdr)
            have B_23 : Hid (Below W.heap.size W w23) := on B_22.out (bdr)
            clear Rs_22 Ds_22 Dv_22 Da_22 Yr_22 Nr_22 Ra_22 Rr_22 Du_22 Db_22 Yp_22 Np_22 Rb_22 Rp_22 De_22 Yq_22 Nq_22 Re_22 Rq_22
            clear bdr
            go_wp2
            go_loopw [16] (fun i wr => ∃ j : Nat, j ≤ n0 ∧ i = .int .i64 j ∧ Below w23.heap.size w23 wr) (fun i _ => n0 - (intOf i).toNat)
            case atStart => exact ⟨0, Nat.zero_le _, rfl, Below.refl _ _⟩
            case round =>
              obtain ⟨j, hj, rfl, belo⟩ := hrel
              obtain ⟨w24, hw24⟩ : ∃ v, v = wr := ⟨_, rfl⟩
              subst hw24
              have Rs_24 : Hid (Row w24 (W.heap.size) 25 [.slice a0 n0 c0, .slice b0 m0 d0, .int .i64 t0]) := Rs_23.out.below (belo)
              have Ds_24 : Hid (rSta.rd w24 (fun b => b < W.heap.size) [.slice a0 n0 c0, .slice b0 m0 d0, .int .i64 t0] (s)) := Rep.below Ds_23.out (belo)
              have Dv_24 : Hid (rSta.rd w24 (fun b => w2.heap.size ≤ b) [.slice av n0 cv, .slice bv m0 dv, .int .i64 t0] (s)) := Rep.below Dv_23.out (belo)
              have Da_24 : Hid (rSta.rd w24 (fun b => w3.heap.size ≤ b ∧ b < w4.heap.size) [.slice aa na ca, .slice ba ma da, .int .i64 ta] (Mo.doS s (Mo.cOp at' N))) := Rep.below Da_23.out (belo)
              have Yr_24 : Hid (rBytes.rd w24 (fun b => w3.heap.size ≤ b) [.slice xr yr zr] ((Mo.doR s (Mo.cOp at' N)).2.1)) := Rep.below Yr_23.out (belo)
              have Nr_24 : Hid (rNmds.rd w24 (fun b => w3.heap.size ≤ b) [.slice fr gr hr] ((Mo.doR s (Mo.cOp at' N)).2.2.2.1)) := Rep.below Nr_23.out (belo)
              have Ra_24 : Hid (Row w24 (w4.heap.size) 31 [.slice aa na ca, .slice ba ma da, .int .i64 ta]) := Ra_23.out.below (belo)
              have Rr_24 : Hid (Row w24 (wA5.heap.size) 38 [.int .i64 0, .slice xr yr zr, .int .i64 Ir, .slice fr gr hr, .int .i64 Zr]) := Rr_23.out.below (belo)
              have Du_24 : Hid (rSta.rd w24 (fun b => w17.heap.size ≤ b) [.slice au n0 cu, .slice bu m0 du, .int .i64 t0] (s)) := Rep.below Du_23.out (belo)
              have Db_24 : Hid (rSta.rd w24 (fun b => w18.heap.size ≤ b ∧ b < w19.heap.size) [.slice ab nb cb, .slice bb mb db, .int .i64 tb] (Mo.doS s (Mo.zOp size))) := Rep.below Db_23.out (belo)
              have Yp_24 : Hid (rBytes.rd w24 (fun b => w18.heap.size ≤ b) [.slice xp yp zp] ((Mo.doR s (Mo.zOp size)).2.1)) := Rep.below Yp_23.out (belo)
              have Np_24 : Hid (rNmds.rd w24 (fun b => w18.heap.size ≤ b) [.slice fp gp hp] ((Mo.doR s (Mo.zOp size)).2.2.2.1)) := Rep.below Np_23.out (belo)
              have Rb_24 : Hid (Row w24 (w19.heap.size) 31 [.slice ab nb cb, .slice bb mb db, .int .i64 tb]) := Rb_23.out.below (belo)
              have Rp_24 : Hid (Row w24 (wA20.heap.size) 38 [.int .i64 0, .slice xp yp zp, .int .i64 Ip, .slice fp gp hp, .int .i64 Zp]) := Rp_23.out.below (belo)
              have De_24 : Hid (rSta.rd w24 (fun b => w20.heap.size ≤ b ∧ b < w21.heap.size) [.slice ae ne ce, .slice be me de, .int .i64 te] (Mo.doS (Mo.doS s (Mo.zOp size)) (Mo.zOp (n0 : Int)))) := Rep.below De_23.out (belo)
              have Yq_24 : Hid (rBytes.rd w24 (fun b => w20.heap.size ≤ b) [.slice xq yq zq] ((Mo.doR (Mo.doS s (Mo.zOp size)) (Mo.zOp (n0 : Int))).2.1)) := Rep.below Yq_23.out (belo)
              have Nq_24 : Hid (rNmds.rd w24 (fun b => w20.heap.size ≤ b) [.slice fq gq hq] ((Mo.doR (Mo.doS s (Mo.zOp size)) (Mo.zOp (n0 : Int))).2.2.2.1)) := Rep.below Nq_23.out (belo)
              have Re_24 : Hid (Row w24 (w21.heap.size) 31 [.slice ae ne ce, .slice be me de, .int .i64 te]) := Re_23.out.below (belo)
              have Rq_24 : Hid (Row w24 (wA22.heap.size) 38 [.int .i64 0, .slice xq yq zq, .int .i64 Iq, .slice fq gq hq, .int .i64 Zq]) := Rq_23.out.below (belo)
              have B_24 : Hid (Below W.heap.size W w24) := on B_23.out (belo)
              clear Rs_23 Ds_23 Dv_23 Da_23 Yr_23 Nr_23 Ra_23 Rr_23 Du_23 Db_23 Yp_23 Np_23 Rb_23 Rp_23 De_23 Yq_23 Nq_23 Re_23 Rq_23
              have BL1 : Hid (Below w23.heap.size w23 w24) := belo
              clear belo
              have qe0 := Re_24.out.cell (j := 0) rfl
              have qe1 := Re_24.out.cell (j := 1) rfl
              have qe2 := Re_24.out.cell (j := 2) rfl
              have qs0 := Rs_24.out.cell (j := 0) rfl
              have qs1 := Rs_24.out.cell (j := 1) rfl
              have qs2 := Rs_24.out.cell (j := 2) rfl
              have hn6 : n0 ≤ 65536 := HF5.out
              have hne1 : ne ≤ n0 := Nat.le_of_eq HNe.out
              have hne2 : n0 ≤ ne := Nat.le_of_eq HNe.out.symm
              by_cases hjn : j < n0
              · skip
                have hjz : (j : Int) < (n0 : Int) := by omega
                obtain ⟨HPa, -, hla, -, -⟩ := sta_parts De_24.out
                obtain ⟨HPs, -, hls, -, -⟩ := sta_parts Ds_24.out
                have hja : j < (Mo.doS (Mo.doS s (Mo.zOp size)) (Mo.zOp (n0 : Int))).1.length := by rw [hla]; omega
                have hjs : j < s.1.length := by rw [hls]; exact hjn
                have hjna : (j : Int) < (ne : Int) := by omega
                obtain ⟨g, off, rfl, -, -, hat⟩ := rLists_at HPa (by omega)
                obtain ⟨g', off', rfl, -, -, hbt⟩ := rLists_at HPs (by omega)
                obtain ⟨x, xm, xd, hx, hxl, c0'⟩ := hat j hja
                obtain ⟨y, ym, yd, hy, -, d0'⟩ := hbt j hjs
                have HX : Hid (IsB w24 x xm _) := (rBytes_isB hx).1
                have HY : Hid (IsB w24 y ym _) := (rBytes_isB hy).1
                have HXl : Hid _ := hxl
                have HEqv : Hid _ := HF6.out j hjs hja
                obtain ⟨X, hX⟩ : ∃ X, X = (Mo.doS (Mo.doS s (Mo.zOp size)) (Mo.zOp (n0 : Int))).1[j] := ⟨_, rfl⟩
                obtain ⟨Y, hY⟩ : ∃ Y, Y = s.1[j] := ⟨_, rfl⟩
                rw [← hX] at HX HEqv HXl
                rw [← hY] at HY HEqv
                clear hat hbt hx hy hX hY hla hls HPa HPs hja hjs hxl
                by_cases hsz : (j : Int) < size
                · obtain rfl : X = Y := by rw [HEqv.out, if_pos hsz]
                  clear HEqv
                  have e1 : decide ((j : Int) < size) = true := decide_eq_true hsz
                  have e2 : decide (size ≤ (j : Int)) = false := decide_eq_false (by omega)
                  go_wp2
                  refine wp_region_held_drew (S := (fun w' : World => w'.cell? ⟨w21.heap.size, 0, none⟩ = some (.slice (some ⟨g, off, none⟩) ne ce) ∧ w'.cell? ⟨W.heap.size, 0, none⟩ = some (.slice (some ⟨g', off', none⟩) n0 c0) ∧ w'.cell? ⟨g, off + j, none⟩ = some (.slice x xm xd) ∧ w'.cell? ⟨g', off' + j, none⟩ = some (.slice y ym yd))) (by kernel_rfl) (⟨qe0, qs0, c0', d0'⟩) (fun hHeld => ?_)
                  refine wpAnyH_takeL (i := 0) (v := ?_) rfl rfl (by kernel_rfl) (by kernel_rfl) (by kernel_rfl) (fun _ _ _ h => h) (Or.inl ⟨by rfl, ?_⟩) (by assumption) ?_
                  rotate_left
                  · intro w hSw
                    try dsimp only at hSw
                    go_simp
                    all_goals with_reducible rfl
                  simp only [List.set_cons_zero, List.set_cons_succ]
                  refine wpAnyH_takeL (i := 1) (v := ?_) rfl rfl (by kernel_rfl) (by kernel_rfl) (by kernel_rfl) (fun _ _ _ h => h) (Or.inl ⟨by rfl, ?_⟩) (by assumption) ?_
                  rotate_left
                  · intro w hSw
                    try dsimp only at hSw
                    go_simp
                    all_goals with_reducible rfl
                  simp only [List.set_cons_zero, List.set_cons_succ]
                  refine wpAnyH_takeL (i := 2) (v := ?_) rfl rfl (by kernel_rfl) (by kernel_rfl) (by kernel_rfl) (fun _ _ _ h => h) (Or.inl ⟨by rfl, ?_⟩) (by assumption) ?_
                  rotate_left
                  · intro w hSw
                    try dsimp only at hSw
                    go_simp
                    all_goals with_reducible rfl
                  simp only [List.set_cons_zero, List.set_cons_succ]
                  refine wpAnyH_takeL (i := 3) (v := ?_) rfl rfl (by kernel_rfl) (by kernel_rfl) (by kernel_rfl) (fun _ _ _ h => h) (Or.inl ⟨by rfl, ?_⟩) (by assumption) ?_
                  rotate_left
                  · intro w hSw
                    try dsimp only at hSw
                    go_simp
                    all_goals with_reducible rfl
                  simp only [List.set_cons_zero, List.set_cons_succ]
                  refine wpAnyH_takeL (i := 4) (v := ?_) rfl rfl (by kernel_rfl) (by kernel_rfl) (by kernel_rfl) (fun _ _ _ h => h) (Or.inl ⟨by rfl, ?_⟩) (by assumption) ?_
                  rotate_left
                  · intro w hSw
                    try dsimp only at hSw
                    go_simp
                    all_goals with_reducible rfl
                  simp only [List.set_cons_zero, List.set_cons_succ]
                  refine wpAnyH_takeL (i := 5) (v := ?_) rfl rfl (by kernel_rfl) (by kernel_rfl) (by kernel_rfl) (fun _ _ _ h => h) (Or.inl ⟨by rfl, ?_⟩) (by assumption) ?_
                  rotate_left
                  · intro w hSw
                    try dsimp only at hSw
                    go_simp
                    all_goals with_reducible rfl
                  simp only [List.set_cons_zero, List.set_cons_succ]
                  refine wpAnyH_takeL (i := 6) (v := ?_) rfl rfl (by kernel_rfl) (by kernel_rfl) (by kernel_rfl) (fun _ _ _ h => h) (Or.inl ⟨by rfl, ?_⟩) (by assumption) ?_
                  rotate_left
                  · intro w hSw
                    try dsimp only at hSw
                    go_simp
                    all_goals with_reducible rfl
                  simp only [List.set_cons_zero, List.set_cons_succ]
                  refine wpAnyH_takeL (i := 7) (v := ?_) rfl rfl (by kernel_rfl) (by kernel_rfl) (by kernel_rfl) (fun _ _ _ h => h) (Or.inl ⟨by rfl, ?_⟩) (by assumption) ?_
                  rotate_left
                  · intro w hSw
                    try dsimp only at hSw
                    go_simp
                    all_goals with_reducible rfl
                  simp only [List.set_cons_zero, List.set_cons_succ]
                  refine wpAnyH_takeL (i := 8) (v := ?_) rfl rfl (by kernel_rfl) (by kernel_rfl) (by kernel_rfl) (fun _ _ _ h => h) (Or.inl ⟨by rfl, ?_⟩) (by assumption) ?_
                  rotate_left
                  · intro w hSw
                    try dsimp only at hSw
                    go_simp
                    all_goals with_reducible rfl
                  simp only [List.set_cons_zero, List.set_cons_succ]
                  refine wpAnyH_takeL (i := 9) (v := ?_) rfl rfl (by kernel_rfl) (by kernel_rfl) (by kernel_rfl) (fun _ _ _ h => h) (Or.inl ⟨by rfl, ?_⟩) (by assumption) ?_
                  rotate_left
                  · intro w hSw
                    try dsimp only at hSw
                    go_simp
                    all_goals with_reducible rfl
                  simp only [List.set_cons_zero, List.set_cons_succ]
                  refine wpAnyH_takeL (i := 10) (v := ?_) rfl rfl (by kernel_rfl) (by kernel_rfl) (by kernel_rfl) (fun _ _ _ h => h) (Or.inl ⟨by rfl, ?_⟩) (by assumption) ?_
                  rotate_left
                  · intro w hSw
                    try dsimp only at hSw
                    go_simp
                    all_goals with_reducible rfl
                  simp only [List.set_cons_zero, List.set_cons_succ]
                  refine wpAnyH_takeL (i := 11) (v := ?_) rfl rfl (by kernel_rfl) (by kernel_rfl) (by kernel_rfl) (fun _ _ _ h => h) (Or.inl ⟨by rfl, ?_⟩) (by assumption) ?_
                  rotate_left
                  · intro w hSw
                    try dsimp only at hSw
                    go_simp
                    all_goals with_reducible rfl
                  simp only [List.set_cons_zero, List.set_cons_succ]
                  refine wpAnyH_takeL (i := 12) (v := ?_) rfl rfl (by kernel_rfl) (by kernel_rfl) (by kernel_rfl) (fun _ _ _ h => h) (Or.inl ⟨by rfl, ?_⟩) (by assumption) ?_
                  rotate_left
                  · intro w hSw
                    try dsimp only at hSw
                    go_simp
                    all_goals with_reducible rfl
                  simp only [List.set_cons_zero, List.set_cons_succ]
                  refine wpAnyH_takeL (i := 13) (v := ?_) rfl rfl (by kernel_rfl) (by kernel_rfl) (by kernel_rfl) (fun _ _ _ h => h) (Or.inl ⟨by rfl, ?_⟩) (by assumption) ?_
                  rotate_left
                  · intro w hSw
                    try dsimp only at hSw
                    go_simp
                    all_goals with_reducible rfl
                  simp only [List.set_cons_zero, List.set_cons_succ]
                  refine wpAnyH_ready (rs := [14]) (by kernel_rfl) (by simp) ?_
                  refine AllReadyH.cons rfl (fun K hK => ?_) ?_
                  · go_simp
                    go_at_call 18
                    have h1 : IsB w24.drew x xm X := HX.out
                    have h2 : IsB w24.drew y ym X := HY.out
                    refine (sameBytes_any _ x y xm xd ym yd X X h1 h2).mono ?_
                    rintro e w' ⟨rfl, rfl⟩
                    rw [beq_self_eq_true]
                    clear h1 h2
                    go_simp
                    refine hK.out _ _ ?_ (fun hHeld => ?_)
                    · try dsimp only
                      exact ⟨qe0, qs0, c0', d0'⟩
                    clear hK K
                    refine wpAnyH_takeL (i := 15) (v := ?_) rfl rfl (by kernel_rfl) (by kernel_rfl) (by kernel_rfl) (fun _ _ _ h => h) (Or.inl ⟨by rfl, ?_⟩) (by assumption) ?_
                    rotate_left
                    · intro w hSw
                      try dsimp only at hSw
                      go_simp
                      all_goals with_reducible rfl
                    simp only [List.set_cons_zero, List.set_cons_succ]
                    refine wpAnyH_takeL (i := 16) (v := ?_) rfl rfl (by kernel_rfl) (by kernel_rfl) (by kernel_rfl) (fun _ _ _ h => h) (Or.inl ⟨by rfl, ?_⟩) (by assumption) ?_
                    rotate_left
                    · intro w hSw
                      try dsimp only at hSw
                      go_simp
                      all_goals with_reducible rfl
                    simp only [List.set_cons_zero, List.set_cons_succ]
                    refine wpAnyH_takeL (i := 17) (v := ?_) rfl rfl (by kernel_rfl) (by kernel_rfl) (by kernel_rfl) (fun _ _ _ h => h) (Or.inl ⟨by rfl, ?_⟩) (by assumption) ?_
                    rotate_left
                    · intro w hSw
                      try dsimp only at hSw
                      go_simp
                      all_goals with_reducible rfl
                    simp only [List.set_cons_zero, List.set_cons_succ]
                    refine wpAnyH_takeL (i := 18) (v := ?_) rfl rfl (by kernel_rfl) (by kernel_rfl) (by kernel_rfl) (fun _ _ _ h => h) (Or.inl ⟨by rfl, ?_⟩) (by assumption) ?_
                    rotate_left
                    · intro w hSw
                      try dsimp only at hSw
                      go_simp
                      all_goals with_reducible rfl
                    simp only [List.set_cons_zero, List.set_cons_succ]
                    refine wpAnyH_takeL (i := 19) (v := ?_) rfl rfl (by kernel_rfl) (by kernel_rfl) (by kernel_rfl) (fun _ _ _ h => h) (Or.inl ⟨by rfl, ?_⟩) (by assumption) ?_
                    rotate_left
                    · intro w hSw
                      try dsimp only at hSw
                      go_simp
                      all_goals with_reducible rfl
                    simp only [List.set_cons_zero, List.set_cons_succ]
                    refine wpAnyH_takeL (i := 20) (v := ?_) rfl rfl (by kernel_rfl) (by kernel_rfl) (by kernel_rfl) (fun _ _ _ h => h) (Or.inl ⟨by rfl, ?_⟩) (by assumption) ?_
                    rotate_left
                    · intro w hSw
                      try dsimp only at hSw
                      go_simp
                      all_goals with_reducible rfl
                    simp only [List.set_cons_zero, List.set_cons_succ]
                    refine wpAnyH_takeL (i := 21) (v := ?_) rfl rfl (by kernel_rfl) (by kernel_rfl) (by kernel_rfl) (fun _ _ _ h => h) (Or.inl ⟨by rfl, ?_⟩) (by assumption) ?_
                    rotate_left
                    · intro w hSw
                      try dsimp only at hSw
                      go_simp
                      all_goals with_reducible rfl
                    simp only [List.set_cons_zero, List.set_cons_succ]
                    refine wpAnyH_passL (i := 22) rfl rfl (by kernel_rfl) (by kernel_rfl) (by kernel_rfl) (by rfl) (fun _ _ _ h => h) (by assumption) ?_
                    simp only [List.set_cons_zero, List.set_cons_succ]
                    refine wpAnyH_passL (i := 23) rfl rfl (by kernel_rfl) (by kernel_rfl) (by kernel_rfl) (by rfl) (fun _ _ _ h => h) (by assumption) ?_
                    simp only [List.set_cons_zero, List.set_cons_succ]
                    refine wpAnyH_passL (i := 24) rfl rfl (by kernel_rfl) (by kernel_rfl) (by kernel_rfl) (by rfl) (fun _ _ _ h => h) (by assumption) ?_
                    simp only [List.set_cons_zero, List.set_cons_succ]
                    refine wpAnyH_passL (i := 25) rfl rfl (by kernel_rfl) (by kernel_rfl) (by kernel_rfl) (by rfl) (fun _ _ _ h => h) (by assumption) ?_
                    simp only [List.set_cons_zero, List.set_cons_succ]
                    refine wpAnyH_passL (i := 26) rfl rfl (by kernel_rfl) (by kernel_rfl) (by kernel_rfl) (by rfl) (fun _ _ _ h => h) (by assumption) ?_
                    simp only [List.set_cons_zero, List.set_cons_succ]
                    refine wpAnyH_passL (i := 27) rfl rfl (by kernel_rfl) (by kernel_rfl) (by kernel_rfl) (by rfl) (fun _ _ _ h => h) (by assumption) ?_
                    simp only [List.set_cons_zero, List.set_cons_succ]
                    refine wpAnyH_passL (i := 28) rfl rfl (by kernel_rfl) (by kernel_rfl) (by kernel_rfl) (by rfl) (fun _ _ _ h => h) (by assumption) ?_
                    simp only [List.set_cons_zero, List.set_cons_succ]
                    refine wpAnyH_takeL (i := 29) (v := ?_) rfl rfl (by kernel_rfl) (by kernel_rfl) (by kernel_rfl) (fun _ _ _ h => h) (Or.inl ⟨by rfl, ?_⟩) (by assumption) ?_
                    rotate_left
                    · intro w hSw
                      try dsimp only at hSw
                      go_simp
                      all_goals with_reducible rfl
                    simp only [List.set_cons_zero, List.set_cons_succ]
                    refine wpAnyH_takeL (i := 30) (v := ?_) rfl rfl (by kernel_rfl) (by kernel_rfl) (by kernel_rfl) (fun _ _ _ h => h) (Or.inl ⟨by rfl, ?_⟩) (by assumption) ?_
                    rotate_left
                    · intro w hSw
                      try dsimp only at hSw
                      go_simp
                      all_goals with_reducible rfl
                    simp only [List.set_cons_zero, List.set_cons_succ]
                    refine wpAnyH_done (by kernel_rfl) ?_ _
                    clear hHeld
                    go_wp2
                    go_roundw
                    case rel => exact ⟨j + 1, by omega, by go_num, BL1.out.drew⟩
                    case measure => simp [intOf]; omega
                  exact AllReadyH.nil
                · have hX0 : X = [] := by rw [HEqv.out, if_neg hsz]
                  obtain rfl : xm = 0 := by have h := HXl.out; rw [hX0] at h; exact h.symm
                  clear HEqv hX0 HX HY HXl
                  have e1 : decide ((j : Int) < size) = false := decide_eq_false hsz
                  have e2 : decide (size ≤ (j : Int)) = true := decide_eq_true (by omega)
                  go_wp2
                  refine wp_region_held_drew (S := (fun w' : World => w'.cell? ⟨w21.heap.size, 0, none⟩ = some (.slice (some ⟨g, off, none⟩) ne ce) ∧ w'.cell? ⟨W.heap.size, 0, none⟩ = some (.slice (some ⟨g', off', none⟩) n0 c0) ∧ w'.cell? ⟨g, off + j, none⟩ = some (.slice x 0 xd) ∧ w'.cell? ⟨g', off' + j, none⟩ = some (.slice y ym yd))) (by kernel_rfl) (⟨qe0, qs0, c0', d0'⟩) (fun hHeld => ?_)
                  refine wpAnyH_takeL (i := 0) (v := ?_) rfl rfl (by kernel_rfl) (by kernel_rfl) (by kernel_rfl) (fun _ _ _ h => h) (Or.inl ⟨by rfl, ?_⟩) (by assumption) ?_
                  rotate_left
                  · intro w hSw
                    try dsimp only at hSw
                    go_simp
                    all_goals with_reducible rfl
                  simp only [List.set_cons_zero, List.set_cons_succ]
                  refine wpAnyH_takeL (i := 1) (v := ?_) rfl rfl (by kernel_rfl) (by kernel_rfl) (by kernel_rfl) (fun _ _ _ h => h) (Or.inl ⟨by rfl, ?_⟩) (by assumption) ?_
                  rotate_left
                  · intro w hSw
                    try dsimp only at hSw
                    go_simp
                    all_goals with_reducible rfl
                  simp only [List.set_cons_zero, List.set_cons_succ]
                  refine wpAnyH_takeL (i := 2) (v := ?_) rfl rfl (by kernel_rfl) (by kernel_rfl) (by kernel_rfl) (fun _ _ _ h => h) (Or.inl ⟨by rfl, ?_⟩) (by assumption) ?_
                  rotate_left
                  · intro w hSw
                    try dsimp only at hSw
                    go_simp
                    all_goals with_reducible rfl
                  simp only [List.set_cons_zero, List.set_cons_succ]
                  refine wpAnyH_takeL (i := 3) (v := ?_) rfl rfl (by kernel_rfl) (by kernel_rfl) (by kernel_rfl) (fun _ _ _ h => h) (Or.inl ⟨by rfl, ?_⟩) (by assumption) ?_
                  rotate_left
                  · intro w hSw
                    try dsimp only at hSw
                    go_simp
                    all_goals with_reducible rfl
                  simp only [List.set_cons_zero, List.set_cons_succ]
                  refine wpAnyH_passL (i := 4) rfl rfl (by kernel_rfl) (by kernel_rfl) (by kernel_rfl) (by rfl) (fun _ _ _ h => h) (by assumption) ?_
                  simp only [List.set_cons_zero, List.set_cons_succ]
                  refine wpAnyH_passL (i := 5) rfl rfl (by kernel_rfl) (by kernel_rfl) (by kernel_rfl) (by rfl) (fun _ _ _ h => h) (by assumption) ?_
                  simp only [List.set_cons_zero, List.set_cons_succ]
                  refine wpAnyH_passL (i := 6) rfl rfl (by kernel_rfl) (by kernel_rfl) (by kernel_rfl) (by rfl) (fun _ _ _ h => h) (by assumption) ?_
                  simp only [List.set_cons_zero, List.set_cons_succ]
                  refine wpAnyH_passL (i := 7) rfl rfl (by kernel_rfl) (by kernel_rfl) (by kernel_rfl) (by rfl) (fun _ _ _ h => h) (by assumption) ?_
                  simp only [List.set_cons_zero, List.set_cons_succ]
                  refine wpAnyH_passL (i := 8) rfl rfl (by kernel_rfl) (by kernel_rfl) (by kernel_rfl) (by rfl) (fun _ _ _ h => h) (by assumption) ?_
                  simp only [List.set_cons_zero, List.set_cons_succ]
                  refine wpAnyH_passL (i := 9) rfl rfl (by kernel_rfl) (by kernel_rfl) (by kernel_rfl) (by rfl) (fun _ _ _ h => h) (by assumption) ?_
                  simp only [List.set_cons_zero, List.set_cons_succ]
                  refine wpAnyH_passL (i := 10) rfl rfl (by kernel_rfl) (by kernel_rfl) (by kernel_rfl) (by rfl) (fun _ _ _ h => h) (by assumption) ?_
                  simp only [List.set_cons_zero, List.set_cons_succ]
                  refine wpAnyH_passL (i := 11) rfl rfl (by kernel_rfl) (by kernel_rfl) (by kernel_rfl) (by rfl) (fun _ _ _ h => h) (by assumption) ?_
                  simp only [List.set_cons_zero, List.set_cons_succ]
                  refine wpAnyH_passL (i := 12) rfl rfl (by kernel_rfl) (by kernel_rfl) (by kernel_rfl) (by rfl) (fun _ _ _ h => h) (by assumption) ?_
                  simp only [List.set_cons_zero, List.set_cons_succ]
                  refine wpAnyH_passL (i := 13) rfl rfl (by kernel_rfl) (by kernel_rfl) (by kernel_rfl) (by rfl) (fun _ _ _ h => h) (by assumption) ?_
                  simp only [List.set_cons_zero, List.set_cons_succ]
                  refine wpAnyH_passL (i := 14) rfl rfl (by kernel_rfl) (by kernel_rfl) (by kernel_rfl) (by rfl) (fun _ _ _ h => h) (by assumption) ?_
                  simp only [List.set_cons_zero, List.set_cons_succ]
                  refine wpAnyH_passL (i := 15) rfl rfl (by kernel_rfl) (by kernel_rfl) (by kernel_rfl) (by rfl) (fun _ _ _ h => h) (by assumption) ?_
                  simp only [List.set_cons_zero, List.set_cons_succ]
                  refine wpAnyH_takeL (i := 16) (v := ?_) rfl rfl (by kernel_rfl) (by kernel_rfl) (by kernel_rfl) (fun _ _ _ h => h) (Or.inl ⟨by rfl, ?_⟩) (by assumption) ?_
                  rotate_left
                  · intro w hSw
                    try dsimp only at hSw
                    go_simp
                    all_goals with_reducible rfl
                  simp only [List.set_cons_zero, List.set_cons_succ]
                  refine wpAnyH_takeL (i := 17) (v := ?_) rfl rfl (by kernel_rfl) (by kernel_rfl) (by kernel_rfl) (fun _ _ _ h => h) (Or.inl ⟨by rfl, ?_⟩) (by assumption) ?_
                  rotate_left
                  · intro w hSw
                    try dsimp only at hSw
                    go_simp
                    all_goals with_reducible rfl
                  simp only [List.set_cons_zero, List.set_cons_succ]
                  refine wpAnyH_takeL (i := 18) (v := ?_) rfl rfl (by kernel_rfl) (by kernel_rfl) (by kernel_rfl) (fun _ _ _ h => h) (Or.inl ⟨by rfl, ?_⟩) (by assumption) ?_
                  rotate_left
                  · intro w hSw
                    try dsimp only at hSw
                    go_simp
                    all_goals with_reducible rfl
                  simp only [List.set_cons_zero, List.set_cons_succ]
                  refine wpAnyH_takeL (i := 19) (v := ?_) rfl rfl (by kernel_rfl) (by kernel_rfl) (by kernel_rfl) (fun _ _ _ h => h) (Or.inl ⟨by rfl, ?_⟩) (by assumption) ?_
                  rotate_left
                  · intro w hSw
                    try dsimp only at hSw
                    go_simp
                    all_goals with_reducible rfl
                  simp only [List.set_cons_zero, List.set_cons_succ]
                  refine wpAnyH_takeL (i := 20) (v := ?_) rfl rfl (by kernel_rfl) (by kernel_rfl) (by kernel_rfl) (fun _ _ _ h => h) (Or.inl ⟨by rfl, ?_⟩) (by assumption) ?_
                  rotate_left
                  · intro w hSw
                    try dsimp only at hSw
                    go_simp
                    all_goals with_reducible rfl
                  simp only [List.set_cons_zero, List.set_cons_succ]
                  refine wpAnyH_takeL (i := 21) (v := ?_) rfl rfl (by kernel_rfl) (by kernel_rfl) (by kernel_rfl) (fun _ _ _ h => h) (Or.inl ⟨by rfl, ?_⟩) (by assumption) ?_
                  rotate_left
                  · intro w hSw
                    try dsimp only at hSw
                    go_simp
                    all_goals with_reducible rfl
                  simp only [List.set_cons_zero, List.set_cons_succ]
                  refine wpAnyH_takeL (i := 22) (v := ?_) rfl rfl (by kernel_rfl) (by kernel_rfl) (by kernel_rfl) (fun _ _ _ h => h) (Or.inl ⟨by rfl, ?_⟩) (by assumption) ?_
                  rotate_left
                  · intro w hSw
                    try dsimp only at hSw
                    go_simp
                    all_goals with_reducible rfl
                  simp only [List.set_cons_zero, List.set_cons_succ]
                  refine wpAnyH_takeL (i := 23) (v := ?_) rfl rfl (by kernel_rfl) (by kernel_rfl) (by kernel_rfl) (fun _ _ _ h => h) (Or.inl ⟨by rfl, ?_⟩) (by assumption) ?_
                  rotate_left
                  · intro w hSw
                    try dsimp only at hSw
                    go_simp
                    all_goals with_reducible rfl
                  simp only [List.set_cons_zero, List.set_cons_succ]
                  refine wpAnyH_takeL (i := 24) (v := ?_) rfl rfl (by kernel_rfl) (by kernel_rfl) (by kernel_rfl) (fun _ _ _ h => h) (Or.inl ⟨by rfl, ?_⟩) (by assumption) ?_
                  rotate_left
                  · intro w hSw
                    try dsimp only at hSw
                    go_simp
                    all_goals with_reducible rfl
                  simp only [List.set_cons_zero, List.set_cons_succ]
                  refine wpAnyH_takeL (i := 25) (v := ?_) rfl rfl (by kernel_rfl) (by kernel_rfl) (by kernel_rfl) (fun _ _ _ h => h) (Or.inl ⟨by rfl, ?_⟩) (by assumption) ?_
                  rotate_left
                  · intro w hSw
                    try dsimp only at hSw
                    go_simp
                    all_goals with_reducible rfl
                  simp only [List.set_cons_zero, List.set_cons_succ]
                  refine wpAnyH_takeL (i := 26) (v := ?_) rfl rfl (by kernel_rfl) (by kernel_rfl) (by kernel_rfl) (fun _ _ _ h => h) (Or.inl ⟨by rfl, ?_⟩) (by assumption) ?_
                  rotate_left
                  · intro w hSw
                    try dsimp only at hSw
                    go_simp
                    all_goals with_reducible rfl
                  simp only [List.set_cons_zero, List.set_cons_succ]
                  refine wpAnyH_takeL (i := 27) (v := ?_) rfl rfl (by kernel_rfl) (by kernel_rfl) (by kernel_rfl) (fun _ _ _ h => h) (Or.inl ⟨by rfl, ?_⟩) (by assumption) ?_
                  rotate_left
                  · intro w hSw
                    try dsimp only at hSw
                    go_simp
                    all_goals with_reducible rfl
                  simp only [List.set_cons_zero, List.set_cons_succ]
                  refine wpAnyH_takeL (i := 28) (v := ?_) rfl rfl (by kernel_rfl) (by kernel_rfl) (by kernel_rfl) (fun _ _ _ h => h) (Or.inl ⟨by rfl, ?_⟩) (by assumption) ?_
                  rotate_left
                  · intro w hSw
                    try dsimp only at hSw
                    go_simp
                    all_goals with_reducible rfl
                  simp only [List.set_cons_zero, List.set_cons_succ]
                  refine wpAnyH_takeL (i := 29) (v := ?_) rfl rfl (by kernel_rfl) (by kernel_rfl) (by kernel_rfl) (fun _ _ _ h => h) (Or.inl ⟨by rfl, ?_⟩) (by assumption) ?_
                  rotate_left
                  · intro w hSw
                    try dsimp only at hSw
                    go_simp
                    all_goals with_reducible rfl
                  simp only [List.set_cons_zero, List.set_cons_succ]
                  refine wpAnyH_takeL (i := 30) (v := ?_) rfl rfl (by kernel_rfl) (by kernel_rfl) (by kernel_rfl) (fun _ _ _ h => h) (Or.inl ⟨by rfl, ?_⟩) (by assumption) ?_
                  rotate_left
                  · intro w hSw
                    try dsimp only at hSw
                    go_simp
                    all_goals with_reducible rfl
                  simp only [List.set_cons_zero, List.set_cons_succ]
                  refine wpAnyH_done (by kernel_rfl) ?_ _
                  clear hHeld
                  go_wp2
                  go_roundw
                  case rel => exact ⟨j + 1, by omega, by go_num, BL1.out.drew⟩
                  case measure => simp [intOf]; omega
              · obtain rfl : n0 = j := by omega
                go_wp2_with (go_at_call 15; refine (num10_u _ _).mono ?_; rintro e w99 ⟨rfl, rfl⟩)
                go_ret
                exact ⟨rfl, B_24.out⟩
set_option maxRecDepth 100000 in
theorem ldrops_lifted (os : Os) (started : os.Started) (H : Type) (enc : TypeId × Value → H) :
    ReturnsInHanded {} Try.checked os 7 .any (Rows.modelDropsSpec.pre6 enc Try.prog Try.f7 Rows.modelDropsRow.domain false) (Rows.modelDropsSpec.post enc Try.prog Try.f7 false true false false) := by
  refine returnsInHanded_of_change_sized (C := Try.checked) own started (by kernel_rfl) Try.func7
    (ChangeSpec.witness6 (enc := enc) (C := Try.checked) false ⟨#[], #[.agg #[.slice none 0 0, .slice none 0 0, .int .i64 0], .int .i64 0, .int .i64 0, .int .i64 0], []⟩ 8 (by kernel_rfl) (by kernel_rfl) (by kernel_rfl) (by kernel_rfl)) ?_
  intro W base args ds gs before hval0 hW _ hsz0 _
  have hsz : (DataW.weightsEach Try.prog (Try.f7.params.toList ++ Rows.modelDropsSpec.plain.varTypes Try.prog) (ds ++ gs)).all (· ≤ reachBytes) = true := hsz0
  clear hsz0
  have hval : ∀ (j : Nat) t v, Try.f7.params[j]? = some t → args[j]? = some v → Value.okWide Try.prog W .any base t v := hval0
  have hW' := hW
  obtain ⟨p, q, hA0, hV, rfl, hfz, hnd⟩ := hW
  have hA : DataW.TrodAll enc Try.prog W 0 (fun _ => true) true Try.f7.params.toList args.toList ds p := hA0
  rw [Try.params7] at hA hval hsz
  obtain ⟨v0, vs0, d0, ds0, p0, q0, hargs, rfl, rfl, h0, r0⟩ := trodAll_cons hA
  obtain ⟨v1, vs1, d1, ds1, p1, q1, rfl, rfl, rfl, h1, r1⟩ := trodAll_cons r0
  obtain ⟨v2, vs2, d2, ds2, p2, q2, rfl, rfl, rfl, h2, r2⟩ := trodAll_cons r1
  obtain ⟨v3, vs3, d3, ds3, p3, q3, rfl, rfl, rfl, h3, r3⟩ := trodAll_cons r2
  obtain ⟨rfl, rfl, rfl⟩ := trodAll_nil r3
  obtain rfl : args = #[v0, v1, v2, v3] := by cases args; simp_all
  obtain ⟨rfl, rfl⟩ := trodVars_none hV
  obtain ⟨c0, rfl, -⟩ := okWide_struct Try.underlying25 (hval 0 25 v0 rfl rfl)
  have k0 := h0
  have lt0 : ∀ x ∈ p0, x.block < W.heap.size := by obtain ⟨m, hm⟩ := k0; exact DataW.trod_lt m _ _ _ hm
  obtain ⟨x0, hx0⟩ := opens_state10.arg h0 hsz (j := 0) rfl rfl
  obtain ⟨a1, rfl, rfl, rfl, w1⟩ := open_int Try.underlying3 (hval 1 3 v1 rfl rfl) h1
  have i1 := bounds_i64 w1
  obtain ⟨a2, rfl, rfl, rfl, w2⟩ := open_int Try.underlying3 (hval 2 3 v2 rfl rfl) h2
  have i2 := bounds_i64 w2
  obtain ⟨a3, rfl, rfl, rfl, w3⟩ := open_int Try.underlying3 (hval 3 3 v3 rfl rfl) h3
  have i3 := bounds_i64 w3
  clear hA0 hval0
  refine (ldrops_walk c0.toList x0 a1 a2 a3 W hx0 (by omega) (by omega) (by omega) (by omega) (by omega) (by omega)).mono fun e W' ⟨he, bel⟩ => ?_
  subst he
  exact ⟨_, rfl, _, _, _, [], _, [], hW', trodAll_mk1 (shut_bool Try.underlying4 _), (trodAll_cons_mk (Below.trod laidOut (by kernel_rfl) (of_decide_eq_true (by kernel_rfl)) k0 bel lt0) (trodAll_cons_mk (shut_int Try.underlying3 w1) (trodAll_cons_mk (shut_int Try.underlying3 w2) (trodAll_cons_mk (shut_int Try.underlying3 w3) trodAll_mk0)))), rfl, bel.frame _, fun h => by cases h⟩
theorem modelDrops_holds : Rows.ModelDropsSaid :=
  OpenClaim.holds_of_wide 7 Try.f7 rfl rfl rfl rfl rfl rfl rfl ⟨rfl, rfl, rfl, rfl, rfl⟩ rfl rfl rfl rfl rfl (by kernel_rfl) Try.func7 (by kernel_rfl)
    (of_decide_eq_true (by kernel_rfl)) (by unfold Func.isWrapper; first | (rw [if_pos (by decide +kernel)]; kernel_rfl) | (rw [if_neg (by decide +kernel)]; exact ⟨rfl, rfl⟩))
    (fun os started H enc _ => ldrops_lifted os started H enc)
end Go.Proofs.Ytflcojljpbojlaa
