/-
  A snapshot taken and gone back to is the disk that was, whatever came between. Conditions: none.
-/
import Derived.Test.YtflcojljpbojlaaM18
import Derived.Test.YtflcojljpbojlaaM19
import Derived.Test.YtflcojljpbojlaaM20
import Derived.Test.YtflcojljpbojlaaM21
import Derived.Test.YtflcojljpbojlaaM22
namespace Go.Proofs.Ytflcojljpbojlaa
open Go.ChangeShapes Go.WideShapes Go.ChangeAt Go.RowKit
open Go.ChangeMaps (open_string shut_string)
set_option linter.unusedVariables false
set_option maxRecDepth 20000 in
set_option maxHeartbeats 8000000 in
theorem lreverts_walk (cs0 : List Value) (s : Sta) (nm : ByteArray) (la : Option Addr) (ln lc : Nat) (l : List Opn) (W : World) (h0 : rSta.rd W (fun b => b < W.heap.size) cs0 s) (h1 : nm.size ≤ maxLen) (h2 : rOpns.rd W (fun b => b < W.heap.size) [.slice la ln lc] l) :
    Calls Try.prog 6 #[.agg cs0.toArray, .string nm, .slice la ln lc] W fun e W' => e = .returned (.bool true) ∧ Below W.heap.size W W' := by
  obtain ⟨a0, n0, c0, b0, m0, d0, rfl, hD, hU, hI⟩ := rSta_cells h0
  obtain ⟨t0, ht0⟩ : ∃ t, t = s.2.2 := ⟨_, rfl⟩
  rw [← ht0] at h0 ⊢
  rw [← ht0] at hI
  have HTs : Hid _ := ht0
  have HT64 : Hid (I64 t0) := hI
  have HNs : Hid (s.1.length = n0) := (rL_len hD).1
  have HMs : Hid (s.2.1.length = m0) := (rL_len hU).1
  rw [show ([.slice a0 n0 c0, .slice b0 m0 d0, .int .i64 t0] : List Value).toArray = #[.slice a0 n0 c0, .slice b0 m0 d0, .int .i64 t0] from rfl]
  obtain ⟨w1, hw1, V1, b1, z1⟩ := boxedRow W 25 [.slice a0 n0 c0, .slice b0 m0 d0, .int .i64 t0]
  have Rs_1 : Hid (Row w1 (W.heap.size) 25 [.slice a0 n0 c0, .slice b0 m0 d0, .int .i64 t0]) := V1
  have Ds_1 : Hid (rSta.rd w1 (fun b => b < W.heap.size) [.slice a0 n0 c0, .slice b0 m0 d0, .int .i64 t0] (s)) := Rep.below h0 b1
  have B_1 : Hid (Below W.heap.size W w1) := b1
  have Ol_1 : Hid (rOpns.rd w1 (fun b => b < W.heap.size) [.slice la ln lc] (l)) := Rep.below h2 b1
  have HNm : Hid (nm.size ≤ maxLen) := h1
  have HLl : Hid (l.length = ln) := (rL_len h2).1
  clear h1 h2
  clear V1 b1 z1 hD hU hI h0 ht0
  go_enter Try.func6, Try.ntmps6
  go_wp2_with fail
  refine Calls.mono (alive10_u _) ?_
  rintro e w2 ⟨rfl, b2⟩
  have Rs_2 : Hid (Row w2 (W.heap.size) 25 [.slice a0 n0 c0, .slice b0 m0 d0, .int .i64 t0]) := Rs_1.out.below (b2)
  have Ds_2 : Hid (rSta.rd w2 (fun b => b < W.heap.size) [.slice a0 n0 c0, .slice b0 m0 d0, .int .i64 t0] (s)) := Rep.below Ds_1.out (b2)
  have Ol_2 : Hid (rOpns.rd w2 (fun b => b < W.heap.size) [.slice la ln lc] (l)) := Rep.below Ol_1.out (b2)
  have B_2 : Hid (Below W.heap.size W w2) := on B_1.out (b2)
  clear Rs_1 Ds_1 Ol_1
  clear b2
  have qs0 := Rs_2.out.cell (j := 0) rfl
  have qs1 := Rs_2.out.cell (j := 1) rfl
  have qs2 := Rs_2.out.cell (j := 2) rfl
  go_wp2_with (go_at_call 15; refine (num10_u _ _).mono ?_; rintro e w99 ⟨rfl, rfl⟩)
  go_at_call 9
  refine Calls.mono (ofV w2 _ a0 b0 n0 c0 m0 d0 t0 s Ds_2.out) ?_
  rintro e w3 ⟨av, cv, bv, dv, rfl, h3, b3⟩
  have Dv_3 : Hid (rSta.rd w3 (fun b => w2.heap.size ≤ b) [.slice av n0 cv, .slice bv m0 dv, .int .i64 t0] (s)) := staF_sta h3
  have Rs_3 : Hid (Row w3 (W.heap.size) 25 [.slice a0 n0 c0, .slice b0 m0 d0, .int .i64 t0]) := Rs_2.out.below (b3)
  have Ds_3 : Hid (rSta.rd w3 (fun b => b < W.heap.size) [.slice a0 n0 c0, .slice b0 m0 d0, .int .i64 t0] (s)) := Rep.below Ds_2.out (b3)
  have Ol_3 : Hid (rOpns.rd w3 (fun b => b < W.heap.size) [.slice la ln lc] (l)) := Rep.below Ol_2.out (b3)
  have B_3 : Hid (Below W.heap.size W w3) := on B_2.out (b3)
  clear qs0 qs1 qs2
  clear Rs_2 Ds_2 Ol_2
  clear h3 b3
  go_wp2_with (go_at_call 15; refine (num10_u _ _).mono ?_; rintro e w99 ⟨rfl, rfl⟩)
  go_at_call 11
  refine Calls.mono (do_v w3 _ av bv n0 cv m0 dv t0 s Dv_3.out 4 0 0 0 nm [] none 0 0 (by unfold I64; decide) (by unfold I64; decide) (by unfold I64; decide) (by unfold I64; decide) HNm.out (P' := fun _ => True) (rBytes_none _ _ _ _ (fun _ => rfl))) ?_
  rintro e w4 ⟨aa, na, ca, ba, ma, da, ta, xr, yr, zr, fr, gr, hr, rfl, hd4, hy4, hn4, bb4⟩
  obtain ⟨Er, hEr⟩ : ∃ z, z = (Mo.doR s (Mo.tOp nm)).1 := ⟨_, rfl⟩
  obtain ⟨Ir, hIr⟩ : ∃ z, z = (Mo.doR s (Mo.tOp nm)).2.2.1 := ⟨_, rfl⟩
  obtain ⟨Zr, hZr⟩ : ∃ z, z = (Mo.doR s (Mo.tOp nm)).2.2.2.2 := ⟨_, rfl⟩
  rw [← hEr, ← hIr, ← hZr]
  have HEr : Hid _ := hEr
  have HIr : Hid _ := hIr
  have HZr : Hid _ := hZr
  clear hEr hIr hZr
  have Da_4 : Hid (rSta.rd w4 (fun b => w3.heap.size ≤ b ∧ b < w4.heap.size) [.slice aa na ca, .slice ba ma da, .int .i64 ta] (Mo.doS s (Mo.tOp nm))) := rSta.weaken hd4 (fun q hq hl => ⟨hq, hl⟩)
  have Yr_4 : Hid (rBytes.rd w4 (fun b => w3.heap.size ≤ b) [.slice xr yr zr] ((Mo.doR s (Mo.tOp nm)).2.1)) := hy4
  have Nr_4 : Hid (rNmds.rd w4 (fun b => w3.heap.size ≤ b) [.slice fr gr hr] ((Mo.doR s (Mo.tOp nm)).2.2.2.1)) := hn4
  have Rs_4 : Hid (Row w4 (W.heap.size) 25 [.slice a0 n0 c0, .slice b0 m0 d0, .int .i64 t0]) := Rs_3.out.below (bb4)
  have Ds_4 : Hid (rSta.rd w4 (fun b => b < W.heap.size) [.slice a0 n0 c0, .slice b0 m0 d0, .int .i64 t0] (s)) := Rep.below Ds_3.out (bb4)
  have Ol_4 : Hid (rOpns.rd w4 (fun b => b < W.heap.size) [.slice la ln lc] (l)) := Rep.below Ol_3.out (bb4)
  have Dv_4 : Hid (rSta.rd w4 (fun b => w2.heap.size ≤ b) [.slice av n0 cv, .slice bv m0 dv, .int .i64 t0] (s)) := Rep.below Dv_3.out (bb4)
  have B_4 : Hid (Below W.heap.size W w4) := on B_3.out (bb4)
  clear Rs_3 Ds_3 Ol_3 Dv_3
  have HLT4 : Hid (W.heap.size < w4.heap.size) := Rs_4.out.lt
  clear hd4 hy4 hn4 bb4
  obtain ⟨wA5, wB5, wX5, w5, hA5, hB5, va, hX5, vr, hY5, vs, vt, k5, hl5⟩ := fresh2 w4 (.slice aa na ca) (.slice ba ma da) (.int .i64 ta) (.int .i64 Er) (.slice xr yr zr) (.int .i64 Ir) (.slice fr gr hr) (.int .i64 Zr)
  have Ra_5 : Hid (Row w5 (w4.heap.size) 31 [.slice aa na ca, .slice ba ma da, .int .i64 ta]) := vs
  have Rr_5 : Hid (Row w5 (wA5.heap.size) 38 [.int .i64 Er, .slice xr yr zr, .int .i64 Ir, .slice fr gr hr, .int .i64 Zr]) := vt
  have Rs_5 : Hid (Row w5 (W.heap.size) 25 [.slice a0 n0 c0, .slice b0 m0 d0, .int .i64 t0]) := Rs_4.out.below (k5)
  have Ds_5 : Hid (rSta.rd w5 (fun b => b < W.heap.size) [.slice a0 n0 c0, .slice b0 m0 d0, .int .i64 t0] (s)) := Rep.below Ds_4.out (k5)
  have Ol_5 : Hid (rOpns.rd w5 (fun b => b < W.heap.size) [.slice la ln lc] (l)) := Rep.below Ol_4.out (k5)
  have Dv_5 : Hid (rSta.rd w5 (fun b => w2.heap.size ≤ b) [.slice av n0 cv, .slice bv m0 dv, .int .i64 t0] (s)) := Rep.below Dv_4.out (k5)
  have Da_5 : Hid (rSta.rd w5 (fun b => w3.heap.size ≤ b ∧ b < w4.heap.size) [.slice aa na ca, .slice ba ma da, .int .i64 ta] (Mo.doS s (Mo.tOp nm))) := Rep.below Da_4.out (k5)
  have Yr_5 : Hid (rBytes.rd w5 (fun b => w3.heap.size ≤ b) [.slice xr yr zr] ((Mo.doR s (Mo.tOp nm)).2.1)) := Rep.below Yr_4.out (k5)
  have Nr_5 : Hid (rNmds.rd w5 (fun b => w3.heap.size ≤ b) [.slice fr gr hr] ((Mo.doR s (Mo.tOp nm)).2.2.2.1)) := Rep.below Nr_4.out (k5)
  have B_5 : Hid (Below W.heap.size W w5) := on B_4.out (k5)
  clear Rs_4 Ds_4 Ol_4 Dv_4 Da_4 Yr_4 Nr_4
  have p5_0 := va.cell (j := 0) rfl
  have r5_0 := va.frozen 0
  have p5_1 := va.cell (j := 1) rfl
  have r5_1 := va.frozen 1
  have p5_2 := va.cell (j := 2) rfl
  have r5_2 := va.frozen 2
  have s5_0 := vr.cell (j := 0) rfl
  have u5_0 := vr.frozen 0
  have s5_1 := vr.cell (j := 1) rfl
  have u5_1 := vr.frozen 1
  have s5_2 := vr.cell (j := 2) rfl
  have u5_2 := vr.frozen 2
  have s5_3 := vr.cell (j := 3) rfl
  have u5_3 := vr.frozen 3
  have s5_4 := vr.cell (j := 4) rfl
  have u5_4 := vr.frozen 4
  have HL5 : Hid _ := hl5
  clear va vr vs vt k5 hl5
  have qr0 := Rr_5.out.cell (j := 0) rfl
  have qr1 := Rr_5.out.cell (j := 1) rfl
  have qr2 := Rr_5.out.cell (j := 2) rfl
  have qr3 := Rr_5.out.cell (j := 3) rfl
  have qr4 := Rr_5.out.cell (j := 4) rfl
  by_cases hE : Er = 0
  case neg =>
    have hEn : (Er != 0) = true := bne_iff_ne.2 hE
    have hI : Ir = 0 := HIr.out.trans (Mo.err_id (by rw [← HEr.out]; exact hE))
    subst hI
    go_wp2_with (go_at_call 15; refine (num10_u _ _).mono ?_; rintro e w99 ⟨rfl, rfl⟩)
    go_ret
    exact ⟨rfl, B_5.out⟩
  case pos =>
    obtain ⟨hHas, hId⟩ := Mo.has_take (s := s) (nm := nm) (by rw [← HEr.out]; exact hE)
    have HHas : Hid _ := hHas
    have HId : Hid (Ir = s.2.2) := HIr.out.trans hId
    have HIb : Hid (I64 Ir) := by rw [HId.out, ← HTs.out]; exact HT64.out
    clear hHas hId
    obtain rfl := hE
    clear HEr HIr
    go_wp2_with (go_at_call 15; refine (num10_u _ _).mono ?_; rintro e w99 ⟨rfl, rfl⟩)
    clear p5_0 r5_0 p5_1 r5_1 p5_2 r5_2 s5_0 u5_0 s5_1 u5_1 s5_2 u5_2 s5_3 u5_3 s5_4 u5_4 hA5 hB5 hX5 hY5 qr0 qr1 qr2 qr3 qr4
    obtain ⟨Ba, hBa⟩ : ∃ Ba, Ba = w4.heap.size := ⟨_, rfl⟩
    have HBa : Hid (W.heap.size < Ba ∧ Ba < wA5.heap.size ∧ Ba < w5.heap.size) := by rw [hBa]; exact ⟨HLT4.out, HL5.out, Ra_5.out.lt⟩
    have RB : Hid (Row w5 Ba 31 [.slice aa na ca, .slice ba ma da, .int .i64 ta]) := by rw [hBa]; exact Ra_5.out
    have DB : Hid (rSta.rd w5 (· ≠ Ba) [.slice aa na ca, .slice ba ma da, .int .i64 ta] (Mo.doS s (Mo.tOp nm))) := rSta.weaken Da_5.out (fun q hq _ => by rw [hBa]; have h := hq.2; show q ≠ w4.heap.size; omega)
    have HH0 : Hid (Mo.Has (Mo.doS s (Mo.tOp nm)) Ir s.1) := by unfold Hid; rw [HId.out]; exact HHas.out
    rw [← hBa]
    clear hBa Ra_5 Da_5
    go_loopw [9] (fun i wr => ∃ (j : Nat) (a : Option Addr) (n c : Nat) (b : Option Addr) (m d : Nat) (t : Int) (St : Sta), j ≤ 10 ∧ j ≤ ln ∧ i = .int .i64 j ∧ Hid (Row wr Ba 31 [.slice a n c, .slice b m d, .int .i64 t]) ∧ Hid (rSta.rd wr (· ≠ Ba) [.slice a n c, .slice b m d, .int .i64 t] St) ∧ Hid (Mo.Has St Ir s.1) ∧ Hid (Kept (fun q => q < w5.heap.size ∧ q ≠ Ba) w5 wr)) (fun i _ => 10 - (intOf i).toNat)
    case atStart => exact ⟨0, _, _, _, _, _, _, _, _, by omega, Nat.zero_le _, rfl, RB, DB, HH0, Kept.refl _ _⟩
    case round =>
      obtain ⟨j, a, n, c, b, m, d, t, St, hj, hjl, rfl, RV, DV, HH, HK⟩ := hrel
      clear RB DB HH0
      by_cases hgo : j < ln ∧ j < 10
      · skip
        obtain ⟨h1, h2⟩ := hgo
        have hjz : (j : Int) < (ln : Int) := by omega
        have hjt : (j : Int) < 10 := by omega
        have HOr : Hid (rOpns.rd wr (fun b => b < W.heap.size) [.slice la ln lc] l) := Rep.kept Ol_5.out HK.out (fun q hq hl => ⟨hl, by have h := HBa.out.1; have h3 : q < W.heap.size := hq; omega⟩)
        obtain ⟨g, off, rfl, hgW, hgl, hat⟩ := rOpns_at HOr.out (by omega)
        have hjL : j < l.length := by rw [HLl.out]; exact h1
        obtain ⟨x, xm, xd, hx, o0, o1, o2, o3, o4, o5, i0, i1, i2, i3, i4⟩ := hat j hjL
        obtain ⟨X, hX⟩ : ∃ X, X = l[j] := ⟨_, rfl⟩
        rw [← hX] at hx o0 o1 o2 o3 o4 i0 i1 i2 i3 i4
        have HX : Hid _ := hx
        have HI : Hid (I64 X.1 ∧ I64 X.2.1 ∧ I64 X.2.2.1 ∧ I64 X.2.2.2.1 ∧ X.2.2.2.2.1.size ≤ maxLen) := ⟨i0, i1, i2, i3, i4⟩
        have HgB : Hid (g < Ba ∧ g < wr.heap.size) := ⟨by have h := HBa.out.1; have h3 : g < W.heap.size := hgW; omega, hgl⟩
        obtain ⟨x0, x1, x2, x3, x4, x5⟩ := X
        simp only at o0 o1 o2 o3 o4 o5
        have HO : Hid (wr.cell? ⟨g, off + j * 6, none⟩ = some (.int .i64 x0) ∧ wr.cell? ⟨g, off + j * 6 + 1, none⟩ = some (.int .i64 x1) ∧ wr.cell? ⟨g, off + j * 6 + 2, none⟩ = some (.int .i64 x2) ∧ wr.cell? ⟨g, off + j * 6 + 3, none⟩ = some (.int .i64 x3) ∧ wr.cell? ⟨g, off + j * 6 + 4, none⟩ = some (.string x4) ∧ wr.cell? ⟨g, off + j * 6 + 5, none⟩ = some (.slice x xm xd)) := ⟨o0, o1, o2, o3, o4, o5⟩
        clear hat hx hX i0 i1 i2 i3 i4 hjL hgW hgl
        by_cases h5 : x0 = 5
        · have e5 : (x0 != 5) = false := by rw [h5]; rfl
          go_wp2
          go_roundw
          case rel => exact ⟨j + 1, _, _, _, _, _, _, _, _, by omega, by omega, by go_num, RV, DV, HH, HK⟩
          case measure => simp [intOf]; omega
        · have e5 : (x0 != 5) = true := bne_iff_ne.2 h5
          have H5 : Hid (x0 ≠ 5) := h5
          clear h5
          go_wp2_with fail
          clear e5 o1 o2 o3 o4 o5
          have HSeeB : Hid (∀ w', Below wr.heap.size wr w' → w'.cell? ⟨g, off + j * 6, none⟩ = some (.int .i64 x0) ∧ w'.cell? ⟨g, off + j * 6 + 1, none⟩ = some (.int .i64 x1) ∧ w'.cell? ⟨g, off + j * 6 + 2, none⟩ = some (.int .i64 x2) ∧ w'.cell? ⟨g, off + j * 6 + 3, none⟩ = some (.int .i64 x3) ∧ w'.cell? ⟨g, off + j * 6 + 4, none⟩ = some (.string x4) ∧ w'.cell? ⟨g, off + j * 6 + 5, none⟩ = some (.slice x xm xd)) := fun w' hb => ⟨(hb.cell (p := ⟨g, off + j * 6, none⟩) HgB.out.2).trans HO.out.1, (hb.cell (p := ⟨g, off + j * 6 + 1, none⟩) HgB.out.2).trans HO.out.2.1, (hb.cell (p := ⟨g, off + j * 6 + 2, none⟩) HgB.out.2).trans HO.out.2.2.1, (hb.cell (p := ⟨g, off + j * 6 + 3, none⟩) HgB.out.2).trans HO.out.2.2.2.1, (hb.cell (p := ⟨g, off + j * 6 + 4, none⟩) HgB.out.2).trans HO.out.2.2.2.2.1, (hb.cell (p := ⟨g, off + j * 6 + 5, none⟩) HgB.out.2).trans HO.out.2.2.2.2.2⟩
          have HSeeK : Hid (∀ w' w'', Below wr.heap.size wr w' → Kept (· ≠ Ba) w' w'' → w''.cell? ⟨g, off + j * 6, none⟩ = some (.int .i64 x0) ∧ w''.cell? ⟨g, off + j * 6 + 1, none⟩ = some (.int .i64 x1) ∧ w''.cell? ⟨g, off + j * 6 + 2, none⟩ = some (.int .i64 x2) ∧ w''.cell? ⟨g, off + j * 6 + 3, none⟩ = some (.int .i64 x3) ∧ w''.cell? ⟨g, off + j * 6 + 4, none⟩ = some (.string x4) ∧ w''.cell? ⟨g, off + j * 6 + 5, none⟩ = some (.slice x xm xd)) := fun w' w'' hb hk => ⟨hk.cell (p := ⟨g, off + j * 6, none⟩) (by have h := HgB.out.1; show g ≠ Ba; omega) ((hb.cell (p := ⟨g, off + j * 6, none⟩) HgB.out.2).trans HO.out.1), hk.cell (p := ⟨g, off + j * 6 + 1, none⟩) (by have h := HgB.out.1; show g ≠ Ba; omega) ((hb.cell (p := ⟨g, off + j * 6 + 1, none⟩) HgB.out.2).trans HO.out.2.1), hk.cell (p := ⟨g, off + j * 6 + 2, none⟩) (by have h := HgB.out.1; show g ≠ Ba; omega) ((hb.cell (p := ⟨g, off + j * 6 + 2, none⟩) HgB.out.2).trans HO.out.2.2.1), hk.cell (p := ⟨g, off + j * 6 + 3, none⟩) (by have h := HgB.out.1; show g ≠ Ba; omega) ((hb.cell (p := ⟨g, off + j * 6 + 3, none⟩) HgB.out.2).trans HO.out.2.2.2.1), hk.cell (p := ⟨g, off + j * 6 + 4, none⟩) (by have h := HgB.out.1; show g ≠ Ba; omega) ((hb.cell (p := ⟨g, off + j * 6 + 4, none⟩) HgB.out.2).trans HO.out.2.2.2.2.1), hk.cell (p := ⟨g, off + j * 6 + 5, none⟩) (by have h := HgB.out.1; show g ≠ Ba; omega) ((hb.cell (p := ⟨g, off + j * 6 + 5, none⟩) HgB.out.2).trans HO.out.2.2.2.2.2)⟩
          have S0 := HSeeB.out _ (Below.refl _ wr).drew
          refine wp_region_held_drew (S := (fun w' : World => w'.cell? ⟨g, off + j * 6, none⟩ = some (.int .i64 x0) ∧ w'.cell? ⟨g, off + j * 6 + 1, none⟩ = some (.int .i64 x1) ∧ w'.cell? ⟨g, off + j * 6 + 2, none⟩ = some (.int .i64 x2) ∧ w'.cell? ⟨g, off + j * 6 + 3, none⟩ = some (.int .i64 x3) ∧ w'.cell? ⟨g, off + j * 6 + 4, none⟩ = some (.string x4) ∧ w'.cell? ⟨g, off + j * 6 + 5, none⟩ = some (.slice x xm xd))) (by kernel_rfl) (S0) (fun hHeld => ?_)
          refine wpAnyH_takeL (i := 1) (v := ?_) rfl rfl (by kernel_rfl) (by kernel_rfl) (by kernel_rfl) (fun _ _ _ h => h) (Or.inl ⟨by rfl, ?_⟩) (by assumption) ?_
          rotate_left
          · intro w hSw
            try dsimp only at hSw
            go_simp
            all_goals with_reducible rfl
          simp only [List.set_cons_zero, List.set_cons_succ]
          refine wpAnyH_takeL (i := 2) (v := ?_) rfl rfl (by kernel_rfl) (by kernel_rfl) (by kernel_rfl) (fun _ _ _ h => h) (Or.inl ⟨by rfl, ?_⟩) (by assumption) ?_
          rotate_left
          · intro w hSw
            try dsimp only at hSw
            go_simp
            all_goals with_reducible rfl
          simp only [List.set_cons_zero, List.set_cons_succ]
          refine wpAnyH_takeL (i := 3) (v := ?_) rfl rfl (by kernel_rfl) (by kernel_rfl) (by kernel_rfl) (fun _ _ _ h => h) (Or.inl ⟨by rfl, ?_⟩) (by assumption) ?_
          rotate_left
          · intro w hSw
            try dsimp only at hSw
            go_simp
            all_goals with_reducible rfl
          simp only [List.set_cons_zero, List.set_cons_succ]
          refine wpAnyH_takeL (i := 4) (v := ?_) rfl rfl (by kernel_rfl) (by kernel_rfl) (by kernel_rfl) (fun _ _ _ h => h) (Or.inl ⟨by rfl, ?_⟩) (by assumption) ?_
          rotate_left
          · intro w hSw
            try dsimp only at hSw
            go_simp
            all_goals with_reducible rfl
          simp only [List.set_cons_zero, List.set_cons_succ]
          refine wpAnyH_ready (rs := [0, 5]) (by kernel_rfl) (by simp) ?_
          refine AllReadyH.cons rfl (fun K hK => ?_) ?_
          · have p0 := RV.out.cell (j := 0) rfl
            have p1 := RV.out.cell (j := 1) rfl
            have p2 := RV.out.cell (j := 2) rfl
            go_simp
            clear p0 p1 p2
            refine hK.out _ _ ?_ (fun hHeld => ?_)
            · try dsimp only
              first | exact SX | exact SD | exact SO | exact S0
            clear hK K
            refine wpAnyH_ready (rs := [5]) (by kernel_rfl) (by simp) ?_
            refine AllReadyH.cons rfl (fun K hK => ?_) ?_
            · go_simp
              go_at_call 10
              refine Calls.mono (ofOp_f wr.drew _ x0 x1 x2 x3 x4 x5 x xm xd (rBytes.keep HX.out (fun _ _ _ => rfl))) ?_
              rintro e wo ⟨og, od, rfl, hro, bo⟩
              have BO : Hid (Below wr.heap.size wr wo) := (Below.refl _ wr).drew.trans bo
              have HRO : Hid (rBytes.rd wo (fun q => wr.heap.size ≤ q) [.slice og xm od] x5) := hro.1
              have SO := HSeeB.out _ BO.out
              clear hro bo
              go_simp
              refine hK.out _ _ ?_ (fun hHeld => ?_)
              · try dsimp only
                first | exact SX | exact SD | exact SO | exact S0
              clear hK K
              refine wpAnyH_ready (rs := [6]) (by kernel_rfl) (by simp) ?_
              refine AllReadyH.cons rfl (fun K hK => ?_) ?_
              · go_simp
                go_at_call 11
                refine Calls.mono (do_v wo (fun _ => True) a b n c m d t St (rSta.weaken (Rep.below DV.out BO.out) (fun _ _ _ => trivial)) x0 x1 x2 x3 x4 x5 og xm od HI.out.1 HI.out.2.1 HI.out.2.2.1 HI.out.2.2.2.1 HI.out.2.2.2.2 HRO.out) ?_
                rintro e wd ⟨a', n', c', b', m', d', t', da', dn, dc, la', ln', lc', rfl, hrd, -, -, bd⟩
                have HRD : Hid (rSta.rd wd (fun q => wo.heap.size ≤ q) [.slice a' n' c', .slice b' m' d', .int .i64 t'] (Mo.doS St (x0, x1, x2, x3, x4, x5))) := hrd
                have BD : Hid (Below wr.heap.size wr wd) := on BO.out bd
                have VD : Hid (Row wd Ba 31 [.slice a n c, .slice b m d, .int .i64 t]) := RV.out.below BD.out
                have SD := HSeeB.out _ BD.out
                clear hrd bd
                go_simp
                refine hK.out _ _ ?_ (fun hHeld => ?_)
                · try dsimp only
                  first | exact SX | exact SD | exact SO | exact S0
                clear hK K
                refine wpAnyH_takeL (i := 7) (v := ?_) rfl rfl (by kernel_rfl) (by kernel_rfl) (by kernel_rfl) (fun _ _ _ h => h) (Or.inl ⟨by rfl, ?_⟩) (by assumption) ?_
                rotate_left
                · intro w hSw
                  try dsimp only at hSw
                  go_simp
                  all_goals with_reducible rfl
                simp only [List.set_cons_zero, List.set_cons_succ]
                refine wpAnyH_takeL (i := 8) (v := ?_) rfl rfl (by kernel_rfl) (by kernel_rfl) (by kernel_rfl) (fun _ _ _ h => h) (Or.inl ⟨by rfl, ?_⟩) (by assumption) ?_
                rotate_left
                · intro w hSw
                  try dsimp only at hSw
                  go_simp
                  all_goals with_reducible rfl
                simp only [List.set_cons_zero, List.set_cons_succ]
                refine wpAnyH_takeL (i := 9) (v := ?_) rfl rfl (by kernel_rfl) (by kernel_rfl) (by kernel_rfl) (fun _ _ _ h => h) (Or.inl ⟨by rfl, ?_⟩) (by assumption) ?_
                rotate_left
                · intro w hSw
                  try dsimp only at hSw
                  go_simp
                  all_goals with_reducible rfl
                simp only [List.set_cons_zero, List.set_cons_succ]
                refine wpAnyH_ready (rs := [10]) (by kernel_rfl) (by simp) ?_
                refine AllReadyH.cons rfl (fun K hK => ?_) ?_
                · have p0 := VD.out.cell (j := 0) rfl
                  have p1 := VD.out.cell (j := 1) rfl
                  have p2 := VD.out.cell (j := 2) rfl
                  have f0 := VD.out.frozen 0
                  have f1 := VD.out.frozen 1
                  have f2 := VD.out.frozen 2
                  obtain ⟨wX, hwX, VX', KX'⟩ := VD.out.whole3 (.slice a' n' c') (.slice b' m' d') (.int .i64 t')
                  have VX : Hid _ := VX'
                  have KX : Hid _ := KX'
                  have SX := HSeeK.out _ _ BD.out KX'
                  clear VX' KX'
                  go_simp
                  clear p0 p1 p2 f0 f1 f2
                  refine hK.out _ _ ?_ (fun hHeld => ?_)
                  · try dsimp only
                    first | exact SX | exact SD | exact SO | exact S0
                  clear hK K
                  refine wpAnyH_done (by kernel_rfl) ?_ _
                  clear hHeld SX SD SO
                  have RV9 := VX
                  have DV9 : Hid (rSta.rd wX (· ≠ Ba) [.slice a' n' c', .slice b' m' d', .int .i64 t'] (Mo.doS St (x0, x1, x2, x3, x4, x5))) := rSta.weaken (Rep.kept HRD.out KX.out (fun q hq _ => by have h1 : wo.heap.size ≤ q := hq; have h2 := BO.out.size; have h3 := RV.out.lt; show q ≠ Ba; omega)) (fun q hq _ => by have h1 : wo.heap.size ≤ q := hq; have h2 := BO.out.size; have h3 := RV.out.lt; show q ≠ Ba; omega)
                  have HH9 : Hid (Mo.Has (Mo.doS St (x0, x1, x2, x3, x4, x5)) Ir s.1) := Mo.has_do HH.out H5.out
                  have HK9 : Hid (Kept (fun q => q < w5.heap.size ∧ q ≠ Ba) w5 wX) := (HK.out.on (fun q hq => Nat.lt_of_lt_of_le hq.1 HK.out.size) BD.out).trans (KX.out.mono (fun q hq => hq.2))
                  clear RV DV HH HK HO HX HI HgB HOr o0 VX HRD KX BO BD HRO VD HSeeB HSeeK S0
                  go_wp2
                  go_roundw
                  case rel => exact ⟨j + 1, _, _, _, _, _, _, _, _, by omega, by omega, by go_num, RV9, DV9, HH9, HK9⟩
                  case measure => simp [intOf]; omega
                exact AllReadyH.nil
              exact AllReadyH.nil
            exact AllReadyH.nil
          refine AllReadyH.cons rfl (fun K hK => ?_) ?_
          · go_simp
            go_at_call 10
            refine Calls.mono (ofOp_f wr.drew _ x0 x1 x2 x3 x4 x5 x xm xd (rBytes.keep HX.out (fun _ _ _ => rfl))) ?_
            rintro e wo ⟨og, od, rfl, hro, bo⟩
            have BO : Hid (Below wr.heap.size wr wo) := (Below.refl _ wr).drew.trans bo
            have HRO : Hid (rBytes.rd wo (fun q => wr.heap.size ≤ q) [.slice og xm od] x5) := hro.1
            have SO := HSeeB.out _ BO.out
            clear hro bo
            go_simp
            refine hK.out _ _ ?_ (fun hHeld => ?_)
            · try dsimp only
              first | exact SX | exact SD | exact SO | exact S0
            clear hK K
            refine wpAnyH_ready (rs := [0]) (by kernel_rfl) (by simp) ?_
            refine AllReadyH.cons rfl (fun K hK => ?_) ?_
            · have p0 := (RV.out.below BO.out).cell (j := 0) rfl
              have p1 := (RV.out.below BO.out).cell (j := 1) rfl
              have p2 := (RV.out.below BO.out).cell (j := 2) rfl
              go_simp
              clear p0 p1 p2
              refine hK.out _ _ ?_ (fun hHeld => ?_)
              · try dsimp only
                first | exact SX | exact SD | exact SO | exact S0
              clear hK K
              refine wpAnyH_ready (rs := [6]) (by kernel_rfl) (by simp) ?_
              refine AllReadyH.cons rfl (fun K hK => ?_) ?_
              · go_simp
                go_at_call 11
                refine Calls.mono (do_v wo (fun _ => True) a b n c m d t St (rSta.weaken (Rep.below DV.out BO.out) (fun _ _ _ => trivial)) x0 x1 x2 x3 x4 x5 og xm od HI.out.1 HI.out.2.1 HI.out.2.2.1 HI.out.2.2.2.1 HI.out.2.2.2.2 HRO.out) ?_
                rintro e wd ⟨a', n', c', b', m', d', t', da', dn, dc, la', ln', lc', rfl, hrd, -, -, bd⟩
                have HRD : Hid (rSta.rd wd (fun q => wo.heap.size ≤ q) [.slice a' n' c', .slice b' m' d', .int .i64 t'] (Mo.doS St (x0, x1, x2, x3, x4, x5))) := hrd
                have BD : Hid (Below wr.heap.size wr wd) := on BO.out bd
                have VD : Hid (Row wd Ba 31 [.slice a n c, .slice b m d, .int .i64 t]) := RV.out.below BD.out
                have SD := HSeeB.out _ BD.out
                clear hrd bd
                go_simp
                refine hK.out _ _ ?_ (fun hHeld => ?_)
                · try dsimp only
                  first | exact SX | exact SD | exact SO | exact S0
                clear hK K
                refine wpAnyH_takeL (i := 7) (v := ?_) rfl rfl (by kernel_rfl) (by kernel_rfl) (by kernel_rfl) (fun _ _ _ h => h) (Or.inl ⟨by rfl, ?_⟩) (by assumption) ?_
                rotate_left
                · intro w hSw
                  try dsimp only at hSw
                  go_simp
                  all_goals with_reducible rfl
                simp only [List.set_cons_zero, List.set_cons_succ]
                refine wpAnyH_takeL (i := 8) (v := ?_) rfl rfl (by kernel_rfl) (by kernel_rfl) (by kernel_rfl) (fun _ _ _ h => h) (Or.inl ⟨by rfl, ?_⟩) (by assumption) ?_
                rotate_left
                · intro w hSw
                  try dsimp only at hSw
                  go_simp
                  all_goals with_reducible rfl
                simp only [List.set_cons_zero, List.set_cons_succ]
                refine wpAnyH_takeL (i := 9) (v := ?_) rfl rfl (by kernel_rfl) (by kernel_rfl) (by kernel_rfl) (fun _ _ _ h => h) (Or.inl ⟨by rfl, ?_⟩) (by assumption) ?_
                rotate_left
                · intro w hSw
                  try dsimp only at hSw
                  go_simp
                  all_goals with_reducible rfl
                simp only [List.set_cons_zero, List.set_cons_succ]
                refine wpAnyH_ready (rs := [10]) (by kernel_rfl) (by simp) ?_
                refine AllReadyH.cons rfl (fun K hK => ?_) ?_
                · have p0 := VD.out.cell (j := 0) rfl
                  have p1 := VD.out.cell (j := 1) rfl
                  have p2 := VD.out.cell (j := 2) rfl
                  have f0 := VD.out.frozen 0
                  have f1 := VD.out.frozen 1
                  have f2 := VD.out.frozen 2
                  obtain ⟨wX, hwX, VX', KX'⟩ := VD.out.whole3 (.slice a' n' c') (.slice b' m' d') (.int .i64 t')
                  have VX : Hid _ := VX'
                  have KX : Hid _ := KX'
                  have SX := HSeeK.out _ _ BD.out KX'
                  clear VX' KX'
                  go_simp
                  clear p0 p1 p2 f0 f1 f2
                  refine hK.out _ _ ?_ (fun hHeld => ?_)
                  · try dsimp only
                    first | exact SX | exact SD | exact SO | exact S0
                  clear hK K
                  refine wpAnyH_done (by kernel_rfl) ?_ _
                  clear hHeld SX SD SO
                  have RV9 := VX
                  have DV9 : Hid (rSta.rd wX (· ≠ Ba) [.slice a' n' c', .slice b' m' d', .int .i64 t'] (Mo.doS St (x0, x1, x2, x3, x4, x5))) := rSta.weaken (Rep.kept HRD.out KX.out (fun q hq _ => by have h1 : wo.heap.size ≤ q := hq; have h2 := BO.out.size; have h3 := RV.out.lt; show q ≠ Ba; omega)) (fun q hq _ => by have h1 : wo.heap.size ≤ q := hq; have h2 := BO.out.size; have h3 := RV.out.lt; show q ≠ Ba; omega)
                  have HH9 : Hid (Mo.Has (Mo.doS St (x0, x1, x2, x3, x4, x5)) Ir s.1) := Mo.has_do HH.out H5.out
                  have HK9 : Hid (Kept (fun q => q < w5.heap.size ∧ q ≠ Ba) w5 wX) := (HK.out.on (fun q hq => Nat.lt_of_lt_of_le hq.1 HK.out.size) BD.out).trans (KX.out.mono (fun q hq => hq.2))
                  clear RV DV HH HK HO HX HI HgB HOr o0 VX HRD KX BO BD HRO VD HSeeB HSeeK S0
                  go_wp2
                  go_roundw
                  case rel => exact ⟨j + 1, _, _, _, _, _, _, _, _, by omega, by omega, by go_num, RV9, DV9, HH9, HK9⟩
                  case measure => simp [intOf]; omega
                exact AllReadyH.nil
              exact AllReadyH.nil
            exact AllReadyH.nil
          exact AllReadyH.nil
      · have hgo2 : ¬ ((j : Int) < (ln : Int)) ∨ ((j : Int) < (ln : Int) ∧ ¬ (j : Int) < 10) := by omega
        obtain ⟨w6, hw6⟩ : ∃ v, v = wr := ⟨_, rfl⟩
        subst hw6
        have Rs_6 : Hid (Row w6 (W.heap.size) 25 [.slice a0 n0 c0, .slice b0 m0 d0, .int .i64 t0]) := Rs_5.out.keep (HK.out.block _ ⟨Rs_5.out.lt, by have h := HBa.out.1; omega⟩)
        have Rr_6 : Hid (Row w6 (wA5.heap.size) 38 [.int .i64 0, .slice xr yr zr, .int .i64 Ir, .slice fr gr hr, .int .i64 Zr]) := Rr_5.out.keep (HK.out.block _ ⟨Rr_5.out.lt, by have h := HBa.out.2.1; omega⟩)
        have Ds_6 : Hid (rSta.rd w6 (fun b => b < W.heap.size) [.slice a0 n0 c0, .slice b0 m0 d0, .int .i64 t0] (s)) := Rep.kept Ds_5.out HK.out (fun q hq hl => ⟨hl, by have h := HBa.out.1; have h3 : q < W.heap.size := hq; omega⟩)
        have Ra_6 : Hid (Row w6 Ba 31 [.slice a n c, .slice b m d, .int .i64 t]) := RV
        have Da_6 : Hid (rSta.rd w6 (· ≠ Ba) [.slice a n c, .slice b m d, .int .i64 t] (St)) := DV
        have B_6 : Hid (Below W.heap.size W w6) := Kept.toBelow ((Kept.below B_5.out).trans (HK.out.mono (fun q hq => by have h := HBa.out; have h3 : q < W.heap.size := hq; have h4 := B_5.out.size; exact ⟨by omega, by omega⟩)))
        clear RV DV HK Rs_5 Rr_5 Ds_5 B_5 Ol_5
        obtain ⟨hr1, hr2, hr3, hr4, hr5, hr6⟩ := Mo.reverts HH.out
        have HV1 : Hid _ := hr1
        have HV2 : Hid _ := hr2
        have HV3 : Hid _ := hr3
        have HV4 : Hid _ := hr4
        have HV5 : Hid _ := hr5
        have HV6 : Hid _ := hr6
        clear hr1 hr2 hr3 hr4 hr5 hr6
        rcases hgo2 with g1 | ⟨g1, g2⟩
        · skip
          have qa0 := Ra_6.out.cell (j := 0) rfl
          have qa1 := Ra_6.out.cell (j := 1) rfl
          have qa2 := Ra_6.out.cell (j := 2) rfl
          have qr0 := Rr_6.out.cell (j := 0) rfl
          have qr1 := Rr_6.out.cell (j := 1) rfl
          have qr2 := Rr_6.out.cell (j := 2) rfl
          have qr3 := Rr_6.out.cell (j := 3) rfl
          have qr4 := Rr_6.out.cell (j := 4) rfl
          go_wp2_with (go_at_call 15; refine (num10_u _ _).mono ?_; rintro e w99 ⟨rfl, rfl⟩)
          go_at_call 11
          refine Calls.mono (do_v w6 _ a b n c m d t St Da_6.out 6 0 0 Ir Mo.noName [] none 0 0 (by unfold I64; decide) (by unfold I64; decide) (by unfold I64; decide) HIb.out (by decide) (P' := fun _ => True) (rBytes_none _ _ _ _ (fun _ => rfl))) ?_
          rintro e w7 ⟨ae, ne, ce, be, me, de, te, xq, yq, zq, fq, gq, hq, rfl, hd7, hy7, hn7, bb7⟩
          obtain ⟨Eq, hEq⟩ : ∃ z, z = (Mo.doR St (Mo.vOp Ir)).1 := ⟨_, rfl⟩
          obtain ⟨Iq, hIq⟩ : ∃ z, z = (Mo.doR St (Mo.vOp Ir)).2.2.1 := ⟨_, rfl⟩
          obtain ⟨Zq, hZq⟩ : ∃ z, z = (Mo.doR St (Mo.vOp Ir)).2.2.2.2 := ⟨_, rfl⟩
          rw [← hEq, ← hIq, ← hZq]
          have HEq : Hid _ := hEq
          have HIq : Hid _ := hIq
          have HZq : Hid _ := hZq
          clear hEq hIq hZq
          have De_7 : Hid (rSta.rd w7 (fun b => w6.heap.size ≤ b ∧ b < w7.heap.size) [.slice ae ne ce, .slice be me de, .int .i64 te] (Mo.doS St (Mo.vOp Ir))) := rSta.weaken hd7 (fun q hq hl => ⟨hq, hl⟩)
          have Yq_7 : Hid (rBytes.rd w7 (fun b => w6.heap.size ≤ b) [.slice xq yq zq] ((Mo.doR St (Mo.vOp Ir)).2.1)) := hy7
          have Nq_7 : Hid (rNmds.rd w7 (fun b => w6.heap.size ≤ b) [.slice fq gq hq] ((Mo.doR St (Mo.vOp Ir)).2.2.2.1)) := hn7
          have Rs_7 : Hid (Row w7 (W.heap.size) 25 [.slice a0 n0 c0, .slice b0 m0 d0, .int .i64 t0]) := Rs_6.out.below (bb7)
          have Ds_7 : Hid (rSta.rd w7 (fun b => b < W.heap.size) [.slice a0 n0 c0, .slice b0 m0 d0, .int .i64 t0] (s)) := Rep.below Ds_6.out (bb7)
          have Rr_7 : Hid (Row w7 (wA5.heap.size) 38 [.int .i64 0, .slice xr yr zr, .int .i64 Ir, .slice fr gr hr, .int .i64 Zr]) := Rr_6.out.below (bb7)
          have Ra_7 : Hid (Row w7 (Ba) 31 [.slice a n c, .slice b m d, .int .i64 t]) := Ra_6.out.below (bb7)
          have Da_7 : Hid (rSta.rd w7 ((· ≠ Ba)) [.slice a n c, .slice b m d, .int .i64 t] (St)) := Rep.below Da_6.out (bb7)
          have B_7 : Hid (Below W.heap.size W w7) := on B_6.out (bb7)
          clear qa0 qa1 qa2 qr0 qr1 qr2 qr3 qr4
          clear Rs_6 Ds_6 Rr_6 Ra_6 Da_6
          have HLT7 : Hid (W.heap.size < w7.heap.size) := Rs_7.out.lt
          clear hd7 hy7 hn7 bb7
          obtain ⟨wA8, wB8, wX8, w8, hA8, hB8, va, hX8, vr, hY8, vs, vt, k8, hl8⟩ := fresh2 w7 (.slice ae ne ce) (.slice be me de) (.int .i64 te) (.int .i64 Eq) (.slice xq yq zq) (.int .i64 Iq) (.slice fq gq hq) (.int .i64 Zq)
          have Re_8 : Hid (Row w8 (w7.heap.size) 31 [.slice ae ne ce, .slice be me de, .int .i64 te]) := vs
          have Rq_8 : Hid (Row w8 (wA8.heap.size) 38 [.int .i64 Eq, .slice xq yq zq, .int .i64 Iq, .slice fq gq hq, .int .i64 Zq]) := vt
          have Rs_8 : Hid (Row w8 (W.heap.size) 25 [.slice a0 n0 c0, .slice b0 m0 d0, .int .i64 t0]) := Rs_7.out.below (k8)
          have Ds_8 : Hid (rSta.rd w8 (fun b => b < W.heap.size) [.slice a0 n0 c0, .slice b0 m0 d0, .int .i64 t0] (s)) := Rep.below Ds_7.out (k8)
          have Rr_8 : Hid (Row w8 (wA5.heap.size) 38 [.int .i64 0, .slice xr yr zr, .int .i64 Ir, .slice fr gr hr, .int .i64 Zr]) := Rr_7.out.below (k8)
          have Ra_8 : Hid (Row w8 (Ba) 31 [.slice a n c, .slice b m d, .int .i64 t]) := Ra_7.out.below (k8)
          have Da_8 : Hid (rSta.rd w8 ((· ≠ Ba)) [.slice a n c, .slice b m d, .int .i64 t] (St)) := Rep.below Da_7.out (k8)
          have De_8 : Hid (rSta.rd w8 (fun b => w6.heap.size ≤ b ∧ b < w7.heap.size) [.slice ae ne ce, .slice be me de, .int .i64 te] (Mo.doS St (Mo.vOp Ir))) := Rep.below De_7.out (k8)
          have Yq_8 : Hid (rBytes.rd w8 (fun b => w6.heap.size ≤ b) [.slice xq yq zq] ((Mo.doR St (Mo.vOp Ir)).2.1)) := Rep.below Yq_7.out (k8)
          have Nq_8 : Hid (rNmds.rd w8 (fun b => w6.heap.size ≤ b) [.slice fq gq hq] ((Mo.doR St (Mo.vOp Ir)).2.2.2.1)) := Rep.below Nq_7.out (k8)
          have B_8 : Hid (Below W.heap.size W w8) := on B_7.out (k8)
          clear Rs_7 Ds_7 Rr_7 Ra_7 Da_7 De_7 Yq_7 Nq_7
          have p8_0 := va.cell (j := 0) rfl
          have r8_0 := va.frozen 0
          have p8_1 := va.cell (j := 1) rfl
          have r8_1 := va.frozen 1
          have p8_2 := va.cell (j := 2) rfl
          have r8_2 := va.frozen 2
          have s8_0 := vr.cell (j := 0) rfl
          have u8_0 := vr.frozen 0
          have s8_1 := vr.cell (j := 1) rfl
          have u8_1 := vr.frozen 1
          have s8_2 := vr.cell (j := 2) rfl
          have u8_2 := vr.frozen 2
          have s8_3 := vr.cell (j := 3) rfl
          have u8_3 := vr.frozen 3
          have s8_4 := vr.cell (j := 4) rfl
          have u8_4 := vr.frozen 4
          have HL8 : Hid _ := hl8
          clear va vr vs vt k8 hl8
          obtain rfl := HEq.out.trans HV1.out
          have qe0 := Re_8.out.cell (j := 0) rfl
          have qe1 := Re_8.out.cell (j := 1) rfl
          have qe2 := Re_8.out.cell (j := 2) rfl
          have qr0 := Rr_8.out.cell (j := 0) rfl
          have qr1 := Rr_8.out.cell (j := 1) rfl
          have qr2 := Rr_8.out.cell (j := 2) rfl
          have qr3 := Rr_8.out.cell (j := 3) rfl
          have qr4 := Rr_8.out.cell (j := 4) rfl
          go_wp2_with (go_at_call 15; refine (num10_u _ _).mono ?_; rintro e w99 ⟨rfl, rfl⟩)
          go_at_call 11
          refine Calls.mono (do_v w8 _ ae be ne ce me de te (Mo.doS St (Mo.vOp Ir)) De_8.out 5 0 0 Ir Mo.noName [] none 0 0 (by unfold I64; decide) (by unfold I64; decide) (by unfold I64; decide) HIb.out (by decide) (P' := fun _ => True) (rBytes_none _ _ _ _ (fun _ => rfl))) ?_
          rintro e w9 ⟨au, nu, cu, bu, mu, du, tu, xp, yp, zp, fp, gp, hp, rfl, hd9, hy9, hn9, bb9⟩
          obtain ⟨Ep, hEp⟩ : ∃ z, z = (Mo.doR (Mo.doS St (Mo.vOp Ir)) (Mo.dOp Ir)).1 := ⟨_, rfl⟩
          obtain ⟨Ip, hIp⟩ : ∃ z, z = (Mo.doR (Mo.doS St (Mo.vOp Ir)) (Mo.dOp Ir)).2.2.1 := ⟨_, rfl⟩
          obtain ⟨Zp, hZp⟩ : ∃ z, z = (Mo.doR (Mo.doS St (Mo.vOp Ir)) (Mo.dOp Ir)).2.2.2.2 := ⟨_, rfl⟩
          rw [← hEp, ← hIp, ← hZp]
          have HEp : Hid _ := hEp
          have HIp : Hid _ := hIp
          have HZp : Hid _ := hZp
          clear hEp hIp hZp
          have Du_9 : Hid (rSta.rd w9 (fun b => w8.heap.size ≤ b ∧ b < w9.heap.size) [.slice au nu cu, .slice bu mu du, .int .i64 tu] (Mo.doS (Mo.doS St (Mo.vOp Ir)) (Mo.dOp Ir))) := rSta.weaken hd9 (fun q hq hl => ⟨hq, hl⟩)
          have Yp_9 : Hid (rBytes.rd w9 (fun b => w8.heap.size ≤ b) [.slice xp yp zp] ((Mo.doR (Mo.doS St (Mo.vOp Ir)) (Mo.dOp Ir)).2.1)) := hy9
          have Np_9 : Hid (rNmds.rd w9 (fun b => w8.heap.size ≤ b) [.slice fp gp hp] ((Mo.doR (Mo.doS St (Mo.vOp Ir)) (Mo.dOp Ir)).2.2.2.1)) := hn9
          have Rs_9 : Hid (Row w9 (W.heap.size) 25 [.slice a0 n0 c0, .slice b0 m0 d0, .int .i64 t0]) := Rs_8.out.below (bb9)
          have Ds_9 : Hid (rSta.rd w9 (fun b => b < W.heap.size) [.slice a0 n0 c0, .slice b0 m0 d0, .int .i64 t0] (s)) := Rep.below Ds_8.out (bb9)
          have Rr_9 : Hid (Row w9 (wA5.heap.size) 38 [.int .i64 0, .slice xr yr zr, .int .i64 Ir, .slice fr gr hr, .int .i64 Zr]) := Rr_8.out.below (bb9)
          have Ra_9 : Hid (Row w9 (Ba) 31 [.slice a n c, .slice b m d, .int .i64 t]) := Ra_8.out.below (bb9)
          have Da_9 : Hid (rSta.rd w9 ((· ≠ Ba)) [.slice a n c, .slice b m d, .int .i64 t] (St)) := Rep.below Da_8.out (bb9)
          have De_9 : Hid (rSta.rd w9 (fun b => w6.heap.size ≤ b ∧ b < w7.heap.size) [.slice ae ne ce, .slice be me de, .int .i64 te] (Mo.doS St (Mo.vOp Ir))) := Rep.below De_8.out (bb9)
          have Yq_9 : Hid (rBytes.rd w9 (fun b => w6.heap.size ≤ b) [.slice xq yq zq] ((Mo.doR St (Mo.vOp Ir)).2.1)) := Rep.below Yq_8.out (bb9)
          have Nq_9 : Hid (rNmds.rd w9 (fun b => w6.heap.size ≤ b) [.slice fq gq hq] ((Mo.doR St (Mo.vOp Ir)).2.2.2.1)) := Rep.below Nq_8.out (bb9)
          have Re_9 : Hid (Row w9 (w7.heap.size) 31 [.slice ae ne ce, .slice be me de, .int .i64 te]) := Re_8.out.below (bb9)
          have Rq_9 : Hid (Row w9 (wA8.heap.size) 38 [.int .i64 0, .slice xq yq zq, .int .i64 Iq, .slice fq gq hq, .int .i64 Zq]) := Rq_8.out.below (bb9)
          have B_9 : Hid (Below W.heap.size W w9) := on B_8.out (bb9)
          clear p8_0 r8_0 p8_1 r8_1 p8_2 r8_2 s8_0 u8_0 s8_1 u8_1 s8_2 u8_2 s8_3 u8_3 s8_4 u8_4 hA8 hB8 hX8 hY8 qe0 qe1 qe2 qr0 qr1 qr2 qr3 qr4
          clear Rs_8 Ds_8 Rr_8 Ra_8 Da_8 De_8 Yq_8 Nq_8 Re_8 Rq_8
          have HLT9 : Hid (W.heap.size < w9.heap.size) := Rs_9.out.lt
          clear hd9 hy9 hn9 bb9
          obtain ⟨wA10, wB10, wX10, w10, hA10, hB10, va, hX10, vr, hY10, vs, vt, k10, hl10⟩ := fresh2 w9 (.slice au nu cu) (.slice bu mu du) (.int .i64 tu) (.int .i64 Ep) (.slice xp yp zp) (.int .i64 Ip) (.slice fp gp hp) (.int .i64 Zp)
          have Ru_10 : Hid (Row w10 (w9.heap.size) 31 [.slice au nu cu, .slice bu mu du, .int .i64 tu]) := vs
          have Rp_10 : Hid (Row w10 (wA10.heap.size) 38 [.int .i64 Ep, .slice xp yp zp, .int .i64 Ip, .slice fp gp hp, .int .i64 Zp]) := vt
          have Rs_10 : Hid (Row w10 (W.heap.size) 25 [.slice a0 n0 c0, .slice b0 m0 d0, .int .i64 t0]) := Rs_9.out.below (k10)
          have Ds_10 : Hid (rSta.rd w10 (fun b => b < W.heap.size) [.slice a0 n0 c0, .slice b0 m0 d0, .int .i64 t0] (s)) := Rep.below Ds_9.out (k10)
          have Rr_10 : Hid (Row w10 (wA5.heap.size) 38 [.int .i64 0, .slice xr yr zr, .int .i64 Ir, .slice fr gr hr, .int .i64 Zr]) := Rr_9.out.below (k10)
          have Ra_10 : Hid (Row w10 (Ba) 31 [.slice a n c, .slice b m d, .int .i64 t]) := Ra_9.out.below (k10)
          have Da_10 : Hid (rSta.rd w10 ((· ≠ Ba)) [.slice a n c, .slice b m d, .int .i64 t] (St)) := Rep.below Da_9.out (k10)
          have De_10 : Hid (rSta.rd w10 (fun b => w6.heap.size ≤ b ∧ b < w7.heap.size) [.slice ae ne ce, .slice be me de, .int .i64 te] (Mo.doS St (Mo.vOp Ir))) := Rep.below De_9.out (k10)
          have Yq_10 : Hid (rBytes.rd w10 (fun b => w6.heap.size ≤ b) [.slice xq yq zq] ((Mo.doR St (Mo.vOp Ir)).2.1)) := Rep.below Yq_9.out (k10)
          have Nq_10 : Hid (rNmds.rd w10 (fun b => w6.heap.size ≤ b) [.slice fq gq hq] ((Mo.doR St (Mo.vOp Ir)).2.2.2.1)) := Rep.below Nq_9.out (k10)
          have Re_10 : Hid (Row w10 (w7.heap.size) 31 [.slice ae ne ce, .slice be me de, .int .i64 te]) := Re_9.out.below (k10)
          have Rq_10 : Hid (Row w10 (wA8.heap.size) 38 [.int .i64 0, .slice xq yq zq, .int .i64 Iq, .slice fq gq hq, .int .i64 Zq]) := Rq_9.out.below (k10)
          have Du_10 : Hid (rSta.rd w10 (fun b => w8.heap.size ≤ b ∧ b < w9.heap.size) [.slice au nu cu, .slice bu mu du, .int .i64 tu] (Mo.doS (Mo.doS St (Mo.vOp Ir)) (Mo.dOp Ir))) := Rep.below Du_9.out (k10)
          have Yp_10 : Hid (rBytes.rd w10 (fun b => w8.heap.size ≤ b) [.slice xp yp zp] ((Mo.doR (Mo.doS St (Mo.vOp Ir)) (Mo.dOp Ir)).2.1)) := Rep.below Yp_9.out (k10)
          have Np_10 : Hid (rNmds.rd w10 (fun b => w8.heap.size ≤ b) [.slice fp gp hp] ((Mo.doR (Mo.doS St (Mo.vOp Ir)) (Mo.dOp Ir)).2.2.2.1)) := Rep.below Np_9.out (k10)
          have B_10 : Hid (Below W.heap.size W w10) := on B_9.out (k10)
          clear Rs_9 Ds_9 Rr_9 Ra_9 Da_9 De_9 Yq_9 Nq_9 Re_9 Rq_9 Du_9 Yp_9 Np_9
          have p10_0 := va.cell (j := 0) rfl
          have r10_0 := va.frozen 0
          have p10_1 := va.cell (j := 1) rfl
          have r10_1 := va.frozen 1
          have p10_2 := va.cell (j := 2) rfl
          have r10_2 := va.frozen 2
          have s10_0 := vr.cell (j := 0) rfl
          have u10_0 := vr.frozen 0
          have s10_1 := vr.cell (j := 1) rfl
          have u10_1 := vr.frozen 1
          have s10_2 := vr.cell (j := 2) rfl
          have u10_2 := vr.frozen 2
          have s10_3 := vr.cell (j := 3) rfl
          have u10_3 := vr.frozen 3
          have s10_4 := vr.cell (j := 4) rfl
          have u10_4 := vr.frozen 4
          have HL10 : Hid _ := hl10
          clear va vr vs vt k10 hl10
          obtain rfl := HEp.out.trans HV4.out
          have qu0 := Ru_10.out.cell (j := 0) rfl
          have qu1 := Ru_10.out.cell (j := 1) rfl
          have qu2 := Ru_10.out.cell (j := 2) rfl
          have qr0 := Rr_10.out.cell (j := 0) rfl
          have qr1 := Rr_10.out.cell (j := 1) rfl
          have qr2 := Rr_10.out.cell (j := 2) rfl
          have qr3 := Rr_10.out.cell (j := 3) rfl
          have qr4 := Rr_10.out.cell (j := 4) rfl
          go_wp2_with (go_at_call 15; refine (num10_u _ _).mono ?_; rintro e w99 ⟨rfl, rfl⟩)
          go_at_call 11
          refine Calls.mono (do_v w10 _ au bu nu cu mu du tu (Mo.doS (Mo.doS St (Mo.vOp Ir)) (Mo.dOp Ir)) Du_10.out 6 0 0 Ir Mo.noName [] none 0 0 (by unfold I64; decide) (by unfold I64; decide) (by unfold I64; decide) HIb.out (by decide) (P' := fun _ => True) (rBytes_none _ _ _ _ (fun _ => rfl))) ?_
          rintro e w11 ⟨ak, nk, ck, bk, mk, dk, tk, xz, yz, zz, fz, gz, hz, rfl, hd11, hy11, hn11, bb11⟩
          obtain ⟨Ez, hEz⟩ : ∃ z, z = (Mo.doR (Mo.doS (Mo.doS St (Mo.vOp Ir)) (Mo.dOp Ir)) (Mo.vOp Ir)).1 := ⟨_, rfl⟩
          obtain ⟨Iz, hIz⟩ : ∃ z, z = (Mo.doR (Mo.doS (Mo.doS St (Mo.vOp Ir)) (Mo.dOp Ir)) (Mo.vOp Ir)).2.2.1 := ⟨_, rfl⟩
          obtain ⟨Zz, hZz⟩ : ∃ z, z = (Mo.doR (Mo.doS (Mo.doS St (Mo.vOp Ir)) (Mo.dOp Ir)) (Mo.vOp Ir)).2.2.2.2 := ⟨_, rfl⟩
          rw [← hEz, ← hIz, ← hZz]
          have HEz : Hid _ := hEz
          have HIz : Hid _ := hIz
          have HZz : Hid _ := hZz
          clear hEz hIz hZz
          have Dk_11 : Hid (rSta.rd w11 (fun b => w10.heap.size ≤ b ∧ b < w11.heap.size) [.slice ak nk ck, .slice bk mk dk, .int .i64 tk] (Mo.doS (Mo.doS (Mo.doS St (Mo.vOp Ir)) (Mo.dOp Ir)) (Mo.vOp Ir))) := rSta.weaken hd11 (fun q hq hl => ⟨hq, hl⟩)
          have Yz_11 : Hid (rBytes.rd w11 (fun b => w10.heap.size ≤ b) [.slice xz yz zz] ((Mo.doR (Mo.doS (Mo.doS St (Mo.vOp Ir)) (Mo.dOp Ir)) (Mo.vOp Ir)).2.1)) := hy11
          have Nz_11 : Hid (rNmds.rd w11 (fun b => w10.heap.size ≤ b) [.slice fz gz hz] ((Mo.doR (Mo.doS (Mo.doS St (Mo.vOp Ir)) (Mo.dOp Ir)) (Mo.vOp Ir)).2.2.2.1)) := hn11
          have Rs_11 : Hid (Row w11 (W.heap.size) 25 [.slice a0 n0 c0, .slice b0 m0 d0, .int .i64 t0]) := Rs_10.out.below (bb11)
          have Ds_11 : Hid (rSta.rd w11 (fun b => b < W.heap.size) [.slice a0 n0 c0, .slice b0 m0 d0, .int .i64 t0] (s)) := Rep.below Ds_10.out (bb11)
          have Rr_11 : Hid (Row w11 (wA5.heap.size) 38 [.int .i64 0, .slice xr yr zr, .int .i64 Ir, .slice fr gr hr, .int .i64 Zr]) := Rr_10.out.below (bb11)
          have Ra_11 : Hid (Row w11 (Ba) 31 [.slice a n c, .slice b m d, .int .i64 t]) := Ra_10.out.below (bb11)
          have Da_11 : Hid (rSta.rd w11 ((· ≠ Ba)) [.slice a n c, .slice b m d, .int .i64 t] (St)) := Rep.below Da_10.out (bb11)
          have De_11 : Hid (rSta.rd w11 (fun b => w6.heap.size ≤ b ∧ b < w7.heap.size) [.slice ae ne ce, .slice be me de, .int .i64 te] (Mo.doS St (Mo.vOp Ir))) := Rep.below De_10.out (bb11)
          have Yq_11 : Hid (rBytes.rd w11 (fun b => w6.heap.size ≤ b) [.slice xq yq zq] ((Mo.doR St (Mo.vOp Ir)).2.1)) := Rep.below Yq_10.out (bb11)
          have Nq_11 : Hid (rNmds.rd w11 (fun b => w6.heap.size ≤ b) [.slice fq gq hq] ((Mo.doR St (Mo.vOp Ir)).2.2.2.1)) := Rep.below Nq_10.out (bb11)
          have Re_11 : Hid (Row w11 (w7.heap.size) 31 [.slice ae ne ce, .slice be me de, .int .i64 te]) := Re_10.out.below (bb11)
          have Rq_11 : Hid (Row w11 (wA8.heap.size) 38 [.int .i64 0, .slice xq yq zq, .int .i64 Iq, .slice fq gq hq, .int .i64 Zq]) := Rq_10.out.below (bb11)
          have Du_11 : Hid (rSta.rd w11 (fun b => w8.heap.size ≤ b ∧ b < w9.heap.size) [.slice au nu cu, .slice bu mu du, .int .i64 tu] (Mo.doS (Mo.doS St (Mo.vOp Ir)) (Mo.dOp Ir))) := Rep.below Du_10.out (bb11)
          have Yp_11 : Hid (rBytes.rd w11 (fun b => w8.heap.size ≤ b) [.slice xp yp zp] ((Mo.doR (Mo.doS St (Mo.vOp Ir)) (Mo.dOp Ir)).2.1)) := Rep.below Yp_10.out (bb11)
          have Np_11 : Hid (rNmds.rd w11 (fun b => w8.heap.size ≤ b) [.slice fp gp hp] ((Mo.doR (Mo.doS St (Mo.vOp Ir)) (Mo.dOp Ir)).2.2.2.1)) := Rep.below Np_10.out (bb11)
          have Ru_11 : Hid (Row w11 (w9.heap.size) 31 [.slice au nu cu, .slice bu mu du, .int .i64 tu]) := Ru_10.out.below (bb11)
          have Rp_11 : Hid (Row w11 (wA10.heap.size) 38 [.int .i64 0, .slice xp yp zp, .int .i64 Ip, .slice fp gp hp, .int .i64 Zp]) := Rp_10.out.below (bb11)
          have B_11 : Hid (Below W.heap.size W w11) := on B_10.out (bb11)
          clear p10_0 r10_0 p10_1 r10_1 p10_2 r10_2 s10_0 u10_0 s10_1 u10_1 s10_2 u10_2 s10_3 u10_3 s10_4 u10_4 hA10 hB10 hX10 hY10 qu0 qu1 qu2 qr0 qr1 qr2 qr3 qr4
          clear Rs_10 Ds_10 Rr_10 Ra_10 Da_10 De_10 Yq_10 Nq_10 Re_10 Rq_10 Du_10 Yp_10 Np_10 Ru_10 Rp_10
          have HLT11 : Hid (W.heap.size < w11.heap.size) := Rs_11.out.lt
          clear hd11 hy11 hn11 bb11
          obtain ⟨wA12, wB12, wX12, w12, hA12, hB12, va, hX12, vr, hY12, vs, vt, k12, hl12⟩ := fresh2 w11 (.slice ak nk ck) (.slice bk mk dk) (.int .i64 tk) (.int .i64 Ez) (.slice xz yz zz) (.int .i64 Iz) (.slice fz gz hz) (.int .i64 Zz)
          have Rk_12 : Hid (Row w12 (w11.heap.size) 31 [.slice ak nk ck, .slice bk mk dk, .int .i64 tk]) := vs
          have Rz_12 : Hid (Row w12 (wA12.heap.size) 38 [.int .i64 Ez, .slice xz yz zz, .int .i64 Iz, .slice fz gz hz, .int .i64 Zz]) := vt
          have Rs_12 : Hid (Row w12 (W.heap.size) 25 [.slice a0 n0 c0, .slice b0 m0 d0, .int .i64 t0]) := Rs_11.out.below (k12)
          have Ds_12 : Hid (rSta.rd w12 (fun b => b < W.heap.size) [.slice a0 n0 c0, .slice b0 m0 d0, .int .i64 t0] (s)) := Rep.below Ds_11.out (k12)
          have Rr_12 : Hid (Row w12 (wA5.heap.size) 38 [.int .i64 0, .slice xr yr zr, .int .i64 Ir, .slice fr gr hr, .int .i64 Zr]) := Rr_11.out.below (k12)
          have Ra_12 : Hid (Row w12 (Ba) 31 [.slice a n c, .slice b m d, .int .i64 t]) := Ra_11.out.below (k12)
          have Da_12 : Hid (rSta.rd w12 ((· ≠ Ba)) [.slice a n c, .slice b m d, .int .i64 t] (St)) := Rep.below Da_11.out (k12)
          have De_12 : Hid (rSta.rd w12 (fun b => w6.heap.size ≤ b ∧ b < w7.heap.size) [.slice ae ne ce, .slice be me de, .int .i64 te] (Mo.doS St (Mo.vOp Ir))) := Rep.below De_11.out (k12)
          have Yq_12 : Hid (rBytes.rd w12 (fun b => w6.heap.size ≤ b) [.slice xq yq zq] ((Mo.doR St (Mo.vOp Ir)).2.1)) := Rep.below Yq_11.out (k12)
          have Nq_12 : Hid (rNmds.rd w12 (fun b => w6.heap.size ≤ b) [.slice fq gq hq] ((Mo.doR St (Mo.vOp Ir)).2.2.2.1)) := Rep.below Nq_11.out (k12)
          have Re_12 : Hid (Row w12 (w7.heap.size) 31 [.slice ae ne ce, .slice be me de, .int .i64 te]) := Re_11.out.below (k12)
          have Rq_12 : Hid (Row w12 (wA8.heap.size) 38 [.int .i64 0, .slice xq yq zq, .int .i64 Iq, .slice fq gq hq, .int .i64 Zq]) := Rq_11.out.below (k12)
          have Du_12 : Hid (rSta.rd w12 (fun b => w8.heap.size ≤ b ∧ b < w9.heap.size) [.slice au nu cu, .slice bu mu du, .int .i64 tu] (Mo.doS (Mo.doS St (Mo.vOp Ir)) (Mo.dOp Ir))) := Rep.below Du_11.out (k12)
          have Yp_12 : Hid (rBytes.rd w12 (fun b => w8.heap.size ≤ b) [.slice xp yp zp] ((Mo.doR (Mo.doS St (Mo.vOp Ir)) (Mo.dOp Ir)).2.1)) := Rep.below Yp_11.out (k12)
          have Np_12 : Hid (rNmds.rd w12 (fun b => w8.heap.size ≤ b) [.slice fp gp hp] ((Mo.doR (Mo.doS St (Mo.vOp Ir)) (Mo.dOp Ir)).2.2.2.1)) := Rep.below Np_11.out (k12)
          have Ru_12 : Hid (Row w12 (w9.heap.size) 31 [.slice au nu cu, .slice bu mu du, .int .i64 tu]) := Ru_11.out.below (k12)
          have Rp_12 : Hid (Row w12 (wA10.heap.size) 38 [.int .i64 0, .slice xp yp zp, .int .i64 Ip, .slice fp gp hp, .int .i64 Zp]) := Rp_11.out.below (k12)
          have Dk_12 : Hid (rSta.rd w12 (fun b => w10.heap.size ≤ b ∧ b < w11.heap.size) [.slice ak nk ck, .slice bk mk dk, .int .i64 tk] (Mo.doS (Mo.doS (Mo.doS St (Mo.vOp Ir)) (Mo.dOp Ir)) (Mo.vOp Ir))) := Rep.below Dk_11.out (k12)
          have Yz_12 : Hid (rBytes.rd w12 (fun b => w10.heap.size ≤ b) [.slice xz yz zz] ((Mo.doR (Mo.doS (Mo.doS St (Mo.vOp Ir)) (Mo.dOp Ir)) (Mo.vOp Ir)).2.1)) := Rep.below Yz_11.out (k12)
          have Nz_12 : Hid (rNmds.rd w12 (fun b => w10.heap.size ≤ b) [.slice fz gz hz] ((Mo.doR (Mo.doS (Mo.doS St (Mo.vOp Ir)) (Mo.dOp Ir)) (Mo.vOp Ir)).2.2.2.1)) := Rep.below Nz_11.out (k12)
          have B_12 : Hid (Below W.heap.size W w12) := on B_11.out (k12)
          clear Rs_11 Ds_11 Rr_11 Ra_11 Da_11 De_11 Yq_11 Nq_11 Re_11 Rq_11 Du_11 Yp_11 Np_11 Ru_11 Rp_11 Dk_11 Yz_11 Nz_11
          have p12_0 := va.cell (j := 0) rfl
          have r12_0 := va.frozen 0
          have p12_1 := va.cell (j := 1) rfl
          have r12_1 := va.frozen 1
          have p12_2 := va.cell (j := 2) rfl
          have r12_2 := va.frozen 2
          have s12_0 := vr.cell (j := 0) rfl
          have u12_0 := vr.frozen 0
          have s12_1 := vr.cell (j := 1) rfl
          have u12_1 := vr.frozen 1
          have s12_2 := vr.cell (j := 2) rfl
          have u12_2 := vr.frozen 2
          have s12_3 := vr.cell (j := 3) rfl
          have u12_3 := vr.frozen 3
          have s12_4 := vr.cell (j := 4) rfl
          have u12_4 := vr.frozen 4
          have HL12 : Hid _ := hl12
          clear va vr vs vt k12 hl12
          obtain rfl := HEz.out.trans HV6.out
          have qq0 := Rq_12.out.cell (j := 0) rfl
          have qq1 := Rq_12.out.cell (j := 1) rfl
          have qq2 := Rq_12.out.cell (j := 2) rfl
          have qq3 := Rq_12.out.cell (j := 3) rfl
          have qq4 := Rq_12.out.cell (j := 4) rfl
          have qp0 := Rp_12.out.cell (j := 0) rfl
          have qp1 := Rp_12.out.cell (j := 1) rfl
          have qp2 := Rp_12.out.cell (j := 2) rfl
          have qp3 := Rp_12.out.cell (j := 3) rfl
          have qp4 := Rp_12.out.cell (j := 4) rfl
          have qz0 := Rz_12.out.cell (j := 0) rfl
          have qz1 := Rz_12.out.cell (j := 1) rfl
          have qz2 := Rz_12.out.cell (j := 2) rfl
          have qz3 := Rz_12.out.cell (j := 3) rfl
          have qz4 := Rz_12.out.cell (j := 4) rfl
          have qe0 := Re_12.out.cell (j := 0) rfl
          have qe1 := Re_12.out.cell (j := 1) rfl
          have qe2 := Re_12.out.cell (j := 2) rfl
          have qu0 := Ru_12.out.cell (j := 0) rfl
          have qu1 := Ru_12.out.cell (j := 1) rfl
          have qu2 := Ru_12.out.cell (j := 2) rfl
          have qs0 := Rs_12.out.cell (j := 0) rfl
          have qs1 := Rs_12.out.cell (j := 1) rfl
          have qs2 := Rs_12.out.cell (j := 2) rfl
          have ew : IntKind.i64.wrap 0 = 0 := by decide
          have eZ : (Zq == (n0 : Int)) = true := by rw [beq_iff_eq, HZq.out, HV3.out, HNs.out]
          have HP0 : Hid (rSectors.rd w12 (fun _ => True) [.slice a0 n0 c0] s.1) := rSectors.weaken (sta_parts Ds_12.out).1 (fun _ _ _ => trivial)
          have HP1 : Hid (rSectors.rd w12 (fun _ => True) [.slice ae ne ce] s.1) := by have h := (sta_parts De_12.out).1; rw [HV2.out] at h; exact rSectors.weaken h (fun _ _ _ => trivial)
          have HP2 : Hid (rSectors.rd w12 (fun _ => True) [.slice au nu cu] s.1) := by have h := (sta_parts Du_12.out).1; rw [HV5.out] at h; exact rSectors.weaken h (fun _ _ _ => trivial)
          go_wp2_with fail
          have HSee : Hid (∀ w', Below w12.heap.size w12 w' → w'.cell? ⟨wA8.heap.size, 0, none⟩ = some (.int .i64 0) ∧ w'.cell? ⟨wA8.heap.size, 4, none⟩ = some (.int .i64 Zq) ∧ w'.cell? ⟨wA10.heap.size, 0, none⟩ = some (.int .i64 0) ∧ w'.cell? ⟨wA12.heap.size, 0, none⟩ = some (.int .i64 71) ∧ w'.cell? ⟨w7.heap.size, 0, none⟩ = some (.slice ae ne ce) ∧ w'.cell? ⟨w9.heap.size, 0, none⟩ = some (.slice au nu cu) ∧ w'.cell? ⟨W.heap.size, 0, none⟩ = some (.slice a0 n0 c0)) := fun w' hb => ⟨(Rq_12.out.below hb).cell (j := 0) rfl, (Rq_12.out.below hb).cell (j := 4) rfl, (Rp_12.out.below hb).cell (j := 0) rfl, (Rz_12.out.below hb).cell (j := 0) rfl, (Re_12.out.below hb).cell (j := 0) rfl, (Ru_12.out.below hb).cell (j := 0) rfl, (Rs_12.out.below hb).cell (j := 0) rfl⟩
          have S0 := HSee.out _ (Below.refl _ w12).drew
          refine wp_region_held_drew (S := (fun w' : World => w'.cell? ⟨wA8.heap.size, 0, none⟩ = some (.int .i64 0) ∧ w'.cell? ⟨wA8.heap.size, 4, none⟩ = some (.int .i64 Zq) ∧ w'.cell? ⟨wA10.heap.size, 0, none⟩ = some (.int .i64 0) ∧ w'.cell? ⟨wA12.heap.size, 0, none⟩ = some (.int .i64 71) ∧ w'.cell? ⟨w7.heap.size, 0, none⟩ = some (.slice ae ne ce) ∧ w'.cell? ⟨w9.heap.size, 0, none⟩ = some (.slice au nu cu) ∧ w'.cell? ⟨W.heap.size, 0, none⟩ = some (.slice a0 n0 c0))) (by kernel_rfl) (S0) (fun hHeld => ?_)
          refine wpAnyH_takeL (i := 0) (v := ?_) rfl rfl (by kernel_rfl) (by kernel_rfl) (by kernel_rfl) (fun _ _ _ h => h) (Or.inl ⟨by rfl, ?_⟩) (by assumption) ?_
          rotate_left
          · intro w hSw
            try dsimp only at hSw
            go_simp
            all_goals with_reducible rfl
          simp only [List.set_cons_zero, List.set_cons_succ]
          refine wpAnyH_takeL (i := 1) (v := ?_) rfl rfl (by kernel_rfl) (by kernel_rfl) (by kernel_rfl) (fun _ _ _ h => h) (Or.inl ⟨by rfl, ?_⟩) (by assumption) ?_
          rotate_left
          · intro w hSw
            try dsimp only at hSw
            go_simp
            all_goals with_reducible rfl
          simp only [List.set_cons_zero, List.set_cons_succ]
          refine wpAnyH_takeL (i := 3) (v := ?_) rfl rfl (by kernel_rfl) (by kernel_rfl) (by kernel_rfl) (fun _ _ _ h => h) (Or.inl ⟨by rfl, ?_⟩) (by assumption) ?_
          rotate_left
          · intro w hSw
            try dsimp only at hSw
            go_simp
            all_goals with_reducible rfl
          simp only [List.set_cons_zero, List.set_cons_succ]
          refine wpAnyH_takeL (i := 4) (v := ?_) rfl rfl (by kernel_rfl) (by kernel_rfl) (by kernel_rfl) (fun _ _ _ h => h) (Or.inl ⟨by rfl, ?_⟩) (by assumption) ?_
          rotate_left
          · intro w hSw
            try dsimp only at hSw
            go_simp
            all_goals with_reducible rfl
          simp only [List.set_cons_zero, List.set_cons_succ]
          refine wpAnyH_ready (rs := [2]) (by kernel_rfl) (by simp) ?_
          refine AllReadyH.cons rfl (fun K hK => ?_) ?_
          · go_simp
            go_at_call 15
            refine (num10_u _ _).mono ?_
            rintro e w99 ⟨rfl, rfl⟩
            go_simp
            refine hK.out _ _ ?_ (fun hHeld => ?_)
            · try dsimp only
              first | exact SP | exact SO | exact S0
            clear hK K
            refine wpAnyH_ready (rs := [5]) (by kernel_rfl) (by simp) ?_
            refine AllReadyH.cons rfl (fun K hK => ?_) ?_
            · go_simp
              go_at_call 15
              refine (num10_u _ _).mono ?_
              rintro e w99 ⟨rfl, rfl⟩
              go_simp
              refine hK.out _ _ ?_ (fun hHeld => ?_)
              · try dsimp only
                first | exact SP | exact SO | exact S0
              clear hK K
              refine wpAnyH_takeL (i := 6) (v := ?_) rfl rfl (by kernel_rfl) (by kernel_rfl) (by kernel_rfl) (fun _ _ _ h => h) (Or.inl ⟨by rfl, ?_⟩) (by assumption) ?_
              rotate_left
              · intro w hSw
                try dsimp only at hSw
                go_simp
                all_goals with_reducible rfl
              simp only [List.set_cons_zero, List.set_cons_succ]
              refine wpAnyH_takeL (i := 7) (v := ?_) rfl rfl (by kernel_rfl) (by kernel_rfl) (by kernel_rfl) (fun _ _ _ h => h) (Or.inl ⟨by rfl, ?_⟩) (by assumption) ?_
              rotate_left
              · intro w hSw
                try dsimp only at hSw
                go_simp
                all_goals with_reducible rfl
              simp only [List.set_cons_zero, List.set_cons_succ]
              refine wpAnyH_takeL (i := 8) (v := ?_) rfl rfl (by kernel_rfl) (by kernel_rfl) (by kernel_rfl) (fun _ _ _ h => h) (Or.inl ⟨by rfl, ?_⟩) (by assumption) ?_
              rotate_left
              · intro w hSw
                try dsimp only at hSw
                go_simp
                all_goals with_reducible rfl
              simp only [List.set_cons_zero, List.set_cons_succ]
              refine wpAnyH_takeL (i := 9) (v := ?_) rfl rfl (by kernel_rfl) (by kernel_rfl) (by kernel_rfl) (fun _ _ _ h => h) (Or.inl ⟨by rfl, ?_⟩) (by assumption) ?_
              rotate_left
              · intro w hSw
                try dsimp only at hSw
                go_simp
                all_goals with_reducible rfl
              simp only [List.set_cons_zero, List.set_cons_succ]
              refine wpAnyH_takeL (i := 10) (v := ?_) rfl rfl (by kernel_rfl) (by kernel_rfl) (by kernel_rfl) (fun _ _ _ h => h) (Or.inl ⟨by rfl, ?_⟩) (by assumption) ?_
              rotate_left
              · intro w hSw
                try dsimp only at hSw
                go_simp
                all_goals with_reducible rfl
              simp only [List.set_cons_zero, List.set_cons_succ]
              refine wpAnyH_ready (rs := [11]) (by kernel_rfl) (by simp) ?_
              refine AllReadyH.cons rfl (fun K hK => ?_) ?_
              · go_simp
                go_at_call 15
                refine (num10_u _ _).mono ?_
                rintro e w99 ⟨rfl, rfl⟩
                go_simp
                refine hK.out _ _ ?_ (fun hHeld => ?_)
                · try dsimp only
                  first | exact SP | exact SO | exact S0
                clear hK K
                refine wpAnyH_takeL (i := 12) (v := ?_) rfl rfl (by kernel_rfl) (by kernel_rfl) (by kernel_rfl) (fun _ _ _ h => h) (Or.inl ⟨by rfl, ?_⟩) (by assumption) ?_
                rotate_left
                · intro w hSw
                  try dsimp only at hSw
                  go_simp
                  all_goals with_reducible rfl
                simp only [List.set_cons_zero, List.set_cons_succ]
                refine wpAnyH_takeL (i := 13) (v := ?_) rfl rfl (by kernel_rfl) (by kernel_rfl) (by kernel_rfl) (fun _ _ _ h => h) (Or.inl ⟨by rfl, ?_⟩) (by assumption) ?_
                rotate_left
                · intro w hSw
                  try dsimp only at hSw
                  go_simp
                  all_goals with_reducible rfl
                simp only [List.set_cons_zero, List.set_cons_succ]
                refine wpAnyH_takeL (i := 14) (v := ?_) rfl rfl (by kernel_rfl) (by kernel_rfl) (by kernel_rfl) (fun _ _ _ h => h) (Or.inl ⟨by rfl, ?_⟩) (by assumption) ?_
                rotate_left
                · intro w hSw
                  try dsimp only at hSw
                  go_simp
                  all_goals with_reducible rfl
                simp only [List.set_cons_zero, List.set_cons_succ]
                refine wpAnyH_takeL (i := 15) (v := ?_) rfl rfl (by kernel_rfl) (by kernel_rfl) (by kernel_rfl) (fun _ _ _ h => h) (Or.inl ⟨by rfl, ?_⟩) (by assumption) ?_
                rotate_left
                · intro w hSw
                  try dsimp only at hSw
                  go_simp
                  all_goals with_reducible rfl
                simp only [List.set_cons_zero, List.set_cons_succ]
                refine wpAnyH_takeL (i := 16) (v := ?_) rfl rfl (by kernel_rfl) (by kernel_rfl) (by kernel_rfl) (fun _ _ _ h => h) (Or.inl ⟨by rfl, ?_⟩) (by assumption) ?_
                rotate_left
                · intro w hSw
                  try dsimp only at hSw
                  go_simp
                  all_goals with_reducible rfl
                simp only [List.set_cons_zero, List.set_cons_succ]
                refine wpAnyH_takeL (i := 17) (v := ?_) rfl rfl (by kernel_rfl) (by kernel_rfl) (by kernel_rfl) (fun _ _ _ h => h) (Or.inl ⟨by rfl, ?_⟩) (by assumption) ?_
                rotate_left
                · intro w hSw
                  try dsimp only at hSw
                  go_simp
                  all_goals with_reducible rfl
                simp only [List.set_cons_zero, List.set_cons_succ]
                refine wpAnyH_takeL (i := 18) (v := ?_) rfl rfl (by kernel_rfl) (by kernel_rfl) (by kernel_rfl) (fun _ _ _ h => h) (Or.inl ⟨by rfl, ?_⟩) (by assumption) ?_
                rotate_left
                · intro w hSw
                  try dsimp only at hSw
                  go_simp
                  all_goals with_reducible rfl
                simp only [List.set_cons_zero, List.set_cons_succ]
                refine wpAnyH_ready (rs := [19]) (by kernel_rfl) (by simp) ?_
                refine AllReadyH.cons rfl (fun K hK => ?_) ?_
                · go_simp
                  go_at_call 24
                  refine (sameList_q w12.drew _ _ _ _ _ _ _ _ s.1 s.1 (rSectors.keep HP1.out (fun _ _ _ => rfl)) (rSectors.keep HP0.out (fun _ _ _ => rfl))).mono ?_
                  rintro e wo ⟨rfl, qq, hqq⟩
                  have BO : Hid (Below w12.heap.size w12 wo) := by rw [hqq]; exact (Below.refl _ w12).drew.trans (below_drewN (Below.refl _ _) qq)
                  have SO := HSee.out _ BO.out
                  clear hqq
                  rw [beq_self_eq_true]
                  go_simp
                  refine hK.out _ _ ?_ (fun hHeld => ?_)
                  · try dsimp only
                    first | exact SP | exact SO | exact S0
                  clear hK K
                  refine wpAnyH_takeL (i := 20) (v := ?_) rfl rfl (by kernel_rfl) (by kernel_rfl) (by kernel_rfl) (fun _ _ _ h => h) (Or.inl ⟨by rfl, ?_⟩) (by assumption) ?_
                  rotate_left
                  · intro w hSw
                    try dsimp only at hSw
                    go_simp
                    all_goals with_reducible rfl
                  simp only [List.set_cons_zero, List.set_cons_succ]
                  refine wpAnyH_takeL (i := 21) (v := ?_) rfl rfl (by kernel_rfl) (by kernel_rfl) (by kernel_rfl) (fun _ _ _ h => h) (Or.inl ⟨by rfl, ?_⟩) (by assumption) ?_
                  rotate_left
                  · intro w hSw
                    try dsimp only at hSw
                    go_simp
                    all_goals with_reducible rfl
                  simp only [List.set_cons_zero, List.set_cons_succ]
                  refine wpAnyH_takeL (i := 22) (v := ?_) rfl rfl (by kernel_rfl) (by kernel_rfl) (by kernel_rfl) (fun _ _ _ h => h) (Or.inl ⟨by rfl, ?_⟩) (by assumption) ?_
                  rotate_left
                  · intro w hSw
                    try dsimp only at hSw
                    go_simp
                    all_goals with_reducible rfl
                  simp only [List.set_cons_zero, List.set_cons_succ]
                  refine wpAnyH_takeL (i := 23) (v := ?_) rfl rfl (by kernel_rfl) (by kernel_rfl) (by kernel_rfl) (fun _ _ _ h => h) (Or.inl ⟨by rfl, ?_⟩) (by assumption) ?_
                  rotate_left
                  · intro w hSw
                    try dsimp only at hSw
                    go_simp
                    all_goals with_reducible rfl
                  simp only [List.set_cons_zero, List.set_cons_succ]
                  refine wpAnyH_takeL (i := 24) (v := ?_) rfl rfl (by kernel_rfl) (by kernel_rfl) (by kernel_rfl) (fun _ _ _ h => h) (Or.inl ⟨by rfl, ?_⟩) (by assumption) ?_
                  rotate_left
                  · intro w hSw
                    try dsimp only at hSw
                    go_simp
                    all_goals with_reducible rfl
                  simp only [List.set_cons_zero, List.set_cons_succ]
                  refine wpAnyH_takeL (i := 25) (v := ?_) rfl rfl (by kernel_rfl) (by kernel_rfl) (by kernel_rfl) (fun _ _ _ h => h) (Or.inl ⟨by rfl, ?_⟩) (by assumption) ?_
                  rotate_left
                  · intro w hSw
                    try dsimp only at hSw
                    go_simp
                    all_goals with_reducible rfl
                  simp only [List.set_cons_zero, List.set_cons_succ]
                  refine wpAnyH_ready (rs := [26]) (by kernel_rfl) (by simp) ?_
                  refine AllReadyH.cons rfl (fun K hK => ?_) ?_
                  · go_simp
                    go_at_call 24
                    refine (sameList_q wo _ _ _ _ _ _ _ _ s.1 s.1 (Rep.below HP2.out BO.out) (Rep.below HP0.out BO.out)).mono ?_
                    rintro e wp ⟨rfl, qq, hqq⟩
                    have BP : Hid (Below w12.heap.size w12 wp) := by rw [hqq]; exact below_drewN BO.out qq
                    have SP := HSee.out _ BP.out
                    clear hqq
                    rw [beq_self_eq_true]
                    go_simp
                    refine hK.out _ _ ?_ (fun hHeld => ?_)
                    · try dsimp only
                      first | exact SP | exact SO | exact S0
                    clear hK K
                    refine wpAnyH_takeL (i := 27) (v := ?_) rfl rfl (by kernel_rfl) (by kernel_rfl) (by kernel_rfl) (fun _ _ _ h => h) (Or.inl ⟨by rfl, ?_⟩) (by assumption) ?_
                    rotate_left
                    · intro w hSw
                      try dsimp only at hSw
                      go_simp
                      all_goals with_reducible rfl
                    simp only [List.set_cons_zero, List.set_cons_succ]
                    refine wpAnyH_takeL (i := 28) (v := ?_) rfl rfl (by kernel_rfl) (by kernel_rfl) (by kernel_rfl) (fun _ _ _ h => h) (Or.inl ⟨by rfl, ?_⟩) (by assumption) ?_
                    rotate_left
                    · intro w hSw
                      try dsimp only at hSw
                      go_simp
                      all_goals with_reducible rfl
                    simp only [List.set_cons_zero, List.set_cons_succ]
                    refine wpAnyH_takeL (i := 29) (v := ?_) rfl rfl (by kernel_rfl) (by kernel_rfl) (by kernel_rfl) (fun _ _ _ h => h) (Or.inl ⟨by rfl, ?_⟩) (by assumption) ?_
                    rotate_left
                    · intro w hSw
                      try dsimp only at hSw
                      go_simp
                      all_goals with_reducible rfl
                    simp only [List.set_cons_zero, List.set_cons_succ]
                    refine wpAnyH_takeL (i := 30) (v := ?_) rfl rfl (by kernel_rfl) (by kernel_rfl) (by kernel_rfl) (fun _ _ _ h => h) (Or.inl ⟨by rfl, ?_⟩) (by assumption) ?_
                    rotate_left
                    · intro w hSw
                      try dsimp only at hSw
                      go_simp
                      all_goals with_reducible rfl
                    simp only [List.set_cons_zero, List.set_cons_succ]
                    refine wpAnyH_takeL (i := 31) (v := ?_) rfl rfl (by kernel_rfl) (by kernel_rfl) (by kernel_rfl) (fun _ _ _ h => h) (Or.inl ⟨by rfl, ?_⟩) (by assumption) ?_
                    rotate_left
                    · intro w hSw
                      try dsimp only at hSw
                      go_simp
                      all_goals with_reducible rfl
                    simp only [List.set_cons_zero, List.set_cons_succ]
                    refine wpAnyH_takeL (i := 32) (v := ?_) rfl rfl (by kernel_rfl) (by kernel_rfl) (by kernel_rfl) (fun _ _ _ h => h) (Or.inl ⟨by rfl, ?_⟩) (by assumption) ?_
                    rotate_left
                    · intro w hSw
                      try dsimp only at hSw
                      go_simp
                      all_goals with_reducible rfl
                    simp only [List.set_cons_zero, List.set_cons_succ]
                    refine wpAnyH_takeL (i := 33) (v := ?_) rfl rfl (by kernel_rfl) (by kernel_rfl) (by kernel_rfl) (fun _ _ _ h => h) (Or.inl ⟨by rfl, ?_⟩) (by assumption) ?_
                    rotate_left
                    · intro w hSw
                      try dsimp only at hSw
                      go_simp
                      all_goals with_reducible rfl
                    simp only [List.set_cons_zero, List.set_cons_succ]
                    refine wpAnyH_takeL (i := 34) (v := ?_) rfl rfl (by kernel_rfl) (by kernel_rfl) (by kernel_rfl) (fun _ _ _ h => h) (Or.inl ⟨by rfl, ?_⟩) (by assumption) ?_
                    rotate_left
                    · intro w hSw
                      try dsimp only at hSw
                      go_simp
                      all_goals with_reducible rfl
                    simp only [List.set_cons_zero, List.set_cons_succ]
                    refine wpAnyH_takeL (i := 35) (v := ?_) rfl rfl (by kernel_rfl) (by kernel_rfl) (by kernel_rfl) (fun _ _ _ h => h) (Or.inl ⟨by rfl, ?_⟩) (by assumption) ?_
                    rotate_left
                    · intro w hSw
                      try dsimp only at hSw
                      go_simp
                      all_goals with_reducible rfl
                    simp only [List.set_cons_zero, List.set_cons_succ]
                    refine wpAnyH_takeL (i := 36) (v := ?_) rfl rfl (by kernel_rfl) (by kernel_rfl) (by kernel_rfl) (fun _ _ _ h => h) (Or.inl ⟨by rfl, ?_⟩) (by assumption) ?_
                    rotate_left
                    · intro w hSw
                      try dsimp only at hSw
                      go_simp
                      all_goals with_reducible rfl
                    simp only [List.set_cons_zero, List.set_cons_succ]
                    refine wpAnyH_done (by kernel_rfl) ?_ _
                    clear hHeld SP SO S0
                    go_wp2
                    go_ret
                    exact ⟨rfl, B_12.out.trans (BP.out.mono B_12.out.size)⟩
                  exact AllReadyH.nil
                exact AllReadyH.nil
              exact AllReadyH.nil
            exact AllReadyH.nil
          exact AllReadyH.nil
        · skip
          have qa0 := Ra_6.out.cell (j := 0) rfl
          have qa1 := Ra_6.out.cell (j := 1) rfl
          have qa2 := Ra_6.out.cell (j := 2) rfl
          have qr0 := Rr_6.out.cell (j := 0) rfl
          have qr1 := Rr_6.out.cell (j := 1) rfl
          have qr2 := Rr_6.out.cell (j := 2) rfl
          have qr3 := Rr_6.out.cell (j := 3) rfl
          have qr4 := Rr_6.out.cell (j := 4) rfl
          go_wp2_with (go_at_call 15; refine (num10_u _ _).mono ?_; rintro e w99 ⟨rfl, rfl⟩)
          go_at_call 11
          refine Calls.mono (do_v w6 _ a b n c m d t St Da_6.out 6 0 0 Ir Mo.noName [] none 0 0 (by unfold I64; decide) (by unfold I64; decide) (by unfold I64; decide) HIb.out (by decide) (P' := fun _ => True) (rBytes_none _ _ _ _ (fun _ => rfl))) ?_
          rintro e w13 ⟨ae, ne, ce, be, me, de, te, xq, yq, zq, fq, gq, hq, rfl, hd13, hy13, hn13, bb13⟩
          obtain ⟨Eq, hEq⟩ : ∃ z, z = (Mo.doR St (Mo.vOp Ir)).1 := ⟨_, rfl⟩
          obtain ⟨Iq, hIq⟩ : ∃ z, z = (Mo.doR St (Mo.vOp Ir)).2.2.1 := ⟨_, rfl⟩
          obtain ⟨Zq, hZq⟩ : ∃ z, z = (Mo.doR St (Mo.vOp Ir)).2.2.2.2 := ⟨_, rfl⟩
          rw [← hEq, ← hIq, ← hZq]
          have HEq : Hid _ := hEq
          have HIq : Hid _ := hIq
          have HZq : Hid _ := hZq
          clear hEq hIq hZq
          have De_13 : Hid (rSta.rd w13 (fun b => w6.heap.size ≤ b ∧ b < w13.heap.size) [.slice ae ne ce, .slice be me de, .int .i64 te] (Mo.doS St (Mo.vOp Ir))) := rSta.weaken hd13 (fun q hq hl => ⟨hq, hl⟩)
          have Yq_13 : Hid (rBytes.rd w13 (fun b => w6.heap.size ≤ b) [.slice xq yq zq] ((Mo.doR St (Mo.vOp Ir)).2.1)) := hy13
          have Nq_13 : Hid (rNmds.rd w13 (fun b => w6.heap.size ≤ b) [.slice fq gq hq] ((Mo.doR St (Mo.vOp Ir)).2.2.2.1)) := hn13
          have Rs_13 : Hid (Row w13 (W.heap.size) 25 [.slice a0 n0 c0, .slice b0 m0 d0, .int .i64 t0]) := Rs_6.out.below (bb13)
          have Ds_13 : Hid (rSta.rd w13 (fun b => b < W.heap.size) [.slice a0 n0 c0, .slice b0 m0 d0, .int .i64 t0] (s)) := Rep.below Ds_6.out (bb13)
          have Rr_13 : Hid (Row w13 (wA5.heap.size) 38 [.int .i64 0, .slice xr yr zr, .int .i64 Ir, .slice fr gr hr, .int .i64 Zr]) := Rr_6.out.below (bb13)
          have Ra_13 : Hid (Row w13 (Ba) 31 [.slice a n c, .slice b m d, .int .i64 t]) := Ra_6.out.below (bb13)
          have Da_13 : Hid (rSta.rd w13 ((· ≠ Ba)) [.slice a n c, .slice b m d, .int .i64 t] (St)) := Rep.below Da_6.out (bb13)
          have B_13 : Hid (Below W.heap.size W w13) := on B_6.out (bb13)
          clear qa0 qa1 qa2 qr0 qr1 qr2 qr3 qr4
          clear Rs_6 Ds_6 Rr_6 Ra_6 Da_6
          have HLT13 : Hid (W.heap.size < w13.heap.size) := Rs_13.out.lt
          clear hd13 hy13 hn13 bb13
          obtain ⟨wA14, wB14, wX14, w14, hA14, hB14, va, hX14, vr, hY14, vs, vt, k14, hl14⟩ := fresh2 w13 (.slice ae ne ce) (.slice be me de) (.int .i64 te) (.int .i64 Eq) (.slice xq yq zq) (.int .i64 Iq) (.slice fq gq hq) (.int .i64 Zq)
          have Re_14 : Hid (Row w14 (w13.heap.size) 31 [.slice ae ne ce, .slice be me de, .int .i64 te]) := vs
          have Rq_14 : Hid (Row w14 (wA14.heap.size) 38 [.int .i64 Eq, .slice xq yq zq, .int .i64 Iq, .slice fq gq hq, .int .i64 Zq]) := vt
          have Rs_14 : Hid (Row w14 (W.heap.size) 25 [.slice a0 n0 c0, .slice b0 m0 d0, .int .i64 t0]) := Rs_13.out.below (k14)
          have Ds_14 : Hid (rSta.rd w14 (fun b => b < W.heap.size) [.slice a0 n0 c0, .slice b0 m0 d0, .int .i64 t0] (s)) := Rep.below Ds_13.out (k14)
          have Rr_14 : Hid (Row w14 (wA5.heap.size) 38 [.int .i64 0, .slice xr yr zr, .int .i64 Ir, .slice fr gr hr, .int .i64 Zr]) := Rr_13.out.below (k14)
          have Ra_14 : Hid (Row w14 (Ba) 31 [.slice a n c, .slice b m d, .int .i64 t]) := Ra_13.out.below (k14)
          have Da_14 : Hid (rSta.rd w14 ((· ≠ Ba)) [.slice a n c, .slice b m d, .int .i64 t] (St)) := Rep.below Da_13.out (k14)
          have De_14 : Hid (rSta.rd w14 (fun b => w6.heap.size ≤ b ∧ b < w13.heap.size) [.slice ae ne ce, .slice be me de, .int .i64 te] (Mo.doS St (Mo.vOp Ir))) := Rep.below De_13.out (k14)
          have Yq_14 : Hid (rBytes.rd w14 (fun b => w6.heap.size ≤ b) [.slice xq yq zq] ((Mo.doR St (Mo.vOp Ir)).2.1)) := Rep.below Yq_13.out (k14)
          have Nq_14 : Hid (rNmds.rd w14 (fun b => w6.heap.size ≤ b) [.slice fq gq hq] ((Mo.doR St (Mo.vOp Ir)).2.2.2.1)) := Rep.below Nq_13.out (k14)
          have B_14 : Hid (Below W.heap.size W w14) := on B_13.out (k14)
          clear Rs_13 Ds_13 Rr_13 Ra_13 Da_13 De_13 Yq_13 Nq_13
          have p14_0 := va.cell (j := 0) rfl
          have r14_0 := va.frozen 0
          have p14_1 := va.cell (j := 1) rfl
          have r14_1 := va.frozen 1
          have p14_2 := va.cell (j := 2) rfl
          have r14_2 := va.frozen 2
          have s14_0 := vr.cell (j := 0) rfl
          have u14_0 := vr.frozen 0
          have s14_1 := vr.cell (j := 1) rfl
          have u14_1 := vr.frozen 1
          have s14_2 := vr.cell (j := 2) rfl
          have u14_2 := vr.frozen 2
          have s14_3 := vr.cell (j := 3) rfl
          have u14_3 := vr.frozen 3
          have s14_4 := vr.cell (j := 4) rfl
          have u14_4 := vr.frozen 4
          have HL14 : Hid _ := hl14
          clear va vr vs vt k14 hl14
          obtain rfl := HEq.out.trans HV1.out
          have qe0 := Re_14.out.cell (j := 0) rfl
          have qe1 := Re_14.out.cell (j := 1) rfl
          have qe2 := Re_14.out.cell (j := 2) rfl
          have qr0 := Rr_14.out.cell (j := 0) rfl
          have qr1 := Rr_14.out.cell (j := 1) rfl
          have qr2 := Rr_14.out.cell (j := 2) rfl
          have qr3 := Rr_14.out.cell (j := 3) rfl
          have qr4 := Rr_14.out.cell (j := 4) rfl
          go_wp2_with (go_at_call 15; refine (num10_u _ _).mono ?_; rintro e w99 ⟨rfl, rfl⟩)
          go_at_call 11
          refine Calls.mono (do_v w14 _ ae be ne ce me de te (Mo.doS St (Mo.vOp Ir)) De_14.out 5 0 0 Ir Mo.noName [] none 0 0 (by unfold I64; decide) (by unfold I64; decide) (by unfold I64; decide) HIb.out (by decide) (P' := fun _ => True) (rBytes_none _ _ _ _ (fun _ => rfl))) ?_
          rintro e w15 ⟨au, nu, cu, bu, mu, du, tu, xp, yp, zp, fp, gp, hp, rfl, hd15, hy15, hn15, bb15⟩
          obtain ⟨Ep, hEp⟩ : ∃ z, z = (Mo.doR (Mo.doS St (Mo.vOp Ir)) (Mo.dOp Ir)).1 := ⟨_, rfl⟩
          obtain ⟨Ip, hIp⟩ : ∃ z, z = (Mo.doR (Mo.doS St (Mo.vOp Ir)) (Mo.dOp Ir)).2.2.1 := ⟨_, rfl⟩
          obtain ⟨Zp, hZp⟩ : ∃ z, z = (Mo.doR (Mo.doS St (Mo.vOp Ir)) (Mo.dOp Ir)).2.2.2.2 := ⟨_, rfl⟩
          rw [← hEp, ← hIp, ← hZp]
          have HEp : Hid _ := hEp
          have HIp : Hid _ := hIp
          have HZp : Hid _ := hZp
          clear hEp hIp hZp
          have Du_15 : Hid (rSta.rd w15 (fun b => w14.heap.size ≤ b ∧ b < w15.heap.size) [.slice au nu cu, .slice bu mu du, .int .i64 tu] (Mo.doS (Mo.doS St (Mo.vOp Ir)) (Mo.dOp Ir))) := rSta.weaken hd15 (fun q hq hl => ⟨hq, hl⟩)
          have Yp_15 : Hid (rBytes.rd w15 (fun b => w14.heap.size ≤ b) [.slice xp yp zp] ((Mo.doR (Mo.doS St (Mo.vOp Ir)) (Mo.dOp Ir)).2.1)) := hy15
          have Np_15 : Hid (rNmds.rd w15 (fun b => w14.heap.size ≤ b) [.slice fp gp hp] ((Mo.doR (Mo.doS St (Mo.vOp Ir)) (Mo.dOp Ir)).2.2.2.1)) := hn15
          have Rs_15 : Hid (Row w15 (W.heap.size) 25 [.slice a0 n0 c0, .slice b0 m0 d0, .int .i64 t0]) := Rs_14.out.below (bb15)
          have Ds_15 : Hid (rSta.rd w15 (fun b => b < W.heap.size) [.slice a0 n0 c0, .slice b0 m0 d0, .int .i64 t0] (s)) := Rep.below Ds_14.out (bb15)
          have Rr_15 : Hid (Row w15 (wA5.heap.size) 38 [.int .i64 0, .slice xr yr zr, .int .i64 Ir, .slice fr gr hr, .int .i64 Zr]) := Rr_14.out.below (bb15)
          have Ra_15 : Hid (Row w15 (Ba) 31 [.slice a n c, .slice b m d, .int .i64 t]) := Ra_14.out.below (bb15)
          have Da_15 : Hid (rSta.rd w15 ((· ≠ Ba)) [.slice a n c, .slice b m d, .int .i64 t] (St)) := Rep.below Da_14.out (bb15)
          have De_15 : Hid (rSta.rd w15 (fun b => w6.heap.size ≤ b ∧ b < w13.heap.size) [.slice ae ne ce, .slice be me de, .int .i64 te] (Mo.doS St (Mo.vOp Ir))) := Rep.below De_14.out (bb15)
          have Yq_15 : Hid (rBytes.rd w15 (fun b => w6.heap.size ≤ b) [.slice xq yq zq] ((Mo.doR St (Mo.vOp Ir)).2.1)) := Rep.below Yq_14.out (bb15)
          have Nq_15 : Hid (rNmds.rd w15 (fun b => w6.heap.size ≤ b) [.slice fq gq hq] ((Mo.doR St (Mo.vOp Ir)).2.2.2.1)) := Rep.below Nq_14.out (bb15)
          have Re_15 : Hid (Row w15 (w13.heap.size) 31 [.slice ae ne ce, .slice be me de, .int .i64 te]) := Re_14.out.below (bb15)
          have Rq_15 : Hid (Row w15 (wA14.heap.size) 38 [.int .i64 0, .slice xq yq zq, .int .i64 Iq, .slice fq gq hq, .int .i64 Zq]) := Rq_14.out.below (bb15)
          have B_15 : Hid (Below W.heap.size W w15) := on B_14.out (bb15)
          clear p14_0 r14_0 p14_1 r14_1 p14_2 r14_2 s14_0 u14_0 s14_1 u14_1 s14_2 u14_2 s14_3 u14_3 s14_4 u14_4 hA14 hB14 hX14 hY14 qe0 qe1 qe2 qr0 qr1 qr2 qr3 qr4
          clear Rs_14 Ds_14 Rr_14 Ra_14 Da_14 De_14 Yq_14 Nq_14 Re_14 Rq_14
          have HLT15 : Hid (W.heap.size < w15.heap.size) := Rs_15.out.lt
          clear hd15 hy15 hn15 bb15
          obtain ⟨wA16, wB16, wX16, w16, hA16, hB16, va, hX16, vr, hY16, vs, vt, k16, hl16⟩ := fresh2 w15 (.slice au nu cu) (.slice bu mu du) (.int .i64 tu) (.int .i64 Ep) (.slice xp yp zp) (.int .i64 Ip) (.slice fp gp hp) (.int .i64 Zp)
          have Ru_16 : Hid (Row w16 (w15.heap.size) 31 [.slice au nu cu, .slice bu mu du, .int .i64 tu]) := vs
          have Rp_16 : Hid (Row w16 (wA16.heap.size) 38 [.int .i64 Ep, .slice xp yp zp, .int .i64 Ip, .slice fp gp hp, .int .i64 Zp]) := vt
          have Rs_16 : Hid (Row w16 (W.heap.size) 25 [.slice a0 n0 c0, .slice b0 m0 d0, .int .i64 t0]) := Rs_15.out.below (k16)
          have Ds_16 : Hid (rSta.rd w16 (fun b => b < W.heap.size) [.slice a0 n0 c0, .slice b0 m0 d0, .int .i64 t0] (s)) := Rep.below Ds_15.out (k16)
          have Rr_16 : Hid (Row w16 (wA5.heap.size) 38 [.int .i64 0, .slice xr yr zr, .int .i64 Ir, .slice fr gr hr, .int .i64 Zr]) := Rr_15.out.below (k16)
          have Ra_16 : Hid (Row w16 (Ba) 31 [.slice a n c, .slice b m d, .int .i64 t]) := Ra_15.out.below (k16)
          have Da_16 : Hid (rSta.rd w16 ((· ≠ Ba)) [.slice a n c, .slice b m d, .int .i64 t] (St)) := Rep.below Da_15.out (k16)
          have De_16 : Hid (rSta.rd w16 (fun b => w6.heap.size ≤ b ∧ b < w13.heap.size) [.slice ae ne ce, .slice be me de, .int .i64 te] (Mo.doS St (Mo.vOp Ir))) := Rep.below De_15.out (k16)
          have Yq_16 : Hid (rBytes.rd w16 (fun b => w6.heap.size ≤ b) [.slice xq yq zq] ((Mo.doR St (Mo.vOp Ir)).2.1)) := Rep.below Yq_15.out (k16)
          have Nq_16 : Hid (rNmds.rd w16 (fun b => w6.heap.size ≤ b) [.slice fq gq hq] ((Mo.doR St (Mo.vOp Ir)).2.2.2.1)) := Rep.below Nq_15.out (k16)
          have Re_16 : Hid (Row w16 (w13.heap.size) 31 [.slice ae ne ce, .slice be me de, .int .i64 te]) := Re_15.out.below (k16)
          have Rq_16 : Hid (Row w16 (wA14.heap.size) 38 [.int .i64 0, .slice xq yq zq, .int .i64 Iq, .slice fq gq hq, .int .i64 Zq]) := Rq_15.out.below (k16)
          have Du_16 : Hid (rSta.rd w16 (fun b => w14.heap.size ≤ b ∧ b < w15.heap.size) [.slice au nu cu, .slice bu mu du, .int .i64 tu] (Mo.doS (Mo.doS St (Mo.vOp Ir)) (Mo.dOp Ir))) := Rep.below Du_15.out (k16)
          have Yp_16 : Hid (rBytes.rd w16 (fun b => w14.heap.size ≤ b) [.slice xp yp zp] ((Mo.doR (Mo.doS St (Mo.vOp Ir)) (Mo.dOp Ir)).2.1)) := Rep.below Yp_15.out (k16)
          have Np_16 : Hid (rNmds.rd w16 (fun b => w14.heap.size ≤ b) [.slice fp gp hp] ((Mo.doR (Mo.doS St (Mo.vOp Ir)) (Mo.dOp Ir)).2.2.2.1)) := Rep.below Np_15.out (k16)
          have B_16 : Hid (Below W.heap.size W w16) := on B_15.out (k16)
          clear Rs_15 Ds_15 Rr_15 Ra_15 Da_15 De_15 Yq_15 Nq_15 Re_15 Rq_15 Du_15 Yp_15 Np_15
          have p16_0 := va.cell (j := 0) rfl
          have r16_0 := va.frozen 0
          have p16_1 := va.cell (j := 1) rfl
          have r16_1 := va.frozen 1
          have p16_2 := va.cell (j := 2) rfl
          have r16_2 := va.frozen 2
          have s16_0 := vr.cell (j := 0) rfl
          have u16_0 := vr.frozen 0
          have s16_1 := vr.cell (j := 1) rfl
          have u16_1 := vr.frozen 1
          have s16_2 := vr.cell (j := 2) rfl
          have u16_2 := vr.frozen 2
          have s16_3 := vr.cell (j := 3) rfl
          have u16_3 := vr.frozen 3
          have s16_4 := vr.cell (j := 4) rfl
          have u16_4 := vr.frozen 4
          have HL16 : Hid _ := hl16
          clear va vr vs vt k16 hl16
          obtain rfl := HEp.out.trans HV4.out
          have qu0 := Ru_16.out.cell (j := 0) rfl
          have qu1 := Ru_16.out.cell (j := 1) rfl
          have qu2 := Ru_16.out.cell (j := 2) rfl
          have qr0 := Rr_16.out.cell (j := 0) rfl
          have qr1 := Rr_16.out.cell (j := 1) rfl
          have qr2 := Rr_16.out.cell (j := 2) rfl
          have qr3 := Rr_16.out.cell (j := 3) rfl
          have qr4 := Rr_16.out.cell (j := 4) rfl
          go_wp2_with (go_at_call 15; refine (num10_u _ _).mono ?_; rintro e w99 ⟨rfl, rfl⟩)
          go_at_call 11
          refine Calls.mono (do_v w16 _ au bu nu cu mu du tu (Mo.doS (Mo.doS St (Mo.vOp Ir)) (Mo.dOp Ir)) Du_16.out 6 0 0 Ir Mo.noName [] none 0 0 (by unfold I64; decide) (by unfold I64; decide) (by unfold I64; decide) HIb.out (by decide) (P' := fun _ => True) (rBytes_none _ _ _ _ (fun _ => rfl))) ?_
          rintro e w17 ⟨ak, nk, ck, bk, mk, dk, tk, xz, yz, zz, fz, gz, hz, rfl, hd17, hy17, hn17, bb17⟩
          obtain ⟨Ez, hEz⟩ : ∃ z, z = (Mo.doR (Mo.doS (Mo.doS St (Mo.vOp Ir)) (Mo.dOp Ir)) (Mo.vOp Ir)).1 := ⟨_, rfl⟩
          obtain ⟨Iz, hIz⟩ : ∃ z, z = (Mo.doR (Mo.doS (Mo.doS St (Mo.vOp Ir)) (Mo.dOp Ir)) (Mo.vOp Ir)).2.2.1 := ⟨_, rfl⟩
          obtain ⟨Zz, hZz⟩ : ∃ z, z = (Mo.doR (Mo.doS (Mo.doS St (Mo.vOp Ir)) (Mo.dOp Ir)) (Mo.vOp Ir)).2.2.2.2 := ⟨_, rfl⟩
          rw [← hEz, ← hIz, ← hZz]
          have HEz : Hid _ := hEz
          have HIz : Hid _ := hIz
          have HZz : Hid _ := hZz
          clear hEz hIz hZz
          have Dk_17 : Hid (rSta.rd w17 (fun b => w16.heap.size ≤ b ∧ b < w17.heap.size) [.slice ak nk ck, .slice bk mk dk, .int .i64 tk] (Mo.doS (Mo.doS (Mo.doS St (Mo.vOp Ir)) (Mo.dOp Ir)) (Mo.vOp Ir))) := rSta.weaken hd17 (fun q hq hl => ⟨hq, hl⟩)
          have Yz_17 : Hid (rBytes.rd w17 (fun b => w16.heap.size ≤ b) [.slice xz yz zz] ((Mo.doR (Mo.doS (Mo.doS St (Mo.vOp Ir)) (Mo.dOp Ir)) (Mo.vOp Ir)).2.1)) := hy17
          have Nz_17 : Hid (rNmds.rd w17 (fun b => w16.heap.size ≤ b) [.slice fz gz hz] ((Mo.doR (Mo.doS (Mo.doS St (Mo.vOp Ir)) (Mo.dOp Ir)) (Mo.vOp Ir)).2.2.2.1)) := hn17
          have Rs_17 : Hid (Row w17 (W.heap.size) 25 [.slice a0 n0 c0, .slice b0 m0 d0, .int .i64 t0]) := Rs_16.out.below (bb17)
          have Ds_17 : Hid (rSta.rd w17 (fun b => b < W.heap.size) [.slice a0 n0 c0, .slice b0 m0 d0, .int .i64 t0] (s)) := Rep.below Ds_16.out (bb17)
          have Rr_17 : Hid (Row w17 (wA5.heap.size) 38 [.int .i64 0, .slice xr yr zr, .int .i64 Ir, .slice fr gr hr, .int .i64 Zr]) := Rr_16.out.below (bb17)
          have Ra_17 : Hid (Row w17 (Ba) 31 [.slice a n c, .slice b m d, .int .i64 t]) := Ra_16.out.below (bb17)
          have Da_17 : Hid (rSta.rd w17 ((· ≠ Ba)) [.slice a n c, .slice b m d, .int .i64 t] (St)) := Rep.below Da_16.out (bb17)
          have De_17 : Hid (rSta.rd w17 (fun b => w6.heap.size ≤ b ∧ b < w13.heap.size) [.slice ae ne ce, .slice be me de, .int .i64 te] (Mo.doS St (Mo.vOp Ir))) := Rep.below De_16.out (bb17)
          have Yq_17 : Hid (rBytes.rd w17 (fun b => w6.heap.size ≤ b) [.slice xq yq zq] ((Mo.doR St (Mo.vOp Ir)).2.1)) := Rep.below Yq_16.out (bb17)
          have Nq_17 : Hid (rNmds.rd w17 (fun b => w6.heap.size ≤ b) [.slice fq gq hq] ((Mo.doR St (Mo.vOp Ir)).2.2.2.1)) := Rep.below Nq_16.out (bb17)
          have Re_17 : Hid (Row w17 (w13.heap.size) 31 [.slice ae ne ce, .slice be me de, .int .i64 te]) := Re_16.out.below (bb17)
          have Rq_17 : Hid (Row w17 (wA14.heap.size) 38 [.int .i64 0, .slice xq yq zq, .int .i64 Iq, .slice fq gq hq, .int .i64 Zq]) := Rq_16.out.below (bb17)
          have Du_17 : Hid (rSta.rd w17 (fun b => w14.heap.size ≤ b ∧ b < w15.heap.size) [.slice au nu cu, .slice bu mu du, .int .i64 tu] (Mo.doS (Mo.doS St (Mo.vOp Ir)) (Mo.dOp Ir))) := Rep.below Du_16.out (bb17)
          have Yp_17 : Hid (rBytes.rd w17 (fun b => w14.heap.size ≤ b) [.slice xp yp zp] ((Mo.doR (Mo.doS St (Mo.vOp Ir)) (Mo.dOp Ir)).2.1)) := Rep.below Yp_16.out (bb17)
          have Np_17 : Hid (rNmds.rd w17 (fun b => w14.heap.size ≤ b) [.slice fp gp hp] ((Mo.doR (Mo.doS St (Mo.vOp Ir)) (Mo.dOp Ir)).2.2.2.1)) := Rep.below Np_16.out (bb17)
          have Ru_17 : Hid (Row w17 (w15.heap.size) 31 [.slice au nu cu, .slice bu mu du, .int .i64 tu]) := Ru_16.out.below (bb17)
          have Rp_17 : Hid (Row w17 (wA16.heap.size) 38 [.int .i64 0, .slice xp yp zp, .int .i64 Ip, .slice fp gp hp, .int .i64 Zp]) := Rp_16.out.below (bb17)
          have B_17 : Hid (Below W.heap.size W w17) := on B_16.out (bb17)
          clear p16_0 r16_0 p16_1 r16_1 p16_2 r16_2 s16_0 u16_0 s16_1 u16_1 s16_2 u16_2 s16_3 u16_3 s16_4 u16_4 hA16 hB16 hX16 hY16 qu0 qu1 qu2 qr0 qr1 qr2 qr3 qr4
          clear Rs_16 Ds_16 Rr_16 Ra_16 Da_16 De_16 Yq_16 Nq_16 Re_16 Rq_16 Du_16 Yp_16 Np_16 Ru_16 Rp_16
          have HLT17 : Hid (W.heap.size < w17.heap.size) := Rs_17.out.lt
          clear hd17 hy17 hn17 bb17
          obtain ⟨wA18, wB18, wX18, w18, hA18, hB18, va, hX18, vr, hY18, vs, vt, k18, hl18⟩ := fresh2 w17 (.slice ak nk ck) (.slice bk mk dk) (.int .i64 tk) (.int .i64 Ez) (.slice xz yz zz) (.int .i64 Iz) (.slice fz gz hz) (.int .i64 Zz)
          have Rk_18 : Hid (Row w18 (w17.heap.size) 31 [.slice ak nk ck, .slice bk mk dk, .int .i64 tk]) := vs
          have Rz_18 : Hid (Row w18 (wA18.heap.size) 38 [.int .i64 Ez, .slice xz yz zz, .int .i64 Iz, .slice fz gz hz, .int .i64 Zz]) := vt
          have Rs_18 : Hid (Row w18 (W.heap.size) 25 [.slice a0 n0 c0, .slice b0 m0 d0, .int .i64 t0]) := Rs_17.out.below (k18)
          have Ds_18 : Hid (rSta.rd w18 (fun b => b < W.heap.size) [.slice a0 n0 c0, .slice b0 m0 d0, .int .i64 t0] (s)) := Rep.below Ds_17.out (k18)
          have Rr_18 : Hid (Row w18 (wA5.heap.size) 38 [.int .i64 0, .slice xr yr zr, .int .i64 Ir, .slice fr gr hr, .int .i64 Zr]) := Rr_17.out.below (k18)
          have Ra_18 : Hid (Row w18 (Ba) 31 [.slice a n c, .slice b m d, .int .i64 t]) := Ra_17.out.below (k18)
          have Da_18 : Hid (rSta.rd w18 ((· ≠ Ba)) [.slice a n c, .slice b m d, .int .i64 t] (St)) := Rep.below Da_17.out (k18)
          have De_18 : Hid (rSta.rd w18 (fun b => w6.heap.size ≤ b ∧ b < w13.heap.size) [.slice ae ne ce, .slice be me de, .int .i64 te] (Mo.doS St (Mo.vOp Ir))) := Rep.below De_17.out (k18)
          have Yq_18 : Hid (rBytes.rd w18 (fun b => w6.heap.size ≤ b) [.slice xq yq zq] ((Mo.doR St (Mo.vOp Ir)).2.1)) := Rep.below Yq_17.out (k18)
          have Nq_18 : Hid (rNmds.rd w18 (fun b => w6.heap.size ≤ b) [.slice fq gq hq] ((Mo.doR St (Mo.vOp Ir)).2.2.2.1)) := Rep.below Nq_17.out (k18)
          have Re_18 : Hid (Row w18 (w13.heap.size) 31 [.slice ae ne ce, .slice be me de, .int .i64 te]) := Re_17.out.below (k18)
          have Rq_18 : Hid (Row w18 (wA14.heap.size) 38 [.int .i64 0, .slice xq yq zq, .int .i64 Iq, .slice fq gq hq, .int .i64 Zq]) := Rq_17.out.below (k18)
          have Du_18 : Hid (rSta.rd w18 (fun b => w14.heap.size ≤ b ∧ b < w15.heap.size) [.slice au nu cu, .slice bu mu du, .int .i64 tu] (Mo.doS (Mo.doS St (Mo.vOp Ir)) (Mo.dOp Ir))) := Rep.below Du_17.out (k18)
          have Yp_18 : Hid (rBytes.rd w18 (fun b => w14.heap.size ≤ b) [.slice xp yp zp] ((Mo.doR (Mo.doS St (Mo.vOp Ir)) (Mo.dOp Ir)).2.1)) := Rep.below Yp_17.out (k18)
          have Np_18 : Hid (rNmds.rd w18 (fun b => w14.heap.size ≤ b) [.slice fp gp hp] ((Mo.doR (Mo.doS St (Mo.vOp Ir)) (Mo.dOp Ir)).2.2.2.1)) := Rep.below Np_17.out (k18)
          have Ru_18 : Hid (Row w18 (w15.heap.size) 31 [.slice au nu cu, .slice bu mu du, .int .i64 tu]) := Ru_17.out.below (k18)
          have Rp_18 : Hid (Row w18 (wA16.heap.size) 38 [.int .i64 0, .slice xp yp zp, .int .i64 Ip, .slice fp gp hp, .int .i64 Zp]) := Rp_17.out.below (k18)
          have Dk_18 : Hid (rSta.rd w18 (fun b => w16.heap.size ≤ b ∧ b < w17.heap.size) [.slice ak nk ck, .slice bk mk dk, .int .i64 tk] (Mo.doS (Mo.doS (Mo.doS St (Mo.vOp Ir)) (Mo.dOp Ir)) (Mo.vOp Ir))) := Rep.below Dk_17.out (k18)
          have Yz_18 : Hid (rBytes.rd w18 (fun b => w16.heap.size ≤ b) [.slice xz yz zz] ((Mo.doR (Mo.doS (Mo.doS St (Mo.vOp Ir)) (Mo.dOp Ir)) (Mo.vOp Ir)).2.1)) := Rep.below Yz_17.out (k18)
          have Nz_18 : Hid (rNmds.rd w18 (fun b => w16.heap.size ≤ b) [.slice fz gz hz] ((Mo.doR (Mo.doS (Mo.doS St (Mo.vOp Ir)) (Mo.dOp Ir)) (Mo.vOp Ir)).2.2.2.1)) := Rep.below Nz_17.out (k18)
          have B_18 : Hid (Below W.heap.size W w18) := on B_17.out (k18)
          clear Rs_17 Ds_17 Rr_17 Ra_17 Da_17 De_17 Yq_17 Nq_17 Re_17 Rq_17 Du_17 Yp_17 Np_17 Ru_17 Rp_17 Dk_17 Yz_17 Nz_17
          have p18_0 := va.cell (j := 0) rfl
          have r18_0 := va.frozen 0
          have p18_1 := va.cell (j := 1) rfl
          have r18_1 := va.frozen 1
          have p18_2 := va.cell (j := 2) rfl
          have r18_2 := va.frozen 2
          have s18_0 := vr.cell (j := 0) rfl
          have u18_0 := vr.frozen 0
          have s18_1 := vr.cell (j := 1) rfl
          have u18_1 := vr.frozen 1
          have s18_2 := vr.cell (j := 2) rfl
          have u18_2 := vr.frozen 2
          have s18_3 := vr.cell (j := 3) rfl
          have u18_3 := vr.frozen 3
          have s18_4 := vr.cell (j := 4) rfl
          have u18_4 := vr.frozen 4
          have HL18 : Hid _ := hl18
          clear va vr vs vt k18 hl18
          obtain rfl := HEz.out.trans HV6.out
          have qq0 := Rq_18.out.cell (j := 0) rfl
          have qq1 := Rq_18.out.cell (j := 1) rfl
          have qq2 := Rq_18.out.cell (j := 2) rfl
          have qq3 := Rq_18.out.cell (j := 3) rfl
          have qq4 := Rq_18.out.cell (j := 4) rfl
          have qp0 := Rp_18.out.cell (j := 0) rfl
          have qp1 := Rp_18.out.cell (j := 1) rfl
          have qp2 := Rp_18.out.cell (j := 2) rfl
          have qp3 := Rp_18.out.cell (j := 3) rfl
          have qp4 := Rp_18.out.cell (j := 4) rfl
          have qz0 := Rz_18.out.cell (j := 0) rfl
          have qz1 := Rz_18.out.cell (j := 1) rfl
          have qz2 := Rz_18.out.cell (j := 2) rfl
          have qz3 := Rz_18.out.cell (j := 3) rfl
          have qz4 := Rz_18.out.cell (j := 4) rfl
          have qe0 := Re_18.out.cell (j := 0) rfl
          have qe1 := Re_18.out.cell (j := 1) rfl
          have qe2 := Re_18.out.cell (j := 2) rfl
          have qu0 := Ru_18.out.cell (j := 0) rfl
          have qu1 := Ru_18.out.cell (j := 1) rfl
          have qu2 := Ru_18.out.cell (j := 2) rfl
          have qs0 := Rs_18.out.cell (j := 0) rfl
          have qs1 := Rs_18.out.cell (j := 1) rfl
          have qs2 := Rs_18.out.cell (j := 2) rfl
          have ew : IntKind.i64.wrap 0 = 0 := by decide
          have eZ : (Zq == (n0 : Int)) = true := by rw [beq_iff_eq, HZq.out, HV3.out, HNs.out]
          have HP0 : Hid (rSectors.rd w18 (fun _ => True) [.slice a0 n0 c0] s.1) := rSectors.weaken (sta_parts Ds_18.out).1 (fun _ _ _ => trivial)
          have HP1 : Hid (rSectors.rd w18 (fun _ => True) [.slice ae ne ce] s.1) := by have h := (sta_parts De_18.out).1; rw [HV2.out] at h; exact rSectors.weaken h (fun _ _ _ => trivial)
          have HP2 : Hid (rSectors.rd w18 (fun _ => True) [.slice au nu cu] s.1) := by have h := (sta_parts Du_18.out).1; rw [HV5.out] at h; exact rSectors.weaken h (fun _ _ _ => trivial)
          go_wp2_with fail
          have HSee : Hid (∀ w', Below w18.heap.size w18 w' → w'.cell? ⟨wA14.heap.size, 0, none⟩ = some (.int .i64 0) ∧ w'.cell? ⟨wA14.heap.size, 4, none⟩ = some (.int .i64 Zq) ∧ w'.cell? ⟨wA16.heap.size, 0, none⟩ = some (.int .i64 0) ∧ w'.cell? ⟨wA18.heap.size, 0, none⟩ = some (.int .i64 71) ∧ w'.cell? ⟨w13.heap.size, 0, none⟩ = some (.slice ae ne ce) ∧ w'.cell? ⟨w15.heap.size, 0, none⟩ = some (.slice au nu cu) ∧ w'.cell? ⟨W.heap.size, 0, none⟩ = some (.slice a0 n0 c0)) := fun w' hb => ⟨(Rq_18.out.below hb).cell (j := 0) rfl, (Rq_18.out.below hb).cell (j := 4) rfl, (Rp_18.out.below hb).cell (j := 0) rfl, (Rz_18.out.below hb).cell (j := 0) rfl, (Re_18.out.below hb).cell (j := 0) rfl, (Ru_18.out.below hb).cell (j := 0) rfl, (Rs_18.out.below hb).cell (j := 0) rfl⟩
          have S0 := HSee.out _ (Below.refl _ w18).drew
          refine wp_region_held_drew (S := (fun w' : World => w'.cell? ⟨wA14.heap.size, 0, none⟩ = some (.int .i64 0) ∧ w'.cell? ⟨wA14.heap.size, 4, none⟩ = some (.int .i64 Zq) ∧ w'.cell? ⟨wA16.heap.size, 0, none⟩ = some (.int .i64 0) ∧ w'.cell? ⟨wA18.heap.size, 0, none⟩ = some (.int .i64 71) ∧ w'.cell? ⟨w13.heap.size, 0, none⟩ = some (.slice ae ne ce) ∧ w'.cell? ⟨w15.heap.size, 0, none⟩ = some (.slice au nu cu) ∧ w'.cell? ⟨W.heap.size, 0, none⟩ = some (.slice a0 n0 c0))) (by kernel_rfl) (S0) (fun hHeld => ?_)
          refine wpAnyH_takeL (i := 0) (v := ?_) rfl rfl (by kernel_rfl) (by kernel_rfl) (by kernel_rfl) (fun _ _ _ h => h) (Or.inl ⟨by rfl, ?_⟩) (by assumption) ?_
          rotate_left
          · intro w hSw
            try dsimp only at hSw
            go_simp
            all_goals with_reducible rfl
          simp only [List.set_cons_zero, List.set_cons_succ]
          refine wpAnyH_takeL (i := 1) (v := ?_) rfl rfl (by kernel_rfl) (by kernel_rfl) (by kernel_rfl) (fun _ _ _ h => h) (Or.inl ⟨by rfl, ?_⟩) (by assumption) ?_
          rotate_left
          · intro w hSw
            try dsimp only at hSw
            go_simp
            all_goals with_reducible rfl
          simp only [List.set_cons_zero, List.set_cons_succ]
          refine wpAnyH_takeL (i := 3) (v := ?_) rfl rfl (by kernel_rfl) (by kernel_rfl) (by kernel_rfl) (fun _ _ _ h => h) (Or.inl ⟨by rfl, ?_⟩) (by assumption) ?_
          rotate_left
          · intro w hSw
            try dsimp only at hSw
            go_simp
            all_goals with_reducible rfl
          simp only [List.set_cons_zero, List.set_cons_succ]
          refine wpAnyH_takeL (i := 4) (v := ?_) rfl rfl (by kernel_rfl) (by kernel_rfl) (by kernel_rfl) (fun _ _ _ h => h) (Or.inl ⟨by rfl, ?_⟩) (by assumption) ?_
          rotate_left
          · intro w hSw
            try dsimp only at hSw
            go_simp
            all_goals with_reducible rfl
          simp only [List.set_cons_zero, List.set_cons_succ]
          refine wpAnyH_ready (rs := [2]) (by kernel_rfl) (by simp) ?_
          refine AllReadyH.cons rfl (fun K hK => ?_) ?_
          · go_simp
            go_at_call 15
            refine (num10_u _ _).mono ?_
            rintro e w99 ⟨rfl, rfl⟩
            go_simp
            refine hK.out _ _ ?_ (fun hHeld => ?_)
            · try dsimp only
              first | exact SP | exact SO | exact S0
            clear hK K
            refine wpAnyH_ready (rs := [5]) (by kernel_rfl) (by simp) ?_
            refine AllReadyH.cons rfl (fun K hK => ?_) ?_
            · go_simp
              go_at_call 15
              refine (num10_u _ _).mono ?_
              rintro e w99 ⟨rfl, rfl⟩
              go_simp
              refine hK.out _ _ ?_ (fun hHeld => ?_)
              · try dsimp only
                first | exact SP | exact SO | exact S0
              clear hK K
              refine wpAnyH_takeL (i := 6) (v := ?_) rfl rfl (by kernel_rfl) (by kernel_rfl) (by kernel_rfl) (fun _ _ _ h => h) (Or.inl ⟨by rfl, ?_⟩) (by assumption) ?_
              rotate_left
              · intro w hSw
                try dsimp only at hSw
                go_simp
                all_goals with_reducible rfl
              simp only [List.set_cons_zero, List.set_cons_succ]
              refine wpAnyH_takeL (i := 7) (v := ?_) rfl rfl (by kernel_rfl) (by kernel_rfl) (by kernel_rfl) (fun _ _ _ h => h) (Or.inl ⟨by rfl, ?_⟩) (by assumption) ?_
              rotate_left
              · intro w hSw
                try dsimp only at hSw
                go_simp
                all_goals with_reducible rfl
              simp only [List.set_cons_zero, List.set_cons_succ]
              refine wpAnyH_takeL (i := 8) (v := ?_) rfl rfl (by kernel_rfl) (by kernel_rfl) (by kernel_rfl) (fun _ _ _ h => h) (Or.inl ⟨by rfl, ?_⟩) (by assumption) ?_
              rotate_left
              · intro w hSw
                try dsimp only at hSw
                go_simp
                all_goals with_reducible rfl
              simp only [List.set_cons_zero, List.set_cons_succ]
              refine wpAnyH_takeL (i := 9) (v := ?_) rfl rfl (by kernel_rfl) (by kernel_rfl) (by kernel_rfl) (fun _ _ _ h => h) (Or.inl ⟨by rfl, ?_⟩) (by assumption) ?_
              rotate_left
              · intro w hSw
                try dsimp only at hSw
                go_simp
                all_goals with_reducible rfl
              simp only [List.set_cons_zero, List.set_cons_succ]
              refine wpAnyH_takeL (i := 10) (v := ?_) rfl rfl (by kernel_rfl) (by kernel_rfl) (by kernel_rfl) (fun _ _ _ h => h) (Or.inl ⟨by rfl, ?_⟩) (by assumption) ?_
              rotate_left
              · intro w hSw
                try dsimp only at hSw
                go_simp
                all_goals with_reducible rfl
              simp only [List.set_cons_zero, List.set_cons_succ]
              refine wpAnyH_ready (rs := [11]) (by kernel_rfl) (by simp) ?_
              refine AllReadyH.cons rfl (fun K hK => ?_) ?_
              · go_simp
                go_at_call 15
                refine (num10_u _ _).mono ?_
                rintro e w99 ⟨rfl, rfl⟩
                go_simp
                refine hK.out _ _ ?_ (fun hHeld => ?_)
                · try dsimp only
                  first | exact SP | exact SO | exact S0
                clear hK K
                refine wpAnyH_takeL (i := 12) (v := ?_) rfl rfl (by kernel_rfl) (by kernel_rfl) (by kernel_rfl) (fun _ _ _ h => h) (Or.inl ⟨by rfl, ?_⟩) (by assumption) ?_
                rotate_left
                · intro w hSw
                  try dsimp only at hSw
                  go_simp
                  all_goals with_reducible rfl
                simp only [List.set_cons_zero, List.set_cons_succ]
                refine wpAnyH_takeL (i := 13) (v := ?_) rfl rfl (by kernel_rfl) (by kernel_rfl) (by kernel_rfl) (fun _ _ _ h => h) (Or.inl ⟨by rfl, ?_⟩) (by assumption) ?_
                rotate_left
                · intro w hSw
                  try dsimp only at hSw
                  go_simp
                  all_goals with_reducible rfl
                simp only [List.set_cons_zero, List.set_cons_succ]
                refine wpAnyH_takeL (i := 14) (v := ?_) rfl rfl (by kernel_rfl) (by kernel_rfl) (by kernel_rfl) (fun _ _ _ h => h) (Or.inl ⟨by rfl, ?_⟩) (by assumption) ?_
                rotate_left
                · intro w hSw
                  try dsimp only at hSw
                  go_simp
                  all_goals with_reducible rfl
                simp only [List.set_cons_zero, List.set_cons_succ]
                refine wpAnyH_takeL (i := 15) (v := ?_) rfl rfl (by kernel_rfl) (by kernel_rfl) (by kernel_rfl) (fun _ _ _ h => h) (Or.inl ⟨by rfl, ?_⟩) (by assumption) ?_
                rotate_left
                · intro w hSw
                  try dsimp only at hSw
                  go_simp
                  all_goals with_reducible rfl
                simp only [List.set_cons_zero, List.set_cons_succ]
                refine wpAnyH_takeL (i := 16) (v := ?_) rfl rfl (by kernel_rfl) (by kernel_rfl) (by kernel_rfl) (fun _ _ _ h => h) (Or.inl ⟨by rfl, ?_⟩) (by assumption) ?_
                rotate_left
                · intro w hSw
                  try dsimp only at hSw
                  go_simp
                  all_goals with_reducible rfl
                simp only [List.set_cons_zero, List.set_cons_succ]
                refine wpAnyH_takeL (i := 17) (v := ?_) rfl rfl (by kernel_rfl) (by kernel_rfl) (by kernel_rfl) (fun _ _ _ h => h) (Or.inl ⟨by rfl, ?_⟩) (by assumption) ?_
                rotate_left
                · intro w hSw
                  try dsimp only at hSw
                  go_simp
                  all_goals with_reducible rfl
                simp only [List.set_cons_zero, List.set_cons_succ]
                refine wpAnyH_takeL (i := 18) (v := ?_) rfl rfl (by kernel_rfl) (by kernel_rfl) (by kernel_rfl) (fun _ _ _ h => h) (Or.inl ⟨by rfl, ?_⟩) (by assumption) ?_
                rotate_left
                · intro w hSw
                  try dsimp only at hSw
                  go_simp
                  all_goals with_reducible rfl
                simp only [List.set_cons_zero, List.set_cons_succ]
                refine wpAnyH_ready (rs := [19]) (by kernel_rfl) (by simp) ?_
                refine AllReadyH.cons rfl (fun K hK => ?_) ?_
                · go_simp
                  go_at_call 24
                  refine (sameList_q w18.drew _ _ _ _ _ _ _ _ s.1 s.1 (rSectors.keep HP1.out (fun _ _ _ => rfl)) (rSectors.keep HP0.out (fun _ _ _ => rfl))).mono ?_
                  rintro e wo ⟨rfl, qq, hqq⟩
                  have BO : Hid (Below w18.heap.size w18 wo) := by rw [hqq]; exact (Below.refl _ w18).drew.trans (below_drewN (Below.refl _ _) qq)
                  have SO := HSee.out _ BO.out
                  clear hqq
                  rw [beq_self_eq_true]
                  go_simp
                  refine hK.out _ _ ?_ (fun hHeld => ?_)
                  · try dsimp only
                    first | exact SP | exact SO | exact S0
                  clear hK K
                  refine wpAnyH_takeL (i := 20) (v := ?_) rfl rfl (by kernel_rfl) (by kernel_rfl) (by kernel_rfl) (fun _ _ _ h => h) (Or.inl ⟨by rfl, ?_⟩) (by assumption) ?_
                  rotate_left
                  · intro w hSw
                    try dsimp only at hSw
                    go_simp
                    all_goals with_reducible rfl
                  simp only [List.set_cons_zero, List.set_cons_succ]
                  refine wpAnyH_takeL (i := 21) (v := ?_) rfl rfl (by kernel_rfl) (by kernel_rfl) (by kernel_rfl) (fun _ _ _ h => h) (Or.inl ⟨by rfl, ?_⟩) (by assumption) ?_
                  rotate_left
                  · intro w hSw
                    try dsimp only at hSw
                    go_simp
                    all_goals with_reducible rfl
                  simp only [List.set_cons_zero, List.set_cons_succ]
                  refine wpAnyH_takeL (i := 22) (v := ?_) rfl rfl (by kernel_rfl) (by kernel_rfl) (by kernel_rfl) (fun _ _ _ h => h) (Or.inl ⟨by rfl, ?_⟩) (by assumption) ?_
                  rotate_left
                  · intro w hSw
                    try dsimp only at hSw
                    go_simp
                    all_goals with_reducible rfl
                  simp only [List.set_cons_zero, List.set_cons_succ]
                  refine wpAnyH_takeL (i := 23) (v := ?_) rfl rfl (by kernel_rfl) (by kernel_rfl) (by kernel_rfl) (fun _ _ _ h => h) (Or.inl ⟨by rfl, ?_⟩) (by assumption) ?_
                  rotate_left
                  · intro w hSw
                    try dsimp only at hSw
                    go_simp
                    all_goals with_reducible rfl
                  simp only [List.set_cons_zero, List.set_cons_succ]
                  refine wpAnyH_takeL (i := 24) (v := ?_) rfl rfl (by kernel_rfl) (by kernel_rfl) (by kernel_rfl) (fun _ _ _ h => h) (Or.inl ⟨by rfl, ?_⟩) (by assumption) ?_
                  rotate_left
                  · intro w hSw
                    try dsimp only at hSw
                    go_simp
                    all_goals with_reducible rfl
                  simp only [List.set_cons_zero, List.set_cons_succ]
                  refine wpAnyH_takeL (i := 25) (v := ?_) rfl rfl (by kernel_rfl) (by kernel_rfl) (by kernel_rfl) (fun _ _ _ h => h) (Or.inl ⟨by rfl, ?_⟩) (by assumption) ?_
                  rotate_left
                  · intro w hSw
                    try dsimp only at hSw
                    go_simp
                    all_goals with_reducible rfl
                  simp only [List.set_cons_zero, List.set_cons_succ]
                  refine wpAnyH_ready (rs := [26]) (by kernel_rfl) (by simp) ?_
                  refine AllReadyH.cons rfl (fun K hK => ?_) ?_
                  · go_simp
                    go_at_call 24
                    refine (sameList_q wo _ _ _ _ _ _ _ _ s.1 s.1 (Rep.below HP2.out BO.out) (Rep.below HP0.out BO.out)).mono ?_
                    rintro e wp ⟨rfl, qq, hqq⟩
                    have BP : Hid (Below w18.heap.size w18 wp) := by rw [hqq]; exact below_drewN BO.out qq
                    have SP := HSee.out _ BP.out
                    clear hqq
                    rw [beq_self_eq_true]
                    go_simp
                    refine hK.out _ _ ?_ (fun hHeld => ?_)
                    · try dsimp only
                      first | exact SP | exact SO | exact S0
                    clear hK K
                    refine wpAnyH_takeL (i := 27) (v := ?_) rfl rfl (by kernel_rfl) (by kernel_rfl) (by kernel_rfl) (fun _ _ _ h => h) (Or.inl ⟨by rfl, ?_⟩) (by assumption) ?_
                    rotate_left
                    · intro w hSw
                      try dsimp only at hSw
                      go_simp
                      all_goals with_reducible rfl
                    simp only [List.set_cons_zero, List.set_cons_succ]
                    refine wpAnyH_takeL (i := 28) (v := ?_) rfl rfl (by kernel_rfl) (by kernel_rfl) (by kernel_rfl) (fun _ _ _ h => h) (Or.inl ⟨by rfl, ?_⟩) (by assumption) ?_
                    rotate_left
                    · intro w hSw
                      try dsimp only at hSw
                      go_simp
                      all_goals with_reducible rfl
                    simp only [List.set_cons_zero, List.set_cons_succ]
                    refine wpAnyH_takeL (i := 29) (v := ?_) rfl rfl (by kernel_rfl) (by kernel_rfl) (by kernel_rfl) (fun _ _ _ h => h) (Or.inl ⟨by rfl, ?_⟩) (by assumption) ?_
                    rotate_left
                    · intro w hSw
                      try dsimp only at hSw
                      go_simp
                      all_goals with_reducible rfl
                    simp only [List.set_cons_zero, List.set_cons_succ]
                    refine wpAnyH_takeL (i := 30) (v := ?_) rfl rfl (by kernel_rfl) (by kernel_rfl) (by kernel_rfl) (fun _ _ _ h => h) (Or.inl ⟨by rfl, ?_⟩) (by assumption) ?_
                    rotate_left
                    · intro w hSw
                      try dsimp only at hSw
                      go_simp
                      all_goals with_reducible rfl
                    simp only [List.set_cons_zero, List.set_cons_succ]
                    refine wpAnyH_takeL (i := 31) (v := ?_) rfl rfl (by kernel_rfl) (by kernel_rfl) (by kernel_rfl) (fun _ _ _ h => h) (Or.inl ⟨by rfl, ?_⟩) (by assumption) ?_
                    rotate_left
                    · intro w hSw
                      try dsimp only at hSw
                      go_simp
                      all_goals with_reducible rfl
                    simp only [List.set_cons_zero, List.set_cons_succ]
                    refine wpAnyH_takeL (i := 32) (v := ?_) rfl rfl (by kernel_rfl) (by kernel_rfl) (by kernel_rfl) (fun _ _ _ h => h) (Or.inl ⟨by rfl, ?_⟩) (by assumption) ?_
                    rotate_left
                    · intro w hSw
                      try dsimp only at hSw
                      go_simp
                      all_goals with_reducible rfl
                    simp only [List.set_cons_zero, List.set_cons_succ]
                    refine wpAnyH_takeL (i := 33) (v := ?_) rfl rfl (by kernel_rfl) (by kernel_rfl) (by kernel_rfl) (fun _ _ _ h => h) (Or.inl ⟨by rfl, ?_⟩) (by assumption) ?_
                    rotate_left
                    · intro w hSw
                      try dsimp only at hSw
                      go_simp
                      all_goals with_reducible rfl
                    simp only [List.set_cons_zero, List.set_cons_succ]
                    refine wpAnyH_takeL (i := 34) (v := ?_) rfl rfl (by kernel_rfl) (by kernel_rfl) (by kernel_rfl) (fun _ _ _ h => h) (Or.inl ⟨by rfl, ?_⟩) (by assumption) ?_
                    rotate_left
                    · intro w hSw
                      try dsimp only at hSw
                      go_simp
                      all_goals with_reducible rfl
                    simp only [List.set_cons_zero, List.set_cons_succ]
                    refine wpAnyH_takeL (i := 35) (v := ?_) rfl rfl (by kernel_rfl) (by kernel_rfl) (by kernel_rfl) (fun _ _ _ h => h) (Or.inl ⟨by rfl, ?_⟩) (by assumption) ?_
                    rotate_left
                    · intro w hSw
                      try dsimp only at hSw
                      go_simp
                      all_goals with_reducible rfl
                    simp only [List.set_cons_zero, List.set_cons_succ]
                    refine wpAnyH_takeL (i := 36) (v := ?_) rfl rfl (by kernel_rfl) (by kernel_rfl) (by kernel_rfl) (fun _ _ _ h => h) (Or.inl ⟨by rfl, ?_⟩) (by assumption) ?_
                    rotate_left
                    · intro w hSw
                      try dsimp only at hSw
                      go_simp
                      all_goals with_reducible rfl
                    simp only [List.set_cons_zero, List.set_cons_succ]
                    refine wpAnyH_done (by kernel_rfl) ?_ _
                    clear hHeld SP SO S0
                    go_wp2
                    go_ret
                    exact ⟨rfl, B_18.out.trans (BP.out.mono B_18.out.size)⟩
                  exact AllReadyH.nil
                exact AllReadyH.nil
              exact AllReadyH.nil
            exact AllReadyH.nil
          exact AllReadyH.nil
set_option maxRecDepth 100000 in
theorem lreverts_lifted (os : Os) (started : os.Started) (H : Type) (enc : TypeId × Value → H) :
    ReturnsInHanded {} Try.checked os 6 .any (Rows.modelRevertsSpec.pre6 enc Try.prog Try.f6 Rows.modelRevertsRow.domain false) (Rows.modelRevertsSpec.post enc Try.prog Try.f6 false true false false) := by
  refine returnsInHanded_of_change_sized (C := Try.checked) own started (by kernel_rfl) Try.func6
    (ChangeSpec.witness6 (enc := enc) (C := Try.checked) false ⟨#[], #[.agg #[.slice none 0 0, .slice none 0 0, .int .i64 0], .string ByteArray.empty, .slice none 0 0], []⟩ 8 (by kernel_rfl) (by kernel_rfl) (by kernel_rfl) (by kernel_rfl)) ?_
  intro W base args ds gs before hval0 hW _ hsz0 _
  have hsz : (DataW.weightsEach Try.prog (Try.f6.params.toList ++ Rows.modelRevertsSpec.plain.varTypes Try.prog) (ds ++ gs)).all (· ≤ reachBytes) = true := hsz0
  clear hsz0
  have hval : ∀ (j : Nat) t v, Try.f6.params[j]? = some t → args[j]? = some v → Value.okWide Try.prog W .any base t v := hval0
  have hW' := hW
  obtain ⟨p, q, hA0, hV, rfl, hfz, hnd⟩ := hW
  have hA : DataW.TrodAll enc Try.prog W 0 (fun _ => true) true Try.f6.params.toList args.toList ds p := hA0
  rw [Try.params6] at hA hval hsz
  obtain ⟨v0, vs0, d0, ds0, p0, q0, hargs, rfl, rfl, h0, r0⟩ := trodAll_cons hA
  obtain ⟨v1, vs1, d1, ds1, p1, q1, rfl, rfl, rfl, h1, r1⟩ := trodAll_cons r0
  obtain ⟨v2, vs2, d2, ds2, p2, q2, rfl, rfl, rfl, h2, r2⟩ := trodAll_cons r1
  obtain ⟨rfl, rfl, rfl⟩ := trodAll_nil r2
  obtain rfl : args = #[v0, v1, v2] := by cases args; simp_all
  obtain ⟨rfl, rfl⟩ := trodVars_none hV
  obtain ⟨c0, rfl, -⟩ := okWide_struct Try.underlying25 (hval 0 25 v0 rfl rfl)
  have k0 := h0
  have lt0 : ∀ x ∈ p0, x.block < W.heap.size := by obtain ⟨m, hm⟩ := k0; exact DataW.trod_lt m _ _ _ hm
  obtain ⟨x0, hx0⟩ := opens_state10.arg h0 hsz (j := 0) rfl rfl
  obtain ⟨a1, rfl, rfl, rfl, w1⟩ := open_string Try.underlying9 (hval 1 9 v1 rfl rfl) h1
  obtain ⟨a2, len2, cap2, rfl⟩ := okWide_slice Try.underlying69 (hval 2 69 v2 rfl rfl)
  have k2 := h2
  have lt2 : ∀ x ∈ p2, x.block < W.heap.size := by obtain ⟨m, hm⟩ := k2; exact DataW.trod_lt m _ _ _ hm
  obtain ⟨x2, hx2⟩ := opens_ops10.arg h2 hsz (j := 2) rfl rfl
  clear hA0 hval0
  refine (lreverts_walk c0.toList x0 a1 a2 len2 cap2 x2 W hx0 w1 hx2).mono fun e W' ⟨he, bel⟩ => ?_
  subst he
  exact ⟨_, rfl, _, _, _, [], _, [], hW', trodAll_mk1 (shut_bool Try.underlying4 _), (trodAll_cons_mk (Below.trod laidOut (by kernel_rfl) (of_decide_eq_true (by kernel_rfl)) k0 bel lt0) (trodAll_cons_mk (shut_string Try.underlying9 w1) (trodAll_cons_mk (Below.trod laidOut (by kernel_rfl) (of_decide_eq_true (by kernel_rfl)) k2 bel lt2) trodAll_mk0))), rfl, bel.frame _, fun h => by cases h⟩
theorem modelReverts_holds : Rows.ModelRevertsSaid :=
  OpenClaim.holds_of_wide 6 Try.f6 rfl rfl rfl rfl rfl rfl rfl ⟨rfl, rfl, rfl, rfl, rfl⟩ rfl rfl rfl rfl rfl (by kernel_rfl) Try.func6 (by kernel_rfl)
    (of_decide_eq_true (by kernel_rfl)) (by unfold Func.isWrapper; first | (rw [if_pos (by decide +kernel)]; kernel_rfl) | (rw [if_neg (by decide +kernel)]; exact ⟨rfl, rfl⟩))
    (fun os started H enc _ => lreverts_lifted os started H enc)
end Go.Proofs.Ytflcojljpbojlaa
