/-
  Where a sector stands, what some sectors are, a hole made, others put, are as the page says, at whatever map, sectors and extent; the map stays. Conditions: none.
-/
import Derived.Test.YtlpmfbinemmikaaEAlive
import Derived.Test.YtlpmfbinemmikaaEFrame
import Derived.Test.YtlpmfbinemmikaaXR
import Derived.Test.YtlpmfbinemmikaaRPE
import Derived.Test.YtlpmfbinemmikaaREQ
import Derived.Test.YtlpmfbinemmikaaREV
namespace Go.Proofs.Ytlpmfbinemmikaa
open Go.ChangeShapes Go.WideShapes Go.ChangeAt Go.RowKit
set_option linter.unusedVariables false

theorem sameExts_eq (w : World) (P P' : Nat → Prop) (a a' : Option Addr) (n c n' c' : Nat) (l m : List Ext) (hL : rExts.rd w P [.slice a n c] l) (hM : rExts.rd w P' [.slice a' n' c'] m) (h : l = m) :
    Calls Try.prog 19 #[.slice a n c, .slice a' n' c'] w fun e w' => e = .returned (.bool true) ∧ Below w.heap.size w w' := by
  refine (sameExts_u w P P' a a' n c n' c' l m hL hM).mono ?_
  rintro e w' ⟨rfl, b⟩
  exact ⟨by rw [decide_eq_true h], b⟩

theorem Ex.putL_len (l : List Ext) (x : Ext) : (Ex.putL l x).length ≤ 1024 := by
  by_cases h : Ex.putE l x = 0
  · exact (Ex.putL_ok h).2.1.1
  · rw [show Ex.putL l x = [] from if_neg h]; decide

theorem Ex.cutL_len (l : List Ext) (v n : Int) : (Ex.cutL l v n).length ≤ 1024 := by
  by_cases h : Ex.cutE l v n = 0
  · exact (Ex.cutL_ok h).2.1.1
  · rw [show Ex.cutL l v n = [] from if_neg h]; decide

theorem Ex.lookL_len (l : List Ext) (v n : Int) : (Ex.lookL l v n).length ≤ 300000 := by
  by_cases h : Ex.lookE l v n = 0
  · obtain ⟨hO, hf⟩ := Ex.lookE_zero.1 h
    have hbits := Ex.within_pieces hO (v := v) (en := v + n) hf.1 (by have := hf.2.1; omega) (by have := hf.2.2.2; omega)
    rw [show Ex.lookL l v n = Ex.look l v n from if_pos h, ← Ex.lookF_eq hO hf]
    unfold Ex.lookF
    rw [List.length_append]
    have h1 := Ex.holes_len (Ex.within l v (v + n)) v
    have h2 := Ex.hole_len (Ex.last v (Ex.within l v (v + n))) (v + n)
    have h3 := hbits.pieces.len
    omega
  · rw [show Ex.lookL l v n = [] from if_neg h]; decide

set_option maxRecDepth 20000 in
set_option maxHeartbeats 8000000 in
theorem etells_walk (a : Option Addr) (n c : Nat) (l : List Ext) (v k : Int) (cs : List Value) (x : Ext) (W : World) (h0 : rExts.rd W (fun b => b < W.heap.size) [.slice a n c] l) (hv1 : -9223372036854775808 ≤ v) (hv2 : v ≤ 9223372036854775807) (hk1 : -9223372036854775808 ≤ k) (hk2 : k ≤ 9223372036854775807) (h1 : rExt.rd W (fun b => b < W.heap.size) cs x) :
    Calls Try.prog 3 #[.slice a n c, .int .i64 v, .int .i64 k, .agg cs.toArray] W fun e W' => e = .returned (.bool true) ∧ Below W.heap.size W W' := by
  have HR : Hid _ := h0
  have HLB : Hid (l.length ≤ 5864062014634) := by
    obtain ⟨h, -, -, h4⟩ := rList_len h0
    unfold Hid
    rw [h]
    have h4 : n * 24 ≤ 140737488351232 := h4
    omega
  obtain ⟨rfl, hx3⟩ := rExt_rd.1 h1
  obtain ⟨w0, hw0, V0, b0, z0⟩ := boxedRow W 24 [.int .i64 x.1, .int .i64 x.2.1, .int .i64 x.2.2]
  have HV0 : Hid (Row w0 W.heap.size 24 [.int .i64 x.1, .int .i64 x.2.1, .int .i64 x.2.2]) := V0
  have B0 : Hid (Below W.heap.size W w0) := b0
  have HX : Hid (In3 x) := hx3
  rw [show (ext3 x).toArray = #[.int .i64 x.1, .int .i64 x.2.1, .int .i64 x.2.2] from rfl]
  clear V0 b0 z0 h1 hx3 h0
  go_enter Try.func3, Try.ntmps3
  go_wp2_with fail
  refine (copyExts_u _ _ _ _ _ l (Rep.below HR.out B0.out)).mono ?_
  rintro e w1 ⟨b, rfl, ho, b1⟩
  obtain ⟨a1, c1, rfl, -, -⟩ := ho.slice
  have B1 : Hid (Below W.heap.size W w1) := on B0.out b1
  have HV1 : Hid (Row w1 W.heap.size 24 [.int .i64 x.1, .int .i64 x.2.1, .int .i64 x.2.2]) := HV0.out.below b1
  have HO1 : Hid (rExts.rd w1 (fun b => w0.heap.size ≤ b) [.slice a1 l.length c1] l) := ho.rd HLB.out
  clear ho b1
  go_wp2_with fail
  refine (extFind_u _ _ _ _ _ l HO1.out v).mono ?_
  rintro e w2 ⟨rfl, b2⟩
  have B2 : Hid (Below W.heap.size W w2) := on B1.out b2
  have HV2 : Hid (Row w2 W.heap.size 24 [.int .i64 x.1, .int .i64 x.2.1, .int .i64 x.2.2]) := HV1.out.below b2
  have HO2 : Hid (rExts.rd w2 (fun b => w0.heap.size ≤ b) [.slice a1 l.length c1] l) := Rep.below HO1.out b2
  clear b2
  go_wp2_with fail
  refine (refFind_u _ _ _ _ _ l (Rep.below HR.out B2.out) v).mono ?_
  rintro e w3 ⟨rfl, b3⟩
  have B3 : Hid (Below W.heap.size W w3) := on B2.out b3
  have HV3 : Hid (Row w3 W.heap.size 24 [.int .i64 x.1, .int .i64 x.2.1, .int .i64 x.2.2]) := HV2.out.below b3
  have HO3 : Hid (rExts.rd w3 (fun b => w0.heap.size ≤ b) [.slice a1 l.length c1] l) := Rep.below HO2.out b3
  clear b3
  go_wp2_with fail
  refine (extLook_u _ _ _ _ _ l HO3.out v k hk2).mono ?_
  rintro e w4 ⟨b, rfl, ho, b4⟩
  obtain ⟨a4, c4, rfl, -, -⟩ := ho.slice
  have B4 : Hid (Below W.heap.size W w4) := on B3.out b4
  have HV4 : Hid (Row w4 W.heap.size 24 [.int .i64 x.1, .int .i64 x.2.1, .int .i64 x.2.2]) := HV3.out.below b4
  have HO4 : Hid (rExts.rd w4 (fun b => w0.heap.size ≤ b) [.slice a1 l.length c1] l) := Rep.below HO3.out b4
  have HC4 : Hid (rExts.rd w4 (fun b => w3.heap.size ≤ b) [.slice a4 (Ex.lookL l v k).length c4] (Ex.lookL l v k)) := ho.rd (by have := Ex.lookL_len l v k; omega)
  clear b4 ho
  go_wp2_with fail
  refine (refLook_u _ _ _ _ _ l (Rep.below HR.out B4.out) v k).mono ?_
  rintro e w5 ⟨b, rfl, ho, b5⟩
  obtain ⟨a5, c5, rfl, -, -⟩ := ho.slice
  have B5 : Hid (Below W.heap.size W w5) := on B4.out b5
  have HV5 : Hid (Row w5 W.heap.size 24 [.int .i64 x.1, .int .i64 x.2.1, .int .i64 x.2.2]) := HV4.out.below b5
  have HO5 : Hid (rExts.rd w5 (fun b => w0.heap.size ≤ b) [.slice a1 l.length c1] l) := Rep.below HO4.out b5
  have HC5 : Hid (rExts.rd w5 (fun b => w3.heap.size ≤ b) [.slice a4 (Ex.lookL l v k).length c4] (Ex.lookL l v k)) := Rep.below HC4.out b5
  have HD5 : Hid (rExts.rd w5 (fun b => w4.heap.size ≤ b) [.slice a5 (Ex.lookL l v k).length c5] (Ex.lookL l v k)) := ho.rd (by have := Ex.lookL_len l v k; omega)
  clear b5 ho
  go_wp2_with fail
  refine (extCut_u _ _ _ _ _ l HO5.out v k hk2).mono ?_
  rintro e w6 ⟨b, rfl, ho, b6⟩
  obtain ⟨a6, c6, rfl, -, -⟩ := ho.slice
  have B6 : Hid (Below W.heap.size W w6) := on B5.out b6
  have HV6 : Hid (Row w6 W.heap.size 24 [.int .i64 x.1, .int .i64 x.2.1, .int .i64 x.2.2]) := HV5.out.below b6
  have HO6 : Hid (rExts.rd w6 (fun b => w0.heap.size ≤ b) [.slice a1 l.length c1] l) := Rep.below HO5.out b6
  have HC6 : Hid (rExts.rd w6 (fun b => w3.heap.size ≤ b) [.slice a4 (Ex.lookL l v k).length c4] (Ex.lookL l v k)) := Rep.below HC5.out b6
  have HD6 : Hid (rExts.rd w6 (fun b => w4.heap.size ≤ b) [.slice a5 (Ex.lookL l v k).length c5] (Ex.lookL l v k)) := Rep.below HD5.out b6
  have HP6 : Hid (rExts.rd w6 (fun b => w5.heap.size ≤ b) [.slice a6 (Ex.cutL l v k).length c6] (Ex.cutL l v k)) := ho.rd (by have := Ex.cutL_len l v k; omega)
  clear b6 ho
  go_wp2_with fail
  refine (refCut_u _ _ _ _ _ l (Rep.below HR.out B6.out) v k).mono ?_
  rintro e w7 ⟨b, rfl, ho, b7⟩
  obtain ⟨a7, c7, rfl, -, -⟩ := ho.slice
  have B7 : Hid (Below W.heap.size W w7) := on B6.out b7
  have HV7 : Hid (Row w7 W.heap.size 24 [.int .i64 x.1, .int .i64 x.2.1, .int .i64 x.2.2]) := HV6.out.below b7
  have HO7 : Hid (rExts.rd w7 (fun b => w0.heap.size ≤ b) [.slice a1 l.length c1] l) := Rep.below HO6.out b7
  have HC7 : Hid (rExts.rd w7 (fun b => w3.heap.size ≤ b) [.slice a4 (Ex.lookL l v k).length c4] (Ex.lookL l v k)) := Rep.below HC6.out b7
  have HD7 : Hid (rExts.rd w7 (fun b => w4.heap.size ≤ b) [.slice a5 (Ex.lookL l v k).length c5] (Ex.lookL l v k)) := Rep.below HD6.out b7
  have HP7 : Hid (rExts.rd w7 (fun b => w5.heap.size ≤ b) [.slice a6 (Ex.cutL l v k).length c6] (Ex.cutL l v k)) := Rep.below HP6.out b7
  have HQ7 : Hid (rExts.rd w7 (fun b => w6.heap.size ≤ b) [.slice a7 (Ex.cutL l v k).length c7] (Ex.cutL l v k)) := ho.rd (by have := Ex.cutL_len l v k; omega)
  clear b7 ho
  obtain ⟨x0, x1, x2⟩ := HV7.out.three
  go_wp2_with fail
  refine (extPut_u _ _ _ _ _ l HO7.out x HX.out).mono ?_
  rintro e w8 ⟨b, rfl, ho, b8⟩
  obtain ⟨a8, c8, rfl, -, -⟩ := ho.slice
  have B8 : Hid (Below W.heap.size W w8) := on B7.out b8
  have HV8 : Hid (Row w8 W.heap.size 24 [.int .i64 x.1, .int .i64 x.2.1, .int .i64 x.2.2]) := HV7.out.below b8
  have HO8 : Hid (rExts.rd w8 (fun b => w0.heap.size ≤ b) [.slice a1 l.length c1] l) := Rep.below HO7.out b8
  have HC8 : Hid (rExts.rd w8 (fun b => w3.heap.size ≤ b) [.slice a4 (Ex.lookL l v k).length c4] (Ex.lookL l v k)) := Rep.below HC7.out b8
  have HD8 : Hid (rExts.rd w8 (fun b => w4.heap.size ≤ b) [.slice a5 (Ex.lookL l v k).length c5] (Ex.lookL l v k)) := Rep.below HD7.out b8
  have HP8 : Hid (rExts.rd w8 (fun b => w5.heap.size ≤ b) [.slice a6 (Ex.cutL l v k).length c6] (Ex.cutL l v k)) := Rep.below HP7.out b8
  have HQ8 : Hid (rExts.rd w8 (fun b => w6.heap.size ≤ b) [.slice a7 (Ex.cutL l v k).length c7] (Ex.cutL l v k)) := Rep.below HQ7.out b8
  have HU8 : Hid (rExts.rd w8 (fun b => w7.heap.size ≤ b) [.slice a8 (Ex.putL l x).length c8] (Ex.putL l x)) := ho.rd (by have := Ex.putL_len l x; omega)
  clear b8 ho x0 x1 x2
  obtain ⟨x0, x1, x2⟩ := HV8.out.three
  go_wp2_with fail
  refine (refPut_u _ _ _ _ _ l (Rep.below HR.out B8.out) x).mono ?_
  rintro e w9 ⟨b, rfl, ho, b9⟩
  obtain ⟨a9, c9, rfl, -, -⟩ := ho.slice
  have B9 : Hid (Below W.heap.size W w9) := on B8.out b9
  have HV9 : Hid (Row w9 W.heap.size 24 [.int .i64 x.1, .int .i64 x.2.1, .int .i64 x.2.2]) := HV8.out.below b9
  have HO9 : Hid (rExts.rd w9 (fun b => w0.heap.size ≤ b) [.slice a1 l.length c1] l) := Rep.below HO8.out b9
  have HC9 : Hid (rExts.rd w9 (fun b => w3.heap.size ≤ b) [.slice a4 (Ex.lookL l v k).length c4] (Ex.lookL l v k)) := Rep.below HC8.out b9
  have HD9 : Hid (rExts.rd w9 (fun b => w4.heap.size ≤ b) [.slice a5 (Ex.lookL l v k).length c5] (Ex.lookL l v k)) := Rep.below HD8.out b9
  have HP9 : Hid (rExts.rd w9 (fun b => w5.heap.size ≤ b) [.slice a6 (Ex.cutL l v k).length c6] (Ex.cutL l v k)) := Rep.below HP8.out b9
  have HQ9 : Hid (rExts.rd w9 (fun b => w6.heap.size ≤ b) [.slice a7 (Ex.cutL l v k).length c7] (Ex.cutL l v k)) := Rep.below HQ8.out b9
  have HU9 : Hid (rExts.rd w9 (fun b => w7.heap.size ≤ b) [.slice a8 (Ex.putL l x).length c8] (Ex.putL l x)) := Rep.below HU8.out b9
  have HW9 : Hid (rExts.rd w9 (fun b => w8.heap.size ≤ b) [.slice a9 (Ex.putL l x).length c9] (Ex.putL l x)) := ho.rd (by have := Ex.putL_len l x; omega)
  clear b9 ho x0 x1 x2
  generalize Ex.findV l v = FV at *
  generalize Ex.findE l v = FE at *
  generalize Ex.lookE l v k = LE at *
  generalize Ex.cutE l v k = CE at *
  generalize Ex.putE l x = PE at *
  have s1 : (FV == FV) = true := beq_self_eq_true FV
  have s2 : (FE == FE) = true := beq_self_eq_true FE
  have s3 : (LE == LE) = true := beq_self_eq_true LE
  have s4 : (CE == CE) = true := beq_self_eq_true CE
  have s5 : (PE == PE) = true := beq_self_eq_true PE
  go_wp2_with (go_at_call 18; refine (num5_u _ _).mono ?_; rintro e w9 ⟨rfl, rfl⟩)
  refine (sameExts_eq _ _ _ _ _ _ _ _ _ _ _ HC9.out HD9.out rfl).mono ?_
  rintro e w10 ⟨rfl, b10⟩
  have B10 : Hid (Below W.heap.size W w10) := on B9.out b10
  have HV10 : Hid (Row w10 W.heap.size 24 [.int .i64 x.1, .int .i64 x.2.1, .int .i64 x.2.2]) := HV9.out.below b10
  have HO10 : Hid (rExts.rd w10 (fun b => w0.heap.size ≤ b) [.slice a1 l.length c1] l) := Rep.below HO9.out b10
  have HC10 : Hid (rExts.rd w10 (fun b => w3.heap.size ≤ b) [.slice a4 (Ex.lookL l v k).length c4] (Ex.lookL l v k)) := Rep.below HC9.out b10
  have HD10 : Hid (rExts.rd w10 (fun b => w4.heap.size ≤ b) [.slice a5 (Ex.lookL l v k).length c5] (Ex.lookL l v k)) := Rep.below HD9.out b10
  have HP10 : Hid (rExts.rd w10 (fun b => w5.heap.size ≤ b) [.slice a6 (Ex.cutL l v k).length c6] (Ex.cutL l v k)) := Rep.below HP9.out b10
  have HQ10 : Hid (rExts.rd w10 (fun b => w6.heap.size ≤ b) [.slice a7 (Ex.cutL l v k).length c7] (Ex.cutL l v k)) := Rep.below HQ9.out b10
  have HU10 : Hid (rExts.rd w10 (fun b => w7.heap.size ≤ b) [.slice a8 (Ex.putL l x).length c8] (Ex.putL l x)) := Rep.below HU9.out b10
  have HW10 : Hid (rExts.rd w10 (fun b => w8.heap.size ≤ b) [.slice a9 (Ex.putL l x).length c9] (Ex.putL l x)) := Rep.below HW9.out b10
  clear b10
  go_wp2_with (go_at_call 18; refine (num5_u _ _).mono ?_; rintro e w9 ⟨rfl, rfl⟩)
  refine (sameExts_eq _ _ _ _ _ _ _ _ _ _ _ HP10.out HQ10.out rfl).mono ?_
  rintro e w11 ⟨rfl, b11⟩
  have B11 : Hid (Below W.heap.size W w11) := on B10.out b11
  have HV11 : Hid (Row w11 W.heap.size 24 [.int .i64 x.1, .int .i64 x.2.1, .int .i64 x.2.2]) := HV10.out.below b11
  have HO11 : Hid (rExts.rd w11 (fun b => w0.heap.size ≤ b) [.slice a1 l.length c1] l) := Rep.below HO10.out b11
  have HC11 : Hid (rExts.rd w11 (fun b => w3.heap.size ≤ b) [.slice a4 (Ex.lookL l v k).length c4] (Ex.lookL l v k)) := Rep.below HC10.out b11
  have HD11 : Hid (rExts.rd w11 (fun b => w4.heap.size ≤ b) [.slice a5 (Ex.lookL l v k).length c5] (Ex.lookL l v k)) := Rep.below HD10.out b11
  have HP11 : Hid (rExts.rd w11 (fun b => w5.heap.size ≤ b) [.slice a6 (Ex.cutL l v k).length c6] (Ex.cutL l v k)) := Rep.below HP10.out b11
  have HQ11 : Hid (rExts.rd w11 (fun b => w6.heap.size ≤ b) [.slice a7 (Ex.cutL l v k).length c7] (Ex.cutL l v k)) := Rep.below HQ10.out b11
  have HU11 : Hid (rExts.rd w11 (fun b => w7.heap.size ≤ b) [.slice a8 (Ex.putL l x).length c8] (Ex.putL l x)) := Rep.below HU10.out b11
  have HW11 : Hid (rExts.rd w11 (fun b => w8.heap.size ≤ b) [.slice a9 (Ex.putL l x).length c9] (Ex.putL l x)) := Rep.below HW10.out b11
  clear b11
  go_wp2_with (go_at_call 18; refine (num5_u _ _).mono ?_; rintro e w9 ⟨rfl, rfl⟩)
  refine (sameExts_eq _ _ _ _ _ _ _ _ _ _ _ HU11.out HW11.out rfl).mono ?_
  rintro e w12 ⟨rfl, b12⟩
  have B12 : Hid (Below W.heap.size W w12) := on B11.out b12
  have HV12 : Hid (Row w12 W.heap.size 24 [.int .i64 x.1, .int .i64 x.2.1, .int .i64 x.2.2]) := HV11.out.below b12
  have HO12 : Hid (rExts.rd w12 (fun b => w0.heap.size ≤ b) [.slice a1 l.length c1] l) := Rep.below HO11.out b12
  have HC12 : Hid (rExts.rd w12 (fun b => w3.heap.size ≤ b) [.slice a4 (Ex.lookL l v k).length c4] (Ex.lookL l v k)) := Rep.below HC11.out b12
  have HD12 : Hid (rExts.rd w12 (fun b => w4.heap.size ≤ b) [.slice a5 (Ex.lookL l v k).length c5] (Ex.lookL l v k)) := Rep.below HD11.out b12
  have HP12 : Hid (rExts.rd w12 (fun b => w5.heap.size ≤ b) [.slice a6 (Ex.cutL l v k).length c6] (Ex.cutL l v k)) := Rep.below HP11.out b12
  have HQ12 : Hid (rExts.rd w12 (fun b => w6.heap.size ≤ b) [.slice a7 (Ex.cutL l v k).length c7] (Ex.cutL l v k)) := Rep.below HQ11.out b12
  have HU12 : Hid (rExts.rd w12 (fun b => w7.heap.size ≤ b) [.slice a8 (Ex.putL l x).length c8] (Ex.putL l x)) := Rep.below HU11.out b12
  have HW12 : Hid (rExts.rd w12 (fun b => w8.heap.size ≤ b) [.slice a9 (Ex.putL l x).length c9] (Ex.putL l x)) := Rep.below HW11.out b12
  clear b12
  go_wp2_with (go_at_call 18; refine (num5_u _ _).mono ?_; rintro e w9 ⟨rfl, rfl⟩)
  refine (extCheck_u _ _ _ _ _ l HO12.out).mono ?_
  rintro e w13 ⟨rfl, b13⟩
  have B13 : Hid (Below W.heap.size W w13) := on B12.out b13
  have HV13 : Hid (Row w13 W.heap.size 24 [.int .i64 x.1, .int .i64 x.2.1, .int .i64 x.2.2]) := HV12.out.below b13
  have HO13 : Hid (rExts.rd w13 (fun b => w0.heap.size ≤ b) [.slice a1 l.length c1] l) := Rep.below HO12.out b13
  clear b13
  go_wp2_with (go_at_call 18; refine (num5_u _ _).mono ?_; rintro e w9 ⟨rfl, rfl⟩)
  refine (refCheck5_u _ _ _ _ _ l (Rep.below HR.out B13.out)).mono ?_
  rintro e w14 ⟨rfl, b14⟩
  have B14 : Hid (Below W.heap.size W w14) := on B13.out b14
  have HV14 : Hid (Row w14 W.heap.size 24 [.int .i64 x.1, .int .i64 x.2.1, .int .i64 x.2.2]) := HV13.out.below b14
  have HO14 : Hid (rExts.rd w14 (fun b => w0.heap.size ≤ b) [.slice a1 l.length c1] l) := Rep.below HO13.out b14
  clear b14
  generalize Ex.checkE l = KE at *
  have s6 : (KE == KE) = true := beq_self_eq_true KE
  go_wp2_with (go_at_call 18; refine (num5_u _ _).mono ?_; rintro e w9 ⟨rfl, rfl⟩)
  refine (sameExts_eq _ _ _ _ _ _ _ _ _ _ _ HO14.out (Rep.below HR.out B14.out) rfl).mono ?_
  rintro e w15 ⟨rfl, b15⟩
  have B15 : Hid (Below W.heap.size W w15) := on B14.out b15
  have HV15 : Hid (Row w15 W.heap.size 24 [.int .i64 x.1, .int .i64 x.2.1, .int .i64 x.2.2]) := HV14.out.below b15
  have HO15 : Hid (rExts.rd w15 (fun b => w0.heap.size ≤ b) [.slice a1 l.length c1] l) := Rep.below HO14.out b15
  clear b15
  go_wp2_with (go_at_call 18; refine (num5_u _ _).mono ?_; rintro e w9 ⟨rfl, rfl⟩)
  refine (alive5_u _).mono ?_
  rintro e w16 ⟨rfl, b16⟩
  have B16 : Hid (Below W.heap.size W w16) := on B15.out b16
  have HV16 : Hid (Row w16 W.heap.size 24 [.int .i64 x.1, .int .i64 x.2.1, .int .i64 x.2.2]) := HV15.out.below b16
  have HO16 : Hid (rExts.rd w16 (fun b => w0.heap.size ≤ b) [.slice a1 l.length c1] l) := Rep.below HO15.out b16
  clear b16
  go_wp2_with (go_at_call 18; refine (num5_u _ _).mono ?_; rintro e w9 ⟨rfl, rfl⟩)
  go_ret
  exact ⟨by first | rfl | simp, B16.out⟩

set_option maxRecDepth 100000 in
theorem etells_lifted (os : Os) (started : os.Started) (H : Type) (enc : TypeId × Value → H) :
    ReturnsInHanded {} Try.checked os 3 .any (Rows.extentTellsSpec.pre6 enc Try.prog Try.f3 Rows.extentTellsRow.domain false) (Rows.extentTellsSpec.post enc Try.prog Try.f3 false true false false) := by
  refine returnsInHanded_of_change_sized (C := Try.checked) own started (by kernel_rfl) Try.func3
    (ChangeSpec.witness6 (enc := enc) (C := Try.checked) false ⟨#[], #[.slice none 0 0, .int .i64 0, .int .i64 0, .agg #[.int .i64 0, .int .i64 0, .int .i64 0]], []⟩ 8 (by kernel_rfl) (by kernel_rfl) (by kernel_rfl) (by kernel_rfl)) ?_
  intro W base args ds gs before hval0 hW _ hsz0 _
  have hsz : (DataW.weightsEach Try.prog (Try.f3.params.toList ++ Rows.extentTellsSpec.plain.varTypes Try.prog) (ds ++ gs)).all (· ≤ reachBytes) = true := hsz0
  clear hsz0
  have hval : ∀ (j : Nat) t v, Try.f3.params[j]? = some t → args[j]? = some v → Value.okWide Try.prog W .any base t v := hval0
  have hW' := hW
  obtain ⟨p, q, hA0, hV, rfl, hfz, hnd⟩ := hW
  have hA : DataW.TrodAll enc Try.prog W 0 (fun _ => true) true Try.f3.params.toList args.toList ds p := hA0
  rw [Try.params3] at hA hval hsz
  obtain ⟨v0, vs0, d0, ds0, p0, q0, hargs, rfl, rfl, h0, r0⟩ := trodAll_cons hA
  obtain ⟨v1, vs1, d1, ds1, p1, q1, rfl, rfl, rfl, h1, r1⟩ := trodAll_cons r0
  obtain ⟨v2, vs2, d2, ds2, p2, q2, rfl, rfl, rfl, h2, r2⟩ := trodAll_cons r1
  obtain ⟨v3, vs3, d3, ds3, p3, q3, rfl, rfl, rfl, h3, r3⟩ := trodAll_cons r2
  obtain ⟨rfl, rfl, rfl⟩ := trodAll_nil r3
  obtain rfl : args = #[v0, v1, v2, v3] := by cases args; simp_all
  obtain ⟨rfl, rfl⟩ := trodVars_none hV
  obtain ⟨a0, len0, cap0, rfl⟩ := okWide_slice Try.underlying22 (hval 0 22 v0 rfl rfl)
  have k0 := h0
  have lt0 : ∀ x ∈ p0, x.block < W.heap.size := by obtain ⟨m, hm⟩ := k0; exact DataW.trod_lt m _ _ _ hm
  obtain ⟨x0, hx0⟩ := opens_exts.arg h0 hsz (j := 0) rfl rfl
  obtain ⟨a1, rfl, rfl, rfl, w1⟩ := open_int Try.underlying3 (hval 1 3 v1 rfl rfl) h1
  have i1 := bounds_i64 w1
  obtain ⟨a2, rfl, rfl, rfl, w2⟩ := open_int Try.underlying3 (hval 2 3 v2 rfl rfl) h2
  have i2 := bounds_i64 w2
  obtain ⟨c3, rfl, -⟩ := okWide_struct Try.underlying24 (hval 3 24 v3 rfl rfl)
  have k3 := h3
  have lt3 : ∀ x ∈ p3, x.block < W.heap.size := by obtain ⟨m, hm⟩ := k3; exact DataW.trod_lt m _ _ _ hm
  obtain ⟨x3, hx3⟩ := opens_ext.arg h3 hsz (j := 3) rfl rfl
  clear hA0 hval0
  refine (etells_walk a0 len0 cap0 x0 a1 a2 c3.toList x3 W hx0 (by omega) (by omega) (by omega) (by omega) hx3).mono fun e W' ⟨he, bel⟩ => ?_
  subst he
  exact ⟨_, rfl, _, _, _, [], _, [], hW', trodAll_mk1 (shut_bool Try.underlying4 _), (trodAll_cons_mk (Below.trod laidOut (by kernel_rfl) (of_decide_eq_true (by kernel_rfl)) k0 bel lt0) (trodAll_cons_mk (shut_int Try.underlying3 w1) (trodAll_cons_mk (shut_int Try.underlying3 w2) (trodAll_cons_mk (Below.trod laidOut (by kernel_rfl) (of_decide_eq_true (by kernel_rfl)) k3 bel lt3) trodAll_mk0)))), rfl, bel.frame _, fun h => by cases h⟩

theorem extentTells_holds : Rows.ExtentTellsSaid :=
  OpenClaim.holds_of_wide 3 Try.f3 rfl rfl rfl rfl rfl rfl rfl ⟨rfl, rfl, rfl, rfl, rfl⟩ rfl rfl rfl rfl rfl (by kernel_rfl) Try.func3 (by kernel_rfl)
    (of_decide_eq_true (by kernel_rfl)) (by unfold Func.isWrapper; first | (rw [if_pos (by decide +kernel)]; kernel_rfl) | (rw [if_neg (by decide +kernel)]; exact ⟨rfl, rfl⟩))
    (fun os started H enc _ => etells_lifted os started H enc)

end Go.Proofs.Ytlpmfbinemmikaa
