/-
  The map that follows shares nothing with the one handed in, at whatever map, extent and sectors. Conditions: none.
-/
import Derived.Test.YtlpmfbinemmikabEAlive
import Derived.Test.YtlpmfbinemmikabEFrame
import Derived.Test.YtlpmfbinemmikabXO
import Derived.Test.YtlpmfbinemmikabRPE
import Derived.Test.YtlpmfbinemmikabRSE
import Derived.Test.YtlpmfbinemmikabREQ
import Derived.Test.YtlpmfbinemmikabREV
namespace Go.Proofs.Ytlpmfbinemmikab
open Go.ChangeShapes Go.WideShapes Go.ChangeAt Go.RowKit
set_option linter.unusedVariables false

theorem sameExts_eq (w : World) (P P' : Nat → Prop) (a a' : Option Addr) (n c n' c' : Nat) (l m : List Ext) (hL : rExts.rd w P [.slice a n c] l) (hM : rExts.rd w P' [.slice a' n' c'] m) (h : l = m) :
    Calls Try.prog 13 #[.slice a n c, .slice a' n' c'] w fun e w' => e = .returned (.bool true) ∧ Below w.heap.size w w' := by
  refine (sameExts_u w P P' a a' n c n' c' l m hL hM).mono ?_
  rintro e w' ⟨rfl, b⟩
  exact ⟨by rw [decide_eq_true h], b⟩

theorem Ex.putL_len (l : List Ext) (x : Ext) : (Ex.putL l x).length ≤ 1024 := by
  by_cases h : Ex.putE l x = 0
  · exact (Ex.putL_ok h).2.1.1
  · rw [show Ex.putL l x = [] from if_neg h]; decide

theorem Ex.cutL_len (l : List Ext) (v n : Int) : (Ex.cutL l v n).length ≤ 1024 := by
  by_cases h : Ex.cutE l v n = 0
  · exact (Ex.cutL_ok h).2.1.1
  · rw [show Ex.cutL l v n = [] from if_neg h]; decide

set_option maxHeartbeats 4000000 in
theorem eown_walk (a : Option Addr) (n c : Nat) (l : List Ext) (cs : List Value) (x : Ext) (f m : Int) (W : World) (h0 : rExts.rd W (fun b => b < W.heap.size) [.slice a n c] l) (h1 : rExt.rd W (fun b => b < W.heap.size) cs x) (hf1 : -9223372036854775808 ≤ f) (hf2 : f ≤ 9223372036854775807) (hm1 : -9223372036854775808 ≤ m) (hm2 : m ≤ 9223372036854775807) :
    Calls Try.prog 3 #[.slice a n c, .agg cs.toArray, .int .i64 f, .int .i64 m] W fun e W' => e = .returned (.bool true) ∧ Below W.heap.size W W' := by
  have HR : Hid _ := h0
  have HLB : Hid (l.length ≤ 5864062014634) := by
    obtain ⟨h, -, -, h4⟩ := rList_len h0
    unfold Hid
    rw [h]
    have h4 : n * 24 ≤ 140737488351232 := h4
    omega
  obtain ⟨rfl, hx3⟩ := rExt_rd.1 h1
  obtain ⟨w0, hw0, V0, b0, z0⟩ := boxedRow W 24 [.int .i64 x.1, .int .i64 x.2.1, .int .i64 x.2.2]
  have HV : Hid (Row w0 W.heap.size 24 [.int .i64 x.1, .int .i64 x.2.1, .int .i64 x.2.2]) := V0
  have B0 : Hid (Below W.heap.size W w0) := b0
  have HX : Hid (In3 x) := hx3
  rw [show (ext3 x).toArray = #[.int .i64 x.1, .int .i64 x.2.1, .int .i64 x.2.2] from rfl]
  clear V0 b0 z0 h1 hx3 h0
  go_enter Try.func3, Try.ntmps3
  go_wp2_with fail
  refine (alive5_u _).mono ?_
  rintro e w1 ⟨rfl, b1⟩
  have B1 : Hid (Below W.heap.size W w1) := on B0.out b1
  have HV1 : Hid (Row w1 W.heap.size 24 [.int .i64 x.1, .int .i64 x.2.1, .int .i64 x.2.2]) := HV.out.below b1
  clear b1
  go_wp2_with fail
  refine (copyExts_u _ _ _ _ _ l (Rep.below HR.out B1.out)).mono ?_
  rintro e w2 ⟨b, rfl, ho, b2⟩
  obtain ⟨a2, c2, rfl, -, -⟩ := ho.slice
  have B2 : Hid (Below W.heap.size W w2) := on B1.out b2
  have HV2 : Hid (Row w2 W.heap.size 24 [.int .i64 x.1, .int .i64 x.2.1, .int .i64 x.2.2]) := HV1.out.below b2
  have HO2 : Hid (OwnE 24 w2 w1.heap.size (.slice a2 l.length c2) l) := ho
  have HOw : Hid (∀ b, (Value.slice a2 l.length c2).ownBlock = some b → W.heap.size ≤ b ∧ b < w2.heap.size) := fun b e => ⟨Nat.le_trans B1.out.size (ho.row.lt b e).1, (ho.row.lt b e).2⟩
  obtain ⟨x0, x1, x2⟩ := HV2.out.three
  clear ho b2
  go_wp2_with fail
  refine (extPut_u _ _ _ _ _ l (HO2.out.rd HLB.out) x HX.out).mono ?_
  rintro e w3 ⟨b, rfl, ho, b3⟩
  obtain ⟨a3, c3, rfl, -, -⟩ := ho.slice
  have B3 : Hid (Below W.heap.size W w3) := on B2.out b3
  have HV3 : Hid (Row w3 W.heap.size 24 [.int .i64 x.1, .int .i64 x.2.1, .int .i64 x.2.2]) := HV2.out.below b3
  have HO3 : Hid (OwnE 24 w3 w1.heap.size (.slice a2 l.length c2) l) := HO2.out.below b3
  have HA3 : Hid (rExts.rd w3 (fun b => w2.heap.size ≤ b) [.slice a3 (Ex.putL l x).length c3] (Ex.putL l x)) := ho.rd (by have := Ex.putL_len l x; omega)
  have Z3 : Hid (w2.heap.size ≤ w3.heap.size) := b3.size
  clear ho b3 x0 x1 x2
  obtain ⟨x0, x1, x2⟩ := HV3.out.three
  go_wp2_with fail
  refine (refPut_u _ _ _ _ _ l (Rep.below HR.out B3.out) x).mono ?_
  rintro e w4 ⟨b, rfl, ho, b4⟩
  obtain ⟨a4, c4, rfl, -, -⟩ := ho.slice
  have B4 : Hid (Below W.heap.size W w4) := on B3.out b4
  have HO4 : Hid (OwnE 24 w4 w1.heap.size (.slice a2 l.length c2) l) := HO3.out.below b4
  have HA4 : Hid (rExts.rd w4 (fun b => w2.heap.size ≤ b) [.slice a3 (Ex.putL l x).length c3] (Ex.putL l x)) := Rep.below HA3.out b4
  have HB4 : Hid (rExts.rd w4 (fun b => w3.heap.size ≤ b) [.slice a4 (Ex.putL l x).length c4] (Ex.putL l x)) := ho.rd (by have := Ex.putL_len l x; omega)
  have Z4 : Hid (w2.heap.size ≤ w4.heap.size) := Nat.le_trans Z3.out b4.size
  clear ho b4 x0 x1 x2
  go_wp2_with fail
  refine (extCut_u _ _ _ _ _ l (HO4.out.rd HLB.out) f m hm2).mono ?_
  rintro e w5 ⟨b, rfl, ho, b5⟩
  obtain ⟨a5, c5, rfl, -, -⟩ := ho.slice
  have B5 : Hid (Below W.heap.size W w5) := on B4.out b5
  have HO5 : Hid (OwnE 24 w5 w1.heap.size (.slice a2 l.length c2) l) := HO4.out.below b5
  have HA5 : Hid (rExts.rd w5 (fun b => w2.heap.size ≤ b) [.slice a3 (Ex.putL l x).length c3] (Ex.putL l x)) := Rep.below HA4.out b5
  have HB5 : Hid (rExts.rd w5 (fun b => w3.heap.size ≤ b) [.slice a4 (Ex.putL l x).length c4] (Ex.putL l x)) := Rep.below HB4.out b5
  have HC5 : Hid (rExts.rd w5 (fun b => w4.heap.size ≤ b) [.slice a5 (Ex.cutL l f m).length c5] (Ex.cutL l f m)) := ho.rd (by have := Ex.cutL_len l f m; omega)
  have Z5 : Hid (w2.heap.size ≤ w5.heap.size) := Nat.le_trans Z4.out b5.size
  clear ho b5
  go_wp2_with fail
  refine (refCut_u _ _ _ _ _ l (Rep.below HR.out B5.out) f m).mono ?_
  rintro e w6 ⟨b, rfl, ho, b6⟩
  obtain ⟨a6, c6, rfl, -, -⟩ := ho.slice
  have B6 : Hid (Below W.heap.size W w6) := on B5.out b6
  have HO6 : Hid (OwnE 24 w6 w1.heap.size (.slice a2 l.length c2) l) := HO5.out.below b6
  have HA6 : Hid (rExts.rd w6 (fun b => w2.heap.size ≤ b) [.slice a3 (Ex.putL l x).length c3] (Ex.putL l x)) := Rep.below HA5.out b6
  have HB6 : Hid (rExts.rd w6 (fun b => w3.heap.size ≤ b) [.slice a4 (Ex.putL l x).length c4] (Ex.putL l x)) := Rep.below HB5.out b6
  have HC6 : Hid (rExts.rd w6 (fun b => w4.heap.size ≤ b) [.slice a5 (Ex.cutL l f m).length c5] (Ex.cutL l f m)) := Rep.below HC5.out b6
  have HD6 : Hid (rExts.rd w6 (fun b => w5.heap.size ≤ b) [.slice a6 (Ex.cutL l f m).length c6] (Ex.cutL l f m)) := ho.rd (by have := Ex.cutL_len l f m; omega)
  clear ho b6
  go_wp2_with fail
  refine (spoilExts_u _ _ _ _ _ l HO6.out HLB.out).mono ?_
  rintro e w7 ⟨rfl, k7⟩
  have B7 : Hid (Below W.heap.size W w7) := ⟨k7.os.trans B6.out.os, k7.tape.trans B6.out.tape, k7.output.trans B6.out.output, Nat.le_trans B6.out.size k7.size, fun k hk => (k7.block k (fun e => by have := (HOw.out k e).1; omega)).trans (B6.out.block k hk)⟩
  have HK7 : Hid (∀ N, w2.heap.size ≤ N → ∀ b, N ≤ b → b < w6.heap.size → w7.heap[b]? = w6.heap[b]?) := fun N hN b hb _ => k7.block b (fun e => by have := (HOw.out b e).2; omega)
  have HA7 : Hid (rExts.rd w7 (fun b => w2.heap.size ≤ b) [.slice a3 (Ex.putL l x).length c3] (Ex.putL l x)) := rExts.keep HA6.out (HK7.out _ (Nat.le_refl _))
  have HB7 : Hid (rExts.rd w7 (fun b => w3.heap.size ≤ b) [.slice a4 (Ex.putL l x).length c4] (Ex.putL l x)) := rExts.keep HB6.out (HK7.out _ Z3.out)
  have HC7 : Hid (rExts.rd w7 (fun b => w4.heap.size ≤ b) [.slice a5 (Ex.cutL l f m).length c5] (Ex.cutL l f m)) := rExts.keep HC6.out (HK7.out _ Z4.out)
  have HD7 : Hid (rExts.rd w7 (fun b => w5.heap.size ≤ b) [.slice a6 (Ex.cutL l f m).length c6] (Ex.cutL l f m)) := rExts.keep HD6.out (HK7.out _ Z5.out)
  clear k7
  go_wp2_with (go_at_call 14; refine (num5_u _ _).mono ?_; rintro e w9 ⟨rfl, rfl⟩)
  refine (sameExts_eq _ _ _ _ _ _ _ _ _ _ _ HA7.out HB7.out rfl).mono ?_
  rintro e w8 ⟨rfl, b8⟩
  generalize Ex.putE l x = EP at *
  generalize Ex.cutE l f m = EC at *
  have eP : (EP == EP) = true := beq_self_eq_true EP
  have eC : (EC == EC) = true := beq_self_eq_true EC
  go_wp2_with (go_at_call 14; refine (num5_u _ _).mono ?_; rintro e w9 ⟨rfl, rfl⟩)
  refine (sameExts_eq _ _ _ _ _ _ _ _ _ _ _ (Rep.below HC7.out b8) (Rep.below HD7.out b8) rfl).mono ?_
  rintro e w10 ⟨rfl, b10⟩
  go_wp2_with (go_at_call 14; refine (num5_u _ _).mono ?_; rintro e w9 ⟨rfl, rfl⟩)
  go_ret
  exact ⟨by first | rfl | simp, on B7.out (on b8 b10)⟩

set_option maxRecDepth 100000 in
theorem eown_lifted (os : Os) (started : os.Started) (H : Type) (enc : TypeId × Value → H) :
    ReturnsInHanded {} Try.checked os 3 .any (Rows.extentOwnSpec.pre6 enc Try.prog Try.f3 Rows.extentOwnRow.domain false) (Rows.extentOwnSpec.post enc Try.prog Try.f3 false true false false) := by
  refine returnsInHanded_of_change_sized (C := Try.checked) own started (by kernel_rfl) Try.func3
    (ChangeSpec.witness6 (enc := enc) (C := Try.checked) false ⟨#[], #[.slice none 0 0, .agg #[.int .i64 0, .int .i64 0, .int .i64 0], .int .i64 0, .int .i64 0], []⟩ 8 (by kernel_rfl) (by kernel_rfl) (by kernel_rfl) (by kernel_rfl)) ?_
  intro W base args ds gs before hval0 hW _ hsz0 _
  have hsz : (DataW.weightsEach Try.prog (Try.f3.params.toList ++ Rows.extentOwnSpec.plain.varTypes Try.prog) (ds ++ gs)).all (· ≤ reachBytes) = true := hsz0
  clear hsz0
  have hval : ∀ (j : Nat) t v, Try.f3.params[j]? = some t → args[j]? = some v → Value.okWide Try.prog W .any base t v := hval0
  have hW' := hW
  obtain ⟨p, q, hA0, hV, rfl, hfz, hnd⟩ := hW
  have hA : DataW.TrodAll enc Try.prog W 0 (fun _ => true) true Try.f3.params.toList args.toList ds p := hA0
  rw [Try.params3] at hA hval hsz
  obtain ⟨v0, vs0, d0, ds0, p0, q0, hargs, rfl, rfl, h0, r0⟩ := trodAll_cons hA
  obtain ⟨v1, vs1, d1, ds1, p1, q1, rfl, rfl, rfl, h1, r1⟩ := trodAll_cons r0
  obtain ⟨v2, vs2, d2, ds2, p2, q2, rfl, rfl, rfl, h2, r2⟩ := trodAll_cons r1
  obtain ⟨v3, vs3, d3, ds3, p3, q3, rfl, rfl, rfl, h3, r3⟩ := trodAll_cons r2
  obtain ⟨rfl, rfl, rfl⟩ := trodAll_nil r3
  obtain rfl : args = #[v0, v1, v2, v3] := by cases args; simp_all
  obtain ⟨rfl, rfl⟩ := trodVars_none hV
  obtain ⟨a0, len0, cap0, rfl⟩ := okWide_slice Try.underlying22 (hval 0 22 v0 rfl rfl)
  have k0 := h0
  have lt0 : ∀ x ∈ p0, x.block < W.heap.size := by obtain ⟨m, hm⟩ := k0; exact DataW.trod_lt m _ _ _ hm
  obtain ⟨x0, hx0⟩ := opens_exts.arg h0 hsz (j := 0) rfl rfl
  obtain ⟨c1, rfl, -⟩ := okWide_struct Try.underlying24 (hval 1 24 v1 rfl rfl)
  have k1 := h1
  have lt1 : ∀ x ∈ p1, x.block < W.heap.size := by obtain ⟨m, hm⟩ := k1; exact DataW.trod_lt m _ _ _ hm
  obtain ⟨x1, hx1⟩ := opens_ext.arg h1 hsz (j := 1) rfl rfl
  obtain ⟨a2, rfl, rfl, rfl, w2⟩ := open_int Try.underlying3 (hval 2 3 v2 rfl rfl) h2
  have i2 := bounds_i64 w2
  obtain ⟨a3, rfl, rfl, rfl, w3⟩ := open_int Try.underlying3 (hval 3 3 v3 rfl rfl) h3
  have i3 := bounds_i64 w3
  clear hA0 hval0
  refine (eown_walk a0 len0 cap0 x0 c1.toList x1 a2 a3 W hx0 hx1 (by omega) (by omega) (by omega) (by omega)).mono fun e W' ⟨he, bel⟩ => ?_
  subst he
  exact ⟨_, rfl, _, _, _, [], _, [], hW', trodAll_mk1 (shut_bool Try.underlying4 _), (trodAll_cons_mk (Below.trod laidOut (by kernel_rfl) (of_decide_eq_true (by kernel_rfl)) k0 bel lt0) (trodAll_cons_mk (Below.trod laidOut (by kernel_rfl) (of_decide_eq_true (by kernel_rfl)) k1 bel lt1) (trodAll_cons_mk (shut_int Try.underlying3 w2) (trodAll_cons_mk (shut_int Try.underlying3 w3) trodAll_mk0)))), rfl, bel.frame _, fun h => by cases h⟩

theorem extentOwn_holds : Rows.ExtentOwnSaid :=
  OpenClaim.holds_of_wide 3 Try.f3 rfl rfl rfl rfl rfl rfl rfl ⟨rfl, rfl, rfl, rfl, rfl⟩ rfl rfl rfl rfl rfl (by kernel_rfl) Try.func3 (by kernel_rfl)
    (of_decide_eq_true (by kernel_rfl)) (by unfold Func.isWrapper; first | (rw [if_pos (by decide +kernel)]; kernel_rfl) | (rw [if_neg (by decide +kernel)]; exact ⟨rfl, rfl⟩))
    (fun os started H enc _ => eown_lifted os started H enc)

end Go.Proofs.Ytlpmfbinemmikab
