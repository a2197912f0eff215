/-
  What is put twice, or cut twice, is as once; what is put and cut leaves the holes that cutting alone does, at whatever map and extent. Conditions: none.
-/
import Derived.Test.YtlpmfbinemmikabEAlive
import Derived.Test.YtlpmfbinemmikabEFrame
import Derived.Test.YtlpmfbinemmikabXO
import Derived.Test.YtlpmfbinemmikabRPE
namespace Go.Proofs.Ytlpmfbinemmikab
open Go.ChangeShapes Go.WideShapes Go.ChangeAt Go.RowKit
set_option linter.unusedVariables false

theorem sameExts_eq (w : World) (P P' : Nat → Prop) (a a' : Option Addr) (n c n' c' : Nat) (l m : List Ext) (hL : rExts.rd w P [.slice a n c] l) (hM : rExts.rd w P' [.slice a' n' c'] m) (h : l = m) :
    Calls Try.prog 13 #[.slice a n c, .slice a' n' c'] w fun e w' => e = .returned (.bool true) ∧ Below w.heap.size w w' := by
  refine (sameExts_u w P P' a a' n c n' c' l m hL hM).mono ?_
  rintro e w' ⟨rfl, b⟩
  exact ⟨by rw [decide_eq_true h], b⟩

theorem Ex.putL_len (l : List Ext) (x : Ext) : (Ex.putL l x).length ≤ 1024 := by
  by_cases h : Ex.putE l x = 0
  · exact (Ex.putL_ok h).2.1.1
  · rw [show Ex.putL l x = [] from if_neg h]; decide

theorem Ex.cutL_len (l : List Ext) (v n : Int) : (Ex.cutL l v n).length ≤ 1024 := by
  by_cases h : Ex.cutE l v n = 0
  · exact (Ex.cutL_ok h).2.1.1
  · rw [show Ex.cutL l v n = [] from if_neg h]; decide

set_option maxHeartbeats 4000000 in
theorem etwice_walk (a : Option Addr) (n c : Nat) (l : List Ext) (cs : List Value) (x : Ext) (W : World) (h0 : rExts.rd W (fun b => b < W.heap.size) [.slice a n c] l) (h1 : rExt.rd W (fun b => b < W.heap.size) cs x) :
    Calls Try.prog 5 #[.slice a n c, .agg cs.toArray] W fun e W' => e = .returned (.bool true) ∧ Below W.heap.size W W' := by
  have HR : Hid _ := h0
  obtain ⟨rfl, hx3⟩ := rExt_rd.1 h1
  obtain ⟨w0, hw0, V0, b0, z0⟩ := boxedRow W 24 [.int .i64 x.1, .int .i64 x.2.1, .int .i64 x.2.2]
  have HV : Hid (Row w0 W.heap.size 24 [.int .i64 x.1, .int .i64 x.2.1, .int .i64 x.2.2]) := V0
  have B0 : Hid (Below W.heap.size W w0) := b0
  have HX : Hid (In3 x) := hx3
  have hx2 : x.2.2 ≤ 9223372036854775807 := hx3.2.2.2
  rw [show (ext3 x).toArray = #[.int .i64 x.1, .int .i64 x.2.1, .int .i64 x.2.2] from rfl]
  clear V0 b0 z0 h1 hx3 h0
  go_enter Try.func5, Try.ntmps5
  go_wp2_with fail
  refine (alive5_u _).mono ?_
  rintro e w1 ⟨rfl, b1⟩
  have B1 : Hid (Below W.heap.size W w1) := on B0.out b1
  have HV1 : Hid (Row w1 W.heap.size 24 [.int .i64 x.1, .int .i64 x.2.1, .int .i64 x.2.2]) := HV.out.below b1
  obtain ⟨x0, x1, x2⟩ := HV1.out.three
  clear b1
  go_wp2_with fail
  refine (extPut_u _ _ _ _ _ l (Rep.below HR.out B1.out) x HX.out).mono ?_
  rintro e w2 ⟨b, rfl, ho, b2⟩
  obtain ⟨a2, c2, rfl, -, -⟩ := ho.slice
  have B2 : Hid (Below W.heap.size W w2) := on B1.out b2
  have HV2 : Hid (Row w2 W.heap.size 24 [.int .i64 x.1, .int .i64 x.2.1, .int .i64 x.2.2]) := HV1.out.below b2
  have HA2 : Hid (rExts.rd w2 (fun b => w1.heap.size ≤ b) [.slice a2 (Ex.putL l x).length c2] (Ex.putL l x)) := ho.rd (by have := Ex.putL_len l x; omega)
  clear ho b2 x0 x1 x2
  by_cases hE : Ex.putE l x = 0
  · obtain ⟨p1, p2⟩ := Ex.put_twice hE
    have HP1 : Hid _ := p1
    have HP2 : Hid _ := p2
    have HE0 : Hid (Ex.putE l x = 0) := hE
    rw [hE]
    clear p1 p2 hE
    obtain ⟨x0, x1, x2⟩ := HV2.out.three
    go_wp2_with (go_at_call 14; refine (num5_u _ _).mono ?_; rintro e w9 ⟨rfl, rfl⟩)
    refine (extPut_u _ _ _ _ _ (Ex.putL l x) HA2.out x HX.out).mono ?_
    rintro e w3 ⟨b, rfl, ho, b3⟩
    rw [HP2.out] at ho
    rw [HP1.out]
    obtain ⟨a3, c3, rfl, -, -⟩ := ho.slice
    have B3 : Hid (Below W.heap.size W w3) := on B2.out b3
    have HV3 : Hid (Row w3 W.heap.size 24 [.int .i64 x.1, .int .i64 x.2.1, .int .i64 x.2.2]) := HV2.out.below b3
    have HA3 : Hid (rExts.rd w3 (fun b => w1.heap.size ≤ b) [.slice a2 (Ex.putL l x).length c2] (Ex.putL l x)) := Rep.below HA2.out b3
    have HB3 : Hid (rExts.rd w3 (fun b => w2.heap.size ≤ b) [.slice a3 (Ex.putL l x).length c3] (Ex.putL l x)) := ho.rd (by have := Ex.putL_len l x; omega)
    clear ho b3 x0 x1 x2
    obtain ⟨x0, x1, x2⟩ := HV3.out.three
    go_wp2_with (go_at_call 14; refine (num5_u _ _).mono ?_; rintro e w9 ⟨rfl, rfl⟩)
    refine (extCut_u _ _ _ _ _ (Ex.putL l x) HA3.out x.1 x.2.2 hx2).mono ?_
    rintro e w4 ⟨b, rfl, ho, b4⟩
    obtain ⟨a4, c4, rfl, -, -⟩ := ho.slice
    have B4 : Hid (Below W.heap.size W w4) := on B3.out b4
    have HV4 : Hid (Row w4 W.heap.size 24 [.int .i64 x.1, .int .i64 x.2.1, .int .i64 x.2.2]) := HV3.out.below b4
    have HA4 : Hid (rExts.rd w4 (fun b => w1.heap.size ≤ b) [.slice a2 (Ex.putL l x).length c2] (Ex.putL l x)) := Rep.below HA3.out b4
    have HB4 : Hid (rExts.rd w4 (fun b => w2.heap.size ≤ b) [.slice a3 (Ex.putL l x).length c3] (Ex.putL l x)) := Rep.below HB3.out b4
    have HC4 : Hid (rExts.rd w4 (fun b => w3.heap.size ≤ b) [.slice a4 (Ex.cutL (Ex.putL l x) x.1 x.2.2).length c4] (Ex.cutL (Ex.putL l x) x.1 x.2.2)) := ho.rd (by have := Ex.cutL_len (Ex.putL l x) x.1 x.2.2; omega)
    clear ho b4 x0 x1 x2
    obtain ⟨x0, x1, x2⟩ := HV4.out.three
    go_wp2_with (go_at_call 14; refine (num5_u _ _).mono ?_; rintro e w9 ⟨rfl, rfl⟩)
    refine (extCut_u _ _ _ _ _ l (Rep.below HR.out B4.out) x.1 x.2.2 hx2).mono ?_
    rintro e w5 ⟨b, rfl, ho, b5⟩
    obtain ⟨a5, c5, rfl, -, -⟩ := ho.slice
    have B5 : Hid (Below W.heap.size W w5) := on B4.out b5
    have HV5 : Hid (Row w5 W.heap.size 24 [.int .i64 x.1, .int .i64 x.2.1, .int .i64 x.2.2]) := HV4.out.below b5
    have HA5 : Hid (rExts.rd w5 (fun b => w1.heap.size ≤ b) [.slice a2 (Ex.putL l x).length c2] (Ex.putL l x)) := Rep.below HA4.out b5
    have HB5 : Hid (rExts.rd w5 (fun b => w2.heap.size ≤ b) [.slice a3 (Ex.putL l x).length c3] (Ex.putL l x)) := Rep.below HB4.out b5
    have HC5 : Hid (rExts.rd w5 (fun b => w3.heap.size ≤ b) [.slice a4 (Ex.cutL (Ex.putL l x) x.1 x.2.2).length c4] (Ex.cutL (Ex.putL l x) x.1 x.2.2)) := Rep.below HC4.out b5
    have HD5 : Hid (rExts.rd w5 (fun b => w4.heap.size ≤ b) [.slice a5 (Ex.cutL l x.1 x.2.2).length c5] (Ex.cutL l x.1 x.2.2)) := ho.rd (by have := Ex.cutL_len l x.1 x.2.2; omega)
    clear ho b5 x0 x1 x2
    obtain ⟨x0, x1, x2⟩ := HV5.out.three
    go_wp2_with (go_at_call 14; refine (num5_u _ _).mono ?_; rintro e w9 ⟨rfl, rfl⟩)
    refine (extCut_u _ _ _ _ _ (Ex.cutL l x.1 x.2.2) HD5.out x.1 x.2.2 hx2).mono ?_
    rintro e w6 ⟨b, rfl, ho, b6⟩
    obtain ⟨a6, c6, rfl, -, -⟩ := ho.slice
    have B6 : Hid (Below W.heap.size W w6) := on B5.out b6
    have HA6 : Hid (rExts.rd w6 (fun b => w1.heap.size ≤ b) [.slice a2 (Ex.putL l x).length c2] (Ex.putL l x)) := Rep.below HA5.out b6
    have HB6 : Hid (rExts.rd w6 (fun b => w2.heap.size ≤ b) [.slice a3 (Ex.putL l x).length c3] (Ex.putL l x)) := Rep.below HB5.out b6
    have HC6 : Hid (rExts.rd w6 (fun b => w3.heap.size ≤ b) [.slice a4 (Ex.cutL (Ex.putL l x) x.1 x.2.2).length c4] (Ex.cutL (Ex.putL l x) x.1 x.2.2)) := Rep.below HC5.out b6
    have HD6 : Hid (rExts.rd w6 (fun b => w4.heap.size ≤ b) [.slice a5 (Ex.cutL l x.1 x.2.2).length c5] (Ex.cutL l x.1 x.2.2)) := Rep.below HD5.out b6
    have HK6 : Hid (rExts.rd w6 (fun b => w5.heap.size ≤ b) [.slice a6 (Ex.cutL (Ex.cutL l x.1 x.2.2) x.1 x.2.2).length c6] (Ex.cutL (Ex.cutL l x.1 x.2.2) x.1 x.2.2)) := ho.rd (by have := Ex.cutL_len (Ex.cutL l x.1 x.2.2) x.1 x.2.2; omega)
    clear ho b6 x0 x1 x2
    by_cases hG : Ex.cutE (Ex.putL l x) x.1 x.2.2 = 0
    · by_cases hH : Ex.cutE l x.1 x.2.2 = 0
      · have HCD : Hid ((Ex.cutL (Ex.putL l x) x.1 x.2.2) = (Ex.cutL l x.1 x.2.2)) := Ex.cut_put HE0.out hG hH
        obtain ⟨i1, i2⟩ := Ex.cut_twice hH
        have HKD : Hid ((Ex.cutL (Ex.cutL l x.1 x.2.2) x.1 x.2.2) = (Ex.cutL l x.1 x.2.2)) := i2
        rw [hG, hH, i1]
        clear hG hH i1 i2
        go_wp2_with (go_at_call 14; refine (num5_u _ _).mono ?_; rintro e w9 ⟨rfl, rfl⟩)
        refine (sameExts_eq _ _ _ _ _ _ _ _ _ _ _ HA6.out HB6.out rfl).mono ?_
        rintro e w7 ⟨rfl, b7⟩
        go_wp2_with (go_at_call 14; refine (num5_u _ _).mono ?_; rintro e w9 ⟨rfl, rfl⟩)
        refine (sameExts_eq _ _ _ _ _ _ _ _ _ _ _ (Rep.below HC6.out b7) (Rep.below HD6.out b7) HCD.out).mono ?_
        rintro e w8 ⟨rfl, b8⟩
        go_wp2_with (go_at_call 14; refine (num5_u _ _).mono ?_; rintro e w9 ⟨rfl, rfl⟩)
        refine (sameExts_eq _ _ _ _ _ _ _ _ _ _ _ (Rep.below HK6.out (on b7 b8)) (Rep.below HD6.out (on b7 b8)) HKD.out).mono ?_
        rintro e w10 ⟨rfl, b10⟩
        go_wp2_with (go_at_call 14; refine (num5_u _ _).mono ?_; rintro e w9 ⟨rfl, rfl⟩)
        go_ret
        exact ⟨rfl, on B6.out (on (on b7 b8) b10)⟩
      · rw [hG]
        obtain ⟨H, hHe⟩ : ∃ H, H = Ex.cutE l x.1 x.2.2 := ⟨_, rfl⟩
        rw [← hHe] at hH ⊢
        generalize Ex.cutE (Ex.cutL l x.1 x.2.2) x.1 x.2.2 = I at *
        have hH' : (H == 0) = false := beq_eq_false_iff_ne.2 hH
        clear hHe hG
        go_wp2_with (go_at_call 14; refine (num5_u _ _).mono ?_; rintro e w9 ⟨rfl, rfl⟩)
        refine (sameExts_eq _ _ _ _ _ _ _ _ _ _ _ HA6.out HB6.out rfl).mono ?_
        rintro e w7 ⟨rfl, b7⟩
        go_wp2_with (go_at_call 14; refine (num5_u _ _).mono ?_; rintro e w9 ⟨rfl, rfl⟩)
        go_ret
        exact ⟨rfl, on B6.out b7⟩
    · obtain ⟨G, hGe⟩ : ∃ G, G = Ex.cutE (Ex.putL l x) x.1 x.2.2 := ⟨_, rfl⟩
      rw [← hGe] at hG ⊢
      generalize Ex.cutE (Ex.cutL l x.1 x.2.2) x.1 x.2.2 = I at *
      generalize Ex.cutE l x.1 x.2.2 = H at *
      have hG' : (G == 0) = false := beq_eq_false_iff_ne.2 hG
      clear hGe
      go_wp2_with (go_at_call 14; refine (num5_u _ _).mono ?_; rintro e w9 ⟨rfl, rfl⟩)
      refine (sameExts_eq _ _ _ _ _ _ _ _ _ _ _ HA6.out HB6.out rfl).mono ?_
      rintro e w7 ⟨rfl, b7⟩
      go_wp2_with (go_at_call 14; refine (num5_u _ _).mono ?_; rintro e w9 ⟨rfl, rfl⟩)
      go_ret
      exact ⟨rfl, on B6.out b7⟩
  · have hL : (Ex.putL l x) = [] := if_neg hE
    rw [hL]
    have hE' : (Ex.putE l x == 0) = false := beq_eq_false_iff_ne.2 hE
    go_wp2_with (go_at_call 14; refine (num5_u _ _).mono ?_; rintro e w9 ⟨rfl, rfl⟩)
    go_ret
    exact ⟨rfl, B2.out⟩

set_option maxRecDepth 100000 in
theorem etwice_lifted (os : Os) (started : os.Started) (H : Type) (enc : TypeId × Value → H) :
    ReturnsInHanded {} Try.checked os 5 .any (Rows.extentTwiceSpec.pre6 enc Try.prog Try.f5 Rows.extentTwiceRow.domain false) (Rows.extentTwiceSpec.post enc Try.prog Try.f5 false true false false) := by
  refine returnsInHanded_of_change_sized (C := Try.checked) own started (by kernel_rfl) Try.func5
    (ChangeSpec.witness6 (enc := enc) (C := Try.checked) false ⟨#[], #[.slice none 0 0, .agg #[.int .i64 0, .int .i64 0, .int .i64 0]], []⟩ 8 (by kernel_rfl) (by kernel_rfl) (by kernel_rfl) (by kernel_rfl)) ?_
  intro W base args ds gs before hval0 hW _ hsz0 _
  have hsz : (DataW.weightsEach Try.prog (Try.f5.params.toList ++ Rows.extentTwiceSpec.plain.varTypes Try.prog) (ds ++ gs)).all (· ≤ reachBytes) = true := hsz0
  clear hsz0
  have hval : ∀ (j : Nat) t v, Try.f5.params[j]? = some t → args[j]? = some v → Value.okWide Try.prog W .any base t v := hval0
  have hW' := hW
  obtain ⟨p, q, hA0, hV, rfl, hfz, hnd⟩ := hW
  have hA : DataW.TrodAll enc Try.prog W 0 (fun _ => true) true Try.f5.params.toList args.toList ds p := hA0
  rw [Try.params5] at hA hval hsz
  obtain ⟨v0, vs0, d0, ds0, p0, q0, hargs, rfl, rfl, h0, r0⟩ := trodAll_cons hA
  obtain ⟨v1, vs1, d1, ds1, p1, q1, rfl, rfl, rfl, h1, r1⟩ := trodAll_cons r0
  obtain ⟨rfl, rfl, rfl⟩ := trodAll_nil r1
  obtain rfl : args = #[v0, v1] := by cases args; simp_all
  obtain ⟨rfl, rfl⟩ := trodVars_none hV
  obtain ⟨a0, len0, cap0, rfl⟩ := okWide_slice Try.underlying22 (hval 0 22 v0 rfl rfl)
  have k0 := h0
  have lt0 : ∀ x ∈ p0, x.block < W.heap.size := by obtain ⟨m, hm⟩ := k0; exact DataW.trod_lt m _ _ _ hm
  obtain ⟨x0, hx0⟩ := opens_exts.arg h0 hsz (j := 0) rfl rfl
  obtain ⟨c1, rfl, -⟩ := okWide_struct Try.underlying24 (hval 1 24 v1 rfl rfl)
  have k1 := h1
  have lt1 : ∀ x ∈ p1, x.block < W.heap.size := by obtain ⟨m, hm⟩ := k1; exact DataW.trod_lt m _ _ _ hm
  obtain ⟨x1, hx1⟩ := opens_ext.arg h1 hsz (j := 1) rfl rfl
  clear hA0 hval0
  refine (etwice_walk a0 len0 cap0 x0 c1.toList x1 W hx0 hx1).mono fun e W' ⟨he, bel⟩ => ?_
  subst he
  exact ⟨_, rfl, _, _, _, [], _, [], hW', trodAll_mk1 (shut_bool Try.underlying4 _), (trodAll_cons_mk (Below.trod laidOut (by kernel_rfl) (of_decide_eq_true (by kernel_rfl)) k0 bel lt0) (trodAll_cons_mk (Below.trod laidOut (by kernel_rfl) (of_decide_eq_true (by kernel_rfl)) k1 bel lt1) trodAll_mk0)), rfl, bel.frame _, fun h => by cases h⟩

theorem extentTwice_holds : Rows.ExtentTwiceSaid :=
  OpenClaim.holds_of_wide 5 Try.f5 rfl rfl rfl rfl rfl rfl rfl ⟨rfl, rfl, rfl, rfl, rfl⟩ rfl rfl rfl rfl rfl (by kernel_rfl) Try.func5 (by kernel_rfl)
    (of_decide_eq_true (by kernel_rfl)) (by unfold Func.isWrapper; first | (rw [if_pos (by decide +kernel)]; kernel_rfl) | (rw [if_neg (by decide +kernel)]; exact ⟨rfl, rfl⟩))
    (fun os started H enc _ => etwice_lifted os started H enc)

end Go.Proofs.Ytlpmfbinemmikab
