/-
  What stood in a span stands in its new place, all others where they stood, at whatever map, span and place. Conditions: none.
-/
import Derived.Test.YtlpmfbinemmikaaEAlive
import Derived.Test.YtlpmfbinemmikaaEFrame
import Derived.Test.YtlpmfbinemmikaaXO
import Derived.Test.YtlpmfbinemmikaaXZ
namespace Go.Proofs.Ytlpmfbinemmikaa
open Go.ChangeShapes Go.WideShapes Go.ChangeAt Go.RowKit
set_option linter.unusedVariables false

theorem turn16 (a : Int) : ∃ K : Int, 0 ≤ K ∧ K < 65536 ∧ (wrap64 (a.tmod 65536 + 65536)).tmod 65536 = K := by
  have h1 := Int.tmod_lt_of_pos a (show (0 : Int) < 65536 by decide)
  have h2 := Int.lt_tmod_of_pos a (show (0 : Int) < 65536 by decide)
  have e : wrap64 (a.tmod 65536 + 65536) = a.tmod 65536 + 65536 := by unfold wrap64; omega
  rw [e]
  have h3 : (a.tmod 65536 + 65536).tmod 65536 = (a.tmod 65536 + 65536) % 65536 := Int.tmod_eq_emod_of_nonneg (by omega)
  exact ⟨(a.tmod 65536 + 65536) % 65536, by omega, by omega, h3⟩

set_option maxHeartbeats 4000000 in
theorem efollows_walk (a : Option Addr) (n c : Nat) (l : List Ext) (cs : List Value) (x : Spn) (t : Int) (v : Int) (W : World) (h0 : rExts.rd W (fun b => b < W.heap.size) [.slice a n c] l) (h1 : rSpn.rd W (fun b => b < W.heap.size) cs x) (ht1 : -9223372036854775808 ≤ t) (ht2 : t ≤ 9223372036854775807) (hv1 : -9223372036854775808 ≤ v) (hv2 : v ≤ 9223372036854775807) :
    Calls Try.prog 7 #[.slice a n c, .agg cs.toArray, .int .i64 t, .int .i64 v] W fun e W' => e = .returned (.bool true) ∧ Below W.heap.size W W' := by
  have HR : Hid _ := h0
  obtain ⟨rfl, hx3⟩ := rSpn_rd.1 h1
  obtain ⟨w0, hw0, V0, b0, z0⟩ := boxedRow W 44 [.int .i64 x.1, .int .i64 x.2]
  have HV : Hid (Row w0 W.heap.size 44 [.int .i64 x.1, .int .i64 x.2]) := V0
  have B0 : Hid (Below W.heap.size W w0) := b0
  have HX : Hid (In2 x) := hx3
  rw [show (spn2 x).toArray = #[.int .i64 x.1, .int .i64 x.2] from rfl]
  clear V0 b0 z0 h1 hx3
  clear h0
  go_enter Try.func7, Try.ntmps7
  go_wp2_with fail
  refine (alive5_u _).mono ?_
  rintro e w1 ⟨rfl, b1⟩
  have B1 : Hid (Below W.heap.size W w1) := on B0.out b1
  have HV1 : Hid (Row w1 W.heap.size 44 [.int .i64 x.1, .int .i64 x.2]) := HV.out.below b1
  obtain ⟨x0, x1⟩ := HV1.out.two
  clear b1
  go_wp2_with fail
  refine (extMove_u _ _ _ _ _ l (Rep.below HR.out B1.out) x t HX.out).mono ?_
  rintro e w2 ⟨b, rfl, ho, b2⟩
  obtain ⟨a2, c2, rfl, -, -⟩ := ho.slice
  have HO : Hid (OwnE _ _ _ _ _) := ho
  have B2 : Hid (Below W.heap.size W w2) := on B1.out b2
  have HV2 : Hid (Row w2 W.heap.size 44 [.int .i64 x.1, .int .i64 x.2]) := HV1.out.below b2
  clear x0 x1
  clear ho b2
  by_cases hE : Ex.moveE l x t = 0
  · obtain ⟨K, hK0, hK1, hK⟩ := turn16 v
    obtain ⟨L1, L2, L3, L4⟩ := Ex.move_law hE hK0 hK1
    have HOk : Hid _ := (Ex.moveL_ok hE).2.1
    have HR1 : Hid (rExts.rd w2 (fun b => w1.heap.size ≤ b) [.slice a2 (Ex.moveL l x t).length c2] (Ex.moveL l x t)) := HO.out.rd (by have := HOk.out.1; omega)
    have HC : Hid _ := L3
    have HFa : Hid _ := L1
    have HFl : Hid _ := L2
    have HV : Hid _ := L4.2.2
    have HE0 : Hid _ := hE
    obtain ⟨r1, r2, -⟩ := L4
    have ho := (Ex.moveE_zero.1 hE).2.1
    unfold Ex.Span Ex.Fits at ho
    obtain ⟨q1, ⟨q2, q3, q4, q5⟩, q6, q7, q8, q9⟩ := ho
    rw [hE]
    clear L1 L2 L3 hE
    go_wp2_with (go_at_call 18; refine (num5_u _ _).mono ?_; rintro e w9 ⟨rfl, rfl⟩)
    refine (extFind_u _ _ _ _ _ _ HR1.out K).mono ?_
    rintro e w3 ⟨rfl, b3⟩
    have B3 : Hid (Below W.heap.size W w3) := on B2.out b3
    have HR3 : Hid (rExts.rd w3 (fun b => w1.heap.size ≤ b) [.slice a2 (Ex.moveL l x t).length c2] (Ex.moveL l x t)) := Rep.below HR1.out b3
    have HV3 : Hid (Row w3 W.heap.size 44 [.int .i64 x.1, .int .i64 x.2]) := HV2.out.below b3
    clear b3
    rw [HFa.out]
    go_wp2_with (go_at_call 18; refine (num5_u _ _).mono ?_; rintro e w9 ⟨rfl, rfl⟩)
    refine (extFind_u _ _ _ _ _ _ (Rep.below HR.out B3.out) K).mono ?_
    rintro e w4 ⟨rfl, b4⟩
    have B4 : Hid (Below W.heap.size W w4) := on B3.out b4
    have HR4 : Hid (rExts.rd w4 (fun b => w1.heap.size ≤ b) [.slice a2 (Ex.moveL l x t).length c2] (Ex.moveL l x t)) := Rep.below HR3.out b4
    have HV4 : Hid (Row w4 W.heap.size 44 [.int .i64 x.1, .int .i64 x.2]) := HV3.out.below b4
    obtain ⟨x0, x1⟩ := HV4.out.two
    clear b4
    rw [HFl.out, HV.out]
    generalize Ex.findV l K = V at *
    by_cases c1 : x.1 ≤ V
    · have c1' : decide (x.1 ≤ V) = true := decide_eq_true c1
      by_cases c2 : V - x.1 < x.2
      · have c2' : decide (V - x.1 < x.2) = true := decide_eq_true c2
        rw [if_pos ⟨c1, c2⟩]
        go_wp2_with (go_at_call 18; refine (num5_u _ _).mono ?_; rintro e w9 ⟨rfl, rfl⟩)
        refine (extCheck_u _ _ _ _ _ _ HR4.out).mono ?_
        rintro e w5 ⟨rfl, b5⟩
        rw [HC.out]
        go_wp2_with (go_at_call 18; refine (num5_u _ _).mono ?_; rintro e w9 ⟨rfl, rfl⟩)
        go_ret
        exact ⟨by first | rfl | simp, on B4.out b5⟩
      · have c2' : decide (V - x.1 < x.2) = false := decide_eq_false c2
        rw [if_neg (fun h => c2 h.2)]
        go_wp2_with (go_at_call 18; refine (num5_u _ _).mono ?_; rintro e w9 ⟨rfl, rfl⟩)
        refine (extCheck_u _ _ _ _ _ _ HR4.out).mono ?_
        rintro e w5 ⟨rfl, b5⟩
        rw [HC.out]
        go_wp2_with (go_at_call 18; refine (num5_u _ _).mono ?_; rintro e w9 ⟨rfl, rfl⟩)
        go_ret
        exact ⟨by first | rfl | simp, on B4.out b5⟩
    · have c1' : decide (x.1 ≤ V) = false := decide_eq_false c1
      rw [if_neg (fun h => c1 h.1)]
      go_wp2_with (go_at_call 18; refine (num5_u _ _).mono ?_; rintro e w9 ⟨rfl, rfl⟩)
      refine (extCheck_u _ _ _ _ _ _ HR4.out).mono ?_
      rintro e w5 ⟨rfl, b5⟩
      rw [HC.out]
      go_wp2_with (go_at_call 18; refine (num5_u _ _).mono ?_; rintro e w9 ⟨rfl, rfl⟩)
      go_ret
      exact ⟨by first | rfl | simp, on B4.out b5⟩
  · have hL : Ex.moveL l x t = [] := if_neg hE
    rw [hL]
    have hE' : (Ex.moveE l x t == 0) = false := beq_eq_false_iff_ne.2 hE
    go_wp2_with (go_at_call 18; refine (num5_u _ _).mono ?_; rintro e w9 ⟨rfl, rfl⟩)
    go_ret
    exact ⟨rfl, B2.out⟩

set_option maxRecDepth 100000 in
theorem efollows_lifted (os : Os) (started : os.Started) (H : Type) (enc : TypeId × Value → H) :
    ReturnsInHanded {} Try.checked os 7 .any (Rows.extentFollowsSpec.pre6 enc Try.prog Try.f7 Rows.extentFollowsRow.domain false) (Rows.extentFollowsSpec.post enc Try.prog Try.f7 false true false false) := by
  refine returnsInHanded_of_change_sized (C := Try.checked) own started (by kernel_rfl) Try.func7
    (ChangeSpec.witness6 (enc := enc) (C := Try.checked) false ⟨#[], #[.slice none 0 0, .agg #[.int .i64 0, .int .i64 0], .int .i64 0, .int .i64 0], []⟩ 8 (by kernel_rfl) (by kernel_rfl) (by kernel_rfl) (by kernel_rfl)) ?_
  intro W base args ds gs before hval0 hW _ hsz0 _
  have hsz : (DataW.weightsEach Try.prog (Try.f7.params.toList ++ Rows.extentFollowsSpec.plain.varTypes Try.prog) (ds ++ gs)).all (· ≤ reachBytes) = true := hsz0
  clear hsz0
  have hval : ∀ (j : Nat) t v, Try.f7.params[j]? = some t → args[j]? = some v → Value.okWide Try.prog W .any base t v := hval0
  have hW' := hW
  obtain ⟨p, q, hA0, hV, rfl, hfz, hnd⟩ := hW
  have hA : DataW.TrodAll enc Try.prog W 0 (fun _ => true) true Try.f7.params.toList args.toList ds p := hA0
  rw [Try.params7] at hA hval hsz
  obtain ⟨v0, vs0, d0, ds0, p0, q0, hargs, rfl, rfl, h0, r0⟩ := trodAll_cons hA
  obtain ⟨v1, vs1, d1, ds1, p1, q1, rfl, rfl, rfl, h1, r1⟩ := trodAll_cons r0
  obtain ⟨v2, vs2, d2, ds2, p2, q2, rfl, rfl, rfl, h2, r2⟩ := trodAll_cons r1
  obtain ⟨v3, vs3, d3, ds3, p3, q3, rfl, rfl, rfl, h3, r3⟩ := trodAll_cons r2
  obtain ⟨rfl, rfl, rfl⟩ := trodAll_nil r3
  obtain rfl : args = #[v0, v1, v2, v3] := by cases args; simp_all
  obtain ⟨rfl, rfl⟩ := trodVars_none hV
  obtain ⟨a0, len0, cap0, rfl⟩ := okWide_slice Try.underlying22 (hval 0 22 v0 rfl rfl)
  have k0 := h0
  have lt0 : ∀ x ∈ p0, x.block < W.heap.size := by obtain ⟨m, hm⟩ := k0; exact DataW.trod_lt m _ _ _ hm
  obtain ⟨x0, hx0⟩ := opens_exts.arg h0 hsz (j := 0) rfl rfl
  obtain ⟨c1, rfl, -⟩ := okWide_struct Try.underlying44 (hval 1 44 v1 rfl rfl)
  have k1 := h1
  have lt1 : ∀ x ∈ p1, x.block < W.heap.size := by obtain ⟨m, hm⟩ := k1; exact DataW.trod_lt m _ _ _ hm
  obtain ⟨x1, hx1⟩ := opens_span.arg h1 hsz (j := 1) rfl rfl
  obtain ⟨a2, rfl, rfl, rfl, w2⟩ := open_int Try.underlying3 (hval 2 3 v2 rfl rfl) h2
  have i2 := bounds_i64 w2
  obtain ⟨a3, rfl, rfl, rfl, w3⟩ := open_int Try.underlying3 (hval 3 3 v3 rfl rfl) h3
  have i3 := bounds_i64 w3
  clear hA0 hval0
  refine (efollows_walk a0 len0 cap0 x0 c1.toList x1 a2 a3 W hx0 hx1 (by omega) (by omega) (by omega) (by omega)).mono fun e W' ⟨he, bel⟩ => ?_
  subst he
  exact ⟨_, rfl, _, _, _, [], _, [], hW', trodAll_mk1 (shut_bool Try.underlying4 _), (trodAll_cons_mk (Below.trod laidOut (by kernel_rfl) (of_decide_eq_true (by kernel_rfl)) k0 bel lt0) (trodAll_cons_mk (Below.trod laidOut (by kernel_rfl) (of_decide_eq_true (by kernel_rfl)) k1 bel lt1) (trodAll_cons_mk (shut_int Try.underlying3 w2) (trodAll_cons_mk (shut_int Try.underlying3 w3) trodAll_mk0)))), rfl, bel.frame _, fun h => by cases h⟩

theorem extentFollows_holds : Rows.ExtentFollowsSaid :=
  OpenClaim.holds_of_wide 7 Try.f7 rfl rfl rfl rfl rfl rfl rfl ⟨rfl, rfl, rfl, rfl, rfl⟩ rfl rfl rfl rfl rfl (by kernel_rfl) Try.func7 (by kernel_rfl)
    (of_decide_eq_true (by kernel_rfl)) (by unfold Func.isWrapper; first | (rw [if_pos (by decide +kernel)]; kernel_rfl) | (rw [if_neg (by decide +kernel)]; exact ⟨rfl, rfl⟩))
    (fun os started H enc _ => efollows_lifted os started H enc)

end Go.Proofs.Ytlpmfbinemmikaa
