/-
  Sectors that are cut are holes, all others stand where they stood, at whatever map and sectors. Conditions: none.
-/
import Derived.Test.YtlpmfbinemmikaaEAlive
import Derived.Test.YtlpmfbinemmikaaEFrame
import Derived.Test.YtlpmfbinemmikaaXO
namespace Go.Proofs.Ytlpmfbinemmikaa
open Go.ChangeShapes Go.WideShapes Go.ChangeAt Go.RowKit
set_option linter.unusedVariables false

theorem turn16 (a : Int) : ∃ K : Int, 0 ≤ K ∧ K < 65536 ∧ (wrap64 (a.tmod 65536 + 65536)).tmod 65536 = K := by
  have h1 := Int.tmod_lt_of_pos a (show (0 : Int) < 65536 by decide)
  have h2 := Int.lt_tmod_of_pos a (show (0 : Int) < 65536 by decide)
  have e : wrap64 (a.tmod 65536 + 65536) = a.tmod 65536 + 65536 := by unfold wrap64; omega
  rw [e]
  have h3 : (a.tmod 65536 + 65536).tmod 65536 = (a.tmod 65536 + 65536) % 65536 := Int.tmod_eq_emod_of_nonneg (by omega)
  exact ⟨(a.tmod 65536 + 65536) % 65536, by omega, by omega, h3⟩

set_option maxHeartbeats 4000000 in
theorem ecuts_walk (a : Option Addr) (n c : Nat) (l : List Ext) (f m : Int) (v : Int) (W : World) (h0 : rExts.rd W (fun b => b < W.heap.size) [.slice a n c] l) (hf1 : -9223372036854775808 ≤ f) (hf2 : f ≤ 9223372036854775807) (hm1 : -9223372036854775808 ≤ m) (hm2 : m ≤ 9223372036854775807) (hv1 : -9223372036854775808 ≤ v) (hv2 : v ≤ 9223372036854775807) :
    Calls Try.prog 6 #[.slice a n c, .int .i64 f, .int .i64 m, .int .i64 v] W fun e W' => e = .returned (.bool true) ∧ Below W.heap.size W W' := by
  have HR : Hid _ := h0
  clear h0
  go_enter Try.func6, Try.ntmps6
  go_wp2_with fail
  refine (alive5_u _).mono ?_
  rintro e w1 ⟨rfl, b1⟩
  have B1 : Hid (Below W.heap.size W w1) := b1
  clear b1
  go_wp2_with fail
  refine (extCut_u _ _ _ _ _ l (Rep.below HR.out B1.out) f m hm2).mono ?_
  rintro e w2 ⟨b, rfl, ho, b2⟩
  obtain ⟨a2, c2, rfl, -, -⟩ := ho.slice
  have HO : Hid (OwnE _ _ _ _ _) := ho
  have B2 : Hid (Below W.heap.size W w2) := on B1.out b2
  clear ho b2
  by_cases hE : Ex.cutE l f m = 0
  · obtain ⟨K, hK0, hK1, hK⟩ := turn16 v
    obtain ⟨L1, L2, L3, L4⟩ := Ex.cut_law hE hK0 hK1
    have HOk : Hid _ := (Ex.cutL_ok hE).2.1
    have HR1 : Hid (rExts.rd w2 (fun b => w1.heap.size ≤ b) [.slice a2 (Ex.cutL l f m).length c2] (Ex.cutL l f m)) := HO.out.rd (by have := HOk.out.1; omega)
    have HC : Hid _ := L3
    have HFa : Hid _ := L1
    have HFl : Hid _ := L2
    have HV : Hid _ := L4
    have HE0 : Hid _ := hE
    obtain ⟨-, ⟨q1, q2, q3, q4⟩, -⟩ := Ex.cutE_zero.1 hE
    rw [hE]
    clear L1 L2 L3 L4 hE
    go_wp2_with (go_at_call 18; refine (num5_u _ _).mono ?_; rintro e w9 ⟨rfl, rfl⟩)
    refine (extFind_u _ _ _ _ _ _ HR1.out K).mono ?_
    rintro e w3 ⟨rfl, b3⟩
    have B3 : Hid (Below W.heap.size W w3) := on B2.out b3
    have HR3 : Hid (rExts.rd w3 (fun b => w1.heap.size ≤ b) [.slice a2 (Ex.cutL l f m).length c2] (Ex.cutL l f m)) := Rep.below HR1.out b3
    clear b3
    rw [HFa.out]
    go_wp2_with (go_at_call 18; refine (num5_u _ _).mono ?_; rintro e w9 ⟨rfl, rfl⟩)
    refine (extFind_u _ _ _ _ _ _ (Rep.below HR.out B3.out) K).mono ?_
    rintro e w4 ⟨rfl, b4⟩
    have B4 : Hid (Below W.heap.size W w4) := on B3.out b4
    have HR4 : Hid (rExts.rd w4 (fun b => w1.heap.size ≤ b) [.slice a2 (Ex.cutL l f m).length c2] (Ex.cutL l f m)) := Rep.below HR3.out b4
    clear b4
    rw [HFl.out, HV.out]
    generalize Ex.findV l K = V at *
    by_cases c1 : f ≤ K
    · have c1' : decide (f ≤ K) = true := decide_eq_true c1
      by_cases c2 : K - f < m
      · have c2' : decide (K - f < m) = true := decide_eq_true c2
        rw [if_pos ⟨c1, c2⟩]
        go_wp2_with (go_at_call 18; refine (num5_u _ _).mono ?_; rintro e w9 ⟨rfl, rfl⟩)
        refine (extCheck_u _ _ _ _ _ _ HR4.out).mono ?_
        rintro e w5 ⟨rfl, b5⟩
        rw [HC.out]
        go_wp2_with (go_at_call 18; refine (num5_u _ _).mono ?_; rintro e w9 ⟨rfl, rfl⟩)
        go_ret
        exact ⟨by first | rfl | simp, on B4.out b5⟩
      · have c2' : decide (K - f < m) = false := decide_eq_false c2
        rw [if_neg (fun h => c2 h.2)]
        go_wp2_with (go_at_call 18; refine (num5_u _ _).mono ?_; rintro e w9 ⟨rfl, rfl⟩)
        refine (extCheck_u _ _ _ _ _ _ HR4.out).mono ?_
        rintro e w5 ⟨rfl, b5⟩
        rw [HC.out]
        go_wp2_with (go_at_call 18; refine (num5_u _ _).mono ?_; rintro e w9 ⟨rfl, rfl⟩)
        go_ret
        exact ⟨by first | rfl | simp, on B4.out b5⟩
    · have c1' : decide (f ≤ K) = false := decide_eq_false c1
      rw [if_neg (fun h => c1 h.1)]
      go_wp2_with (go_at_call 18; refine (num5_u _ _).mono ?_; rintro e w9 ⟨rfl, rfl⟩)
      refine (extCheck_u _ _ _ _ _ _ HR4.out).mono ?_
      rintro e w5 ⟨rfl, b5⟩
      rw [HC.out]
      go_wp2_with (go_at_call 18; refine (num5_u _ _).mono ?_; rintro e w9 ⟨rfl, rfl⟩)
      go_ret
      exact ⟨by first | rfl | simp, on B4.out b5⟩
  · have hL : Ex.cutL l f m = [] := if_neg hE
    rw [hL]
    have hE' : (Ex.cutE l f m == 0) = false := beq_eq_false_iff_ne.2 hE
    go_wp2_with (go_at_call 18; refine (num5_u _ _).mono ?_; rintro e w9 ⟨rfl, rfl⟩)
    go_ret
    exact ⟨rfl, B2.out⟩

set_option maxRecDepth 100000 in
theorem ecuts_lifted (os : Os) (started : os.Started) (H : Type) (enc : TypeId × Value → H) :
    ReturnsInHanded {} Try.checked os 6 .any (Rows.extentCutsSpec.pre6 enc Try.prog Try.f6 Rows.extentCutsRow.domain false) (Rows.extentCutsSpec.post enc Try.prog Try.f6 false true false false) := by
  refine returnsInHanded_of_change_sized (C := Try.checked) own started (by kernel_rfl) Try.func6
    (ChangeSpec.witness6 (enc := enc) (C := Try.checked) false ⟨#[], #[.slice none 0 0, .int .i64 0, .int .i64 0, .int .i64 0], []⟩ 8 (by kernel_rfl) (by kernel_rfl) (by kernel_rfl) (by kernel_rfl)) ?_
  intro W base args ds gs before hval0 hW _ hsz0 _
  have hsz : (DataW.weightsEach Try.prog (Try.f6.params.toList ++ Rows.extentCutsSpec.plain.varTypes Try.prog) (ds ++ gs)).all (· ≤ reachBytes) = true := hsz0
  clear hsz0
  have hval : ∀ (j : Nat) t v, Try.f6.params[j]? = some t → args[j]? = some v → Value.okWide Try.prog W .any base t v := hval0
  have hW' := hW
  obtain ⟨p, q, hA0, hV, rfl, hfz, hnd⟩ := hW
  have hA : DataW.TrodAll enc Try.prog W 0 (fun _ => true) true Try.f6.params.toList args.toList ds p := hA0
  rw [Try.params6] at hA hval hsz
  obtain ⟨v0, vs0, d0, ds0, p0, q0, hargs, rfl, rfl, h0, r0⟩ := trodAll_cons hA
  obtain ⟨v1, vs1, d1, ds1, p1, q1, rfl, rfl, rfl, h1, r1⟩ := trodAll_cons r0
  obtain ⟨v2, vs2, d2, ds2, p2, q2, rfl, rfl, rfl, h2, r2⟩ := trodAll_cons r1
  obtain ⟨v3, vs3, d3, ds3, p3, q3, rfl, rfl, rfl, h3, r3⟩ := trodAll_cons r2
  obtain ⟨rfl, rfl, rfl⟩ := trodAll_nil r3
  obtain rfl : args = #[v0, v1, v2, v3] := by cases args; simp_all
  obtain ⟨rfl, rfl⟩ := trodVars_none hV
  obtain ⟨a0, len0, cap0, rfl⟩ := okWide_slice Try.underlying22 (hval 0 22 v0 rfl rfl)
  have k0 := h0
  have lt0 : ∀ x ∈ p0, x.block < W.heap.size := by obtain ⟨m, hm⟩ := k0; exact DataW.trod_lt m _ _ _ hm
  obtain ⟨x0, hx0⟩ := opens_exts.arg h0 hsz (j := 0) rfl rfl
  obtain ⟨a1, rfl, rfl, rfl, w1⟩ := open_int Try.underlying3 (hval 1 3 v1 rfl rfl) h1
  have i1 := bounds_i64 w1
  obtain ⟨a2, rfl, rfl, rfl, w2⟩ := open_int Try.underlying3 (hval 2 3 v2 rfl rfl) h2
  have i2 := bounds_i64 w2
  obtain ⟨a3, rfl, rfl, rfl, w3⟩ := open_int Try.underlying3 (hval 3 3 v3 rfl rfl) h3
  have i3 := bounds_i64 w3
  clear hA0 hval0
  refine (ecuts_walk a0 len0 cap0 x0 a1 a2 a3 W hx0 (by omega) (by omega) (by omega) (by omega) (by omega) (by omega)).mono fun e W' ⟨he, bel⟩ => ?_
  subst he
  exact ⟨_, rfl, _, _, _, [], _, [], hW', trodAll_mk1 (shut_bool Try.underlying4 _), (trodAll_cons_mk (Below.trod laidOut (by kernel_rfl) (of_decide_eq_true (by kernel_rfl)) k0 bel lt0) (trodAll_cons_mk (shut_int Try.underlying3 w1) (trodAll_cons_mk (shut_int Try.underlying3 w2) (trodAll_cons_mk (shut_int Try.underlying3 w3) trodAll_mk0)))), rfl, bel.frame _, fun h => by cases h⟩

theorem extentCuts_holds : Rows.ExtentCutsSaid :=
  OpenClaim.holds_of_wide 6 Try.f6 rfl rfl rfl rfl rfl rfl rfl ⟨rfl, rfl, rfl, rfl, rfl⟩ rfl rfl rfl rfl rfl (by kernel_rfl) Try.func6 (by kernel_rfl)
    (of_decide_eq_true (by kernel_rfl)) (by unfold Func.isWrapper; first | (rw [if_pos (by decide +kernel)]; kernel_rfl) | (rw [if_neg (by decide +kernel)]; exact ⟨rfl, rfl⟩))
    (fun os started H enc _ => ecuts_lifted os started H enc)

end Go.Proofs.Ytlpmfbinemmikaa
