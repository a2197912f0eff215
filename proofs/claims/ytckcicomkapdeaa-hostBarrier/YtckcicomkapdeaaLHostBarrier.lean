/-
  Behind a barrier a crash changes nothing. Conditions: none.
-/
import Derived.Test.YtckcicomkapdeaaRAlive
import Derived.Test.YtckcicomkapdeaaROf
import Derived.Test.YtckcicomkapdeaaRFrame
namespace Go.Proofs.Ytckcicomkapdeaa
open Go.ChangeShapes Go.WideShapes Go.ChangeAt Go.RowKit
set_option linter.unusedVariables false

set_option maxHeartbeats 4000000 in
theorem hbarrier_walk (cs : List Value) (s : Host) (ka : Option Addr) (kn kc : Nat) (K : List Bool) (W : World) (h0 : rHost.rd W (fun b => b < W.heap.size) cs s) (h1 : rBools.rd W (fun b => b < W.heap.size) [.slice ka kn kc] K) :
    Calls Try.prog 5 #[.agg cs.toArray, .slice ka kn kc] W fun e W' => e = .returned (.bool true) ∧ Below W.heap.size W W' := by
  have h0' := h0
  obtain ⟨a, n, c, b, m, d, rfl, -⟩ := rHost_cells h0'
  clear h0'
  have HK0 : Hid _ := h1
  have HS0 : Hid _ := h0
  clear h0 h1
  obtain ⟨vs, hvs, -, -, -, bvs, zvs⟩ := boxed3 W 25 (.slice a n c) (.slice b m d) (.int .i64 s.2.2)
  have Vs : Hid (Var3 vs W.heap.size (.slice a n c) (.slice b m d) (.int .i64 s.2.2)) := by rw [← hvs]; exact var3_new _ _ _ _ _
  have HZs : Hid _ := zvs
  clear zvs
  cases hok : Hst.ok s
  · have HE : Hid _ := Hst.check_bad hok
    have HOK : Hid _ := hok
    clear hok
    go_enter Try.func5, Try.ntmps5
    go_wp2_with fail
    refine (alive_u _).mono ?_
    rintro e w1 ⟨rfl, b1⟩
    have X1 : Hid _ := (Vs.out.below b1)
    have p10 := X1.out.c0
    have p11 := X1.out.c1
    have p12 := X1.out.c2
    go_wp2_with fail
    refine (of_u _ _ _ s (Rep.below HS0.out (on bvs b1))).mono ?_
    rintro e w2 ⟨cs2, rfl, hr2, b2⟩
    go_wp2_with fail
    refine (flush_u _ _ _ _ hr2).mono ?_
    rintro e w3 ⟨cs3, rfl, hr3, b3⟩
    rw [HE.out]
    have hr3' := hr3
    obtain ⟨a3, n3, c3, d3, m3, e3, rfl, hA3, hW3, hn3, hm3, -⟩ := rHost_cells hr3'
    clear hr3'
    obtain ⟨v3, hv3, -, -, -, bv3, zv3⟩ := boxed3 w3 30 (.slice a3 n3 c3) (.slice d3 m3 e3) (.int .i64 (Hst.flushS s).2.2)
    have V3 : Hid (Var3 v3 w3.heap.size (.slice a3 n3 c3) (.slice d3 m3 e3) (.int .i64 (Hst.flushS s).2.2)) := by rw [← hv3]; exact var3_new _ _ _ _ _
    have HZ3 : Hid _ := zv3
    clear zv3
    have HA3 : Hid _ := hA3
    clear hA3
    have HW3 : Hid _ := hW3
    clear hW3
    have HN3 : Hid _ := hn3
    clear hn3
    have HM3 : Hid _ := hm3
    clear hm3
    go_wp2_with fail
    refine (num_u _ _).mono ?_
    rintro e w8 ⟨rfl, rfl⟩
    go_wp2_with fail
    refine (num_u _ _).mono ?_
    rintro e w9 ⟨rfl, rfl⟩
    go_wp2
    go_ret
    exact ⟨rfl, (on (on (on (on bvs b1) b2) b3) bv3)⟩
  · have HE : Hid _ := Hst.check_ok hok
    have HOK : Hid _ := hok
    clear hok
    go_enter Try.func5, Try.ntmps5
    go_wp2_with fail
    refine (alive_u _).mono ?_
    rintro e w1 ⟨rfl, b1⟩
    have X1 : Hid _ := (Vs.out.below b1)
    have p10 := X1.out.c0
    have p11 := X1.out.c1
    have p12 := X1.out.c2
    go_wp2_with fail
    refine (of_u _ _ _ s (Rep.below HS0.out (on bvs b1))).mono ?_
    rintro e w2 ⟨cs2, rfl, hr2, b2⟩
    go_wp2_with fail
    refine (flush_u _ _ _ _ hr2).mono ?_
    rintro e w3 ⟨cs3, rfl, hr3, b3⟩
    rw [HE.out]
    have hr3' := hr3
    obtain ⟨a3, n3, c3, d3, m3, e3, rfl, hA3, hW3, hn3, hm3, -⟩ := rHost_cells hr3'
    clear hr3'
    obtain ⟨v3, hv3, -, -, -, bv3, zv3⟩ := boxed3 w3 30 (.slice a3 n3 c3) (.slice d3 m3 e3) (.int .i64 (Hst.flushS s).2.2)
    have V3 : Hid (Var3 v3 w3.heap.size (.slice a3 n3 c3) (.slice d3 m3 e3) (.int .i64 (Hst.flushS s).2.2)) := by rw [← hv3]; exact var3_new _ _ _ _ _
    have HZ3 : Hid _ := zv3
    clear zv3
    have HA3 : Hid _ := hA3
    clear hA3
    have HW3 : Hid _ := hW3
    clear hW3
    have HN3 : Hid _ := hn3
    clear hn3
    have HM3 : Hid _ := hm3
    clear hm3
    have HOK3 : Hid _ := Hst.ok_settled Hst.all HOK.out
    have e3 : Hst.flushS s = Hst.settled s Hst.all := by unfold Hst.flushS; rw [if_pos HOK.out]
    have HE3 : Hid _ := e3
    clear e3
    go_wp2_with fail
    refine (num_u _ _).mono ?_
    rintro e w8 ⟨rfl, rfl⟩
    have X2 : Hid _ := V3.out
    have p20 := X2.out.c0
    have p21 := X2.out.c1
    have p22 := X2.out.c2
    go_wp2_with fail
    refine (crash_u _ (fun _ => True) _ _ ka kn kc K (rHost.weaken (Rep.below hr3 bv3) (fun _ _ _ => trivial)) (rBools.weaken (Rep.below HK0.out (on (on (on (on bvs b1) b2) b3) bv3)) (fun _ _ _ => trivial))).mono ?_
    rintro e w4 ⟨cs4, rfl, hr4, b4⟩
    have ec : Hst.crashS (Hst.flushS s) K = Hst.flushS s := by rw [HE3.out]; unfold Hst.crashS; rw [if_pos HOK3.out]; rfl
    have ee : Hst.checkE (Hst.flushS s) = 0 := by rw [HE3.out]; exact Hst.check_ok HOK3.out
    rw [ec] at hr4
    rw [ee]
    clear ec ee
    clear X1 p10 p11 p12
    clear X2 p20 p21 p22
    have hr4' := hr4
    obtain ⟨a4, n4, c4, d4, m4, e4, rfl, hA4, hW4, hn4, hm4, -⟩ := rHost_cells hr4'
    clear hr4'
    obtain ⟨v4, hv4, -, -, -, bv4, zv4⟩ := boxed3 w4 30 (.slice a4 n4 c4) (.slice d4 m4 e4) (.int .i64 (Hst.flushS s).2.2)
    have V4 : Hid (Var3 v4 w4.heap.size (.slice a4 n4 c4) (.slice d4 m4 e4) (.int .i64 (Hst.flushS s).2.2)) := by rw [← hv4]; exact var3_new _ _ _ _ _
    have HZ4 : Hid _ := zv4
    clear zv4
    have HA4 : Hid _ := hA4
    clear hA4
    have HW4 : Hid _ := hW4
    clear hW4
    have HN4 : Hid _ := hn4
    clear hn4
    have HM4 : Hid _ := hm4
    clear hm4
    have ew : (Hst.flushS s).2.1 = [] := by rw [HE3.out]; rfl
    obtain rfl : m3 = 0 := by rw [← HM3.out, ew]; rfl
    obtain rfl : m4 = 0 := by rw [← HM4.out, ew]; rfl
    obtain rfl : n4 = n3 := by rw [← HN4.out, ← HN3.out]
    clear ew
    have X3 : Hid _ := (V3.out.below (on b4 bv4))
    have p30 := X3.out.c0
    have p31 := X3.out.c1
    have p32 := X3.out.c2
    have X4 : Hid _ := V4.out
    have p40 := X4.out.c0
    have p41 := X4.out.c1
    have p42 := X4.out.c2
    go_wp2_with fail
    refine (num_u _ _).mono ?_
    rintro e w8 ⟨rfl, rfl⟩
    go_wp2_with fail
    refine (sameList_r _ _ _ a3 a4 n4 c3 n4 c4 _ _ (Rep.below HA3.out (on (on bv3 b4) bv4)) (Rep.below HA4.out bv4)).mono ?_
    rintro e w5 ⟨rfl, b5⟩
    rw [beq_self_eq_true]
    have X5 : Hid _ := (V3.out.below (on (on b4 bv4) b5))
    have p50 := X5.out.c0
    have p51 := X5.out.c1
    have p52 := X5.out.c2
    have X6 : Hid _ := (V4.out.below b5)
    have p60 := X6.out.c0
    have p61 := X6.out.c1
    have p62 := X6.out.c2
    go_wp2
    go_ret
    exact ⟨rfl, (on (on (on (on (on (on (on bvs b1) b2) b3) bv3) b4) bv4) b5)⟩

set_option maxRecDepth 100000 in
theorem hbarrier_lifted (os : Os) (started : os.Started) (H : Type) (enc : TypeId × Value → H) :
    ReturnsInHanded {} Try.checked os 5 .any (Rows.hostBarrierSpec.pre6 enc Try.prog Try.f5 Rows.hostBarrierRow.domain false) (Rows.hostBarrierSpec.post enc Try.prog Try.f5 false true false false) := by
  refine returnsInHanded_of_change_sized (C := Try.checked) own started (by kernel_rfl) Try.func5
    (ChangeSpec.witness6 (enc := enc) (C := Try.checked) false ⟨#[], #[.agg #[.slice none 0 0, .slice none 0 0, .int .i64 0], .slice none 0 0], []⟩ 8 (by kernel_rfl) (by kernel_rfl) (by kernel_rfl) (by kernel_rfl)) ?_
  intro W base args ds gs before hval0 hW _ hsz0 _
  have hsz : (DataW.weightsEach Try.prog (Try.f5.params.toList ++ Rows.hostBarrierSpec.plain.varTypes Try.prog) (ds ++ gs)).all (· ≤ reachBytes) = true := hsz0
  clear hsz0
  have hval : ∀ (j : Nat) t v, Try.f5.params[j]? = some t → args[j]? = some v → Value.okWide Try.prog W .any base t v := hval0
  have hW' := hW
  obtain ⟨p, q, hA0, hV, rfl, hfz, hnd⟩ := hW
  have hA : DataW.TrodAll enc Try.prog W 0 (fun _ => true) true Try.f5.params.toList args.toList ds p := hA0
  rw [Try.params5] at hA hval hsz
  obtain ⟨v0, vs0, d0, ds0, p0, q0, hargs, rfl, rfl, h0, r0⟩ := trodAll_cons hA
  obtain ⟨v1, vs1, d1, ds1, p1, q1, rfl, rfl, rfl, h1, r1⟩ := trodAll_cons r0
  obtain ⟨rfl, rfl, rfl⟩ := trodAll_nil r1
  obtain rfl : args = #[v0, v1] := by cases args; simp_all
  obtain ⟨rfl, rfl⟩ := trodVars_none hV
  obtain ⟨c0, rfl, -⟩ := okWide_struct Try.underlying25 (hval 0 25 v0 rfl rfl)
  have k0 := h0
  have lt0 : ∀ x ∈ p0, x.block < W.heap.size := by obtain ⟨m, hm⟩ := k0; exact DataW.trod_lt m _ _ _ hm
  obtain ⟨x0, hx0⟩ := opens_refHost.arg h0 hsz (j := 0) rfl rfl
  obtain ⟨a1, len1, cap1, rfl⟩ := okWide_slice Try.underlying27 (hval 1 27 v1 rfl rfl)
  have k1 := h1
  have lt1 : ∀ x ∈ p1, x.block < W.heap.size := by obtain ⟨m, hm⟩ := k1; exact DataW.trod_lt m _ _ _ hm
  obtain ⟨x1, hx1⟩ := opens_bools.arg h1 hsz (j := 1) rfl rfl
  clear hA0 hval0
  refine (hbarrier_walk c0.toList x0 a1 len1 cap1 x1 W hx0 hx1).mono fun e W' ⟨he, bel⟩ => ?_
  subst he
  exact ⟨_, rfl, _, _, _, [], _, [], hW', trodAll_mk1 (shut_bool Try.underlying4 _), (trodAll_cons_mk (Below.trod laidOut (by kernel_rfl) (of_decide_eq_true (by kernel_rfl)) k0 bel lt0) (trodAll_cons_mk (Below.trod laidOut (by kernel_rfl) (of_decide_eq_true (by kernel_rfl)) k1 bel lt1) trodAll_mk0)), rfl, bel.frame _, fun h => by cases h⟩

theorem hostBarrier_holds : Rows.HostBarrierSaid :=
  OpenClaim.holds_of_wide 5 Try.f5 rfl rfl rfl rfl rfl rfl rfl ⟨rfl, rfl, rfl, rfl, rfl⟩ rfl rfl rfl rfl rfl (by kernel_rfl) Try.func5 (by kernel_rfl)
    (of_decide_eq_true (by kernel_rfl)) (by unfold Func.isWrapper; first | (rw [if_pos (by decide +kernel)]; kernel_rfl) | (rw [if_neg (by decide +kernel)]; exact ⟨rfl, rfl⟩))
    (fun os started H enc _ => hbarrier_lifted os started H enc)

end Go.Proofs.Ytckcicomkapdeaa
