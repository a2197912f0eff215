/-
  What was written is read. Conditions: none.
-/
import Derived.Test.YtckcicomkapdeaaRAlive
import Derived.Test.YtckcicomkapdeaaROf
import Derived.Test.YtckcicomkapdeaaRFrame
import Derived.Test.YtckcicomkapdeaaHPlain2
import Derived.Test.YtckcicomkapdeaaBSame
namespace Go.Proofs.Ytckcicomkapdeaa
open Go.ChangeShapes Go.WideShapes Go.ChangeAt Go.RowKit
set_option linter.unusedVariables false

set_option maxHeartbeats 8000000 in
theorem hreads_walk (cs : List Value) (s : Host) (p : Int) (xa : Option Addr) (xn xc : Nat) (D : List UInt8) (q : Int) (W : World) (h0 : rHost.rd W (fun b => b < W.heap.size) cs s) (hp1 : -9223372036854775808 ≤ p) (hp2 : p ≤ 9223372036854775807) (h1 : rBytes.rd W (fun b => b < W.heap.size) [.slice xa xn xc] D) (hq1 : -9223372036854775808 ≤ q) (hq2 : q ≤ 9223372036854775807) :
    Calls Try.prog 4 #[.agg cs.toArray, .int .i64 p, .slice xa xn xc, .int .i64 q] W fun e W' => e = .returned (.bool true) ∧ Below W.heap.size W W' := by
  have h0' := h0
  obtain ⟨a, n, c, b, m, d, rfl, -⟩ := rHost_cells h0'
  clear h0'
  have HD0 : Hid _ := h1
  have HS0 : Hid _ := h0
  clear h0 h1
  obtain ⟨vs, hvs, -, -, -, bvs, zvs⟩ := boxed3 W 25 (.slice a n c) (.slice b m d) (.int .i64 s.2.2)
  have Vs : Hid (Var3 vs W.heap.size (.slice a n c) (.slice b m d) (.int .i64 s.2.2)) := by rw [← hvs]; exact var3_new _ _ _ _ _
  have HZs : Hid _ := zvs
  clear zvs
  by_cases hE : Hst.writeE s p D = 0
  · have HE : Hid _ := hE
    clear hE
    go_enter Try.func4, Try.ntmps4
    go_wp2_with fail
    refine (alive_u _).mono ?_
    rintro e w1 ⟨rfl, b1⟩
    have X1 : Hid _ := (Vs.out.below b1)
    have p10 := X1.out.c0
    have p11 := X1.out.c1
    have p12 := X1.out.c2
    go_wp2_with fail
    refine (of_u _ _ _ s (Rep.below HS0.out (on bvs b1))).mono ?_
    rintro e w2 ⟨cs2, rfl, hr2, b2⟩
    have HR2 : Hid _ := hr2
    clear hr2
    go_wp2_with fail
    refine (write_u _ (fun _ => True) _ _ p xa xn xc D hp1 hp2 (rHost.weaken HR2.out (fun _ _ _ => trivial)) (rBytes.weaken (Rep.below HD0.out (on (on bvs b1) b2)) (fun _ _ _ => trivial))).mono ?_
    rintro e w3 ⟨cs3, rfl, hr3, b3⟩
    rw [HE.out]
    have hr3' := hr3
    obtain ⟨a3, n3, c3, d3, m3, e3, rfl, hA3, hW3, hn3, hm3, -⟩ := rHost_cells hr3'
    clear hr3'
    obtain ⟨v3, hv3, -, -, -, bv3, zv3⟩ := boxed3 w3 30 (.slice a3 n3 c3) (.slice d3 m3 e3) (.int .i64 (Hst.writeS s p D).2.2)
    have V3 : Hid (Var3 v3 w3.heap.size (.slice a3 n3 c3) (.slice d3 m3 e3) (.int .i64 (Hst.writeS s p D).2.2)) := by rw [← hv3]; exact var3_new _ _ _ _ _
    have HZ3 : Hid _ := zv3
    clear zv3
    have HA3 : Hid _ := hA3
    clear hA3
    have HW3 : Hid _ := hW3
    clear hW3
    have HN3 : Hid _ := hn3
    clear hn3
    have HM3 : Hid _ := hm3
    clear hm3
    clear X1 p10 p11 p12
    go_wp2_with fail
    refine (num_u _ _).mono ?_
    rintro e w99 ⟨rfl, rfl⟩
    have HOK : Hid _ := Hst.ok_write HE.out
    have HRW : Hid _ := Hst.read_write HE.out
    have HRO : Hid _ := Hst.read_others (q := q) HE.out
    have X2 : Hid _ := V3.out
    have p20 := X2.out.c0
    have p21 := X2.out.c1
    have p22 := X2.out.c2
    go_wp2_with fail
    refine (flush_u _ _ _ _ (Rep.below hr3 bv3)).mono ?_
    rintro e w4 ⟨cs4, rfl, hr4, b4⟩
    rw [Hst.check_ok HOK.out]
    have hr4' := hr4
    obtain ⟨a4, n4, c4, d4, m4, e4, rfl, hA4, hW4, hn4, hm4, -⟩ := rHost_cells hr4'
    clear hr4'
    obtain ⟨v4, hv4, -, -, -, bv4, zv4⟩ := boxed3 w4 30 (.slice a4 n4 c4) (.slice d4 m4 e4) (.int .i64 (Hst.flushS (Hst.writeS s p D)).2.2)
    have V4 : Hid (Var3 v4 w4.heap.size (.slice a4 n4 c4) (.slice d4 m4 e4) (.int .i64 (Hst.flushS (Hst.writeS s p D)).2.2)) := by rw [← hv4]; exact var3_new _ _ _ _ _
    have HZ4 : Hid _ := zv4
    clear zv4
    have HA4 : Hid _ := hA4
    clear hA4
    have HW4 : Hid _ := hW4
    clear hW4
    have HN4 : Hid _ := hn4
    clear hn4
    have HM4 : Hid _ := hm4
    clear hm4
    clear X2 p20 p21 p22
    have X3 : Hid _ := (V3.out.below (on b4 bv4))
    have p30 := X3.out.c0
    have p31 := X3.out.c1
    have p32 := X3.out.c2
    have X4 : Hid _ := V4.out
    have p40 := X4.out.c0
    have p41 := X4.out.c1
    have p42 := X4.out.c2
    go_wp2_with fail
    refine (read_u _ _ _ _ p (Rep.below hr3 (on (on bv3 b4) bv4))).mono ?_
    rintro e w5 ⟨a5, n5, c5, rfl, hr5, b5⟩
    rw [HRW.out.1.1]
    rw [HRW.out.1.2] at hr5
    have HR5 : Hid _ := hr5
    clear hr5
    have X5 : Hid _ := (V4.out.below b5)
    have p50 := X5.out.c0
    have p51 := X5.out.c1
    have p52 := X5.out.c2
    go_wp2_with fail
    refine (read_u _ _ _ _ p (Rep.below hr4 (on bv4 b5))).mono ?_
    rintro e w6 ⟨a6, n6, c6, rfl, hr6, b6⟩
    rw [HRW.out.2.1]
    rw [HRW.out.2.2] at hr6
    have HR6 : Hid _ := hr6
    clear hr6
    go_wp2_with fail
    refine (num_u _ _).mono ?_
    rintro e w99 ⟨rfl, rfl⟩
    go_wp2_with fail
    refine (num_u _ _).mono ?_
    rintro e w99 ⟨rfl, rfl⟩
    go_wp2_with fail
    refine (num_u _ _).mono ?_
    rintro e w99 ⟨rfl, rfl⟩
    go_wp2_with fail
    refine (sameBytes_any _ a5 xa n5 c5 xn xc D D (rBytes_isB (Rep.below HR5.out b6)).1 (rBytes_isB (Rep.below HD0.out (on (on (on (on (on (on (on (on bvs b1) b2) b3) bv3) b4) bv4) b5) b6))).1).mono ?_
    rintro e w98 ⟨rfl, rfl⟩
    rw [beq_self_eq_true]
    go_wp2_with fail
    refine (sameBytes_any _ a6 xa n6 c6 xn xc D D (rBytes_isB HR6.out).1 (rBytes_isB (Rep.below HD0.out (on (on (on (on (on (on (on (on bvs b1) b2) b3) bv3) b4) bv4) b5) b6))).1).mono ?_
    rintro e w98 ⟨rfl, rfl⟩
    rw [beq_self_eq_true]
    have X6 : Hid _ := (Vs.out.below (on (on (on (on (on (on (on b1 b2) b3) bv3) b4) bv4) b5) b6))
    have p60 := X6.out.c0
    have p61 := X6.out.c1
    have p62 := X6.out.c2
    have X7 : Hid _ := (V4.out.below (on b5 b6))
    have p70 := X7.out.c0
    have p71 := X7.out.c1
    have p72 := X7.out.c2
    go_wp2_with fail
    refine (of_u _ _ _ s (Rep.below HS0.out (on (on (on (on (on (on (on (on bvs b1) b2) b3) bv3) b4) bv4) b5) b6))).mono ?_
    rintro e w7 ⟨cs7, rfl, hr7, b7⟩
    have X8 : Hid _ := (V4.out.below (on (on b5 b6) b7))
    have p80 := X8.out.c0
    have p81 := X8.out.c1
    have p82 := X8.out.c2
    go_wp2_with fail
    refine (read_u _ _ _ _ q hr7).mono ?_
    rintro e w8 ⟨a8, n8, c8, rfl, hr8, b8⟩
    have HR8 : Hid _ := hr8
    clear hr8
    have X9 : Hid _ := (V4.out.below (on (on (on b5 b6) b7) b8))
    have p90 := X9.out.c0
    have p91 := X9.out.c1
    have p92 := X9.out.c2
    go_wp2_with fail
    refine (read_u _ _ _ _ q (Rep.below hr4 (on (on (on (on bv4 b5) b6) b7) b8))).mono ?_
    rintro e w9 ⟨a9, n9, c9, rfl, hr9, b9⟩
    rw [HRO.out.1]
    have HR9 : Hid _ := hr9
    clear hr9
    have eE : (Hst.readE s q == Hst.readE s q) = true := beq_self_eq_true _
    by_cases hqp : q = p
    · have hb : (q == p) = true := beq_iff_eq.2 hqp
      clear hqp
      go_wp2
      go_ret
      exact ⟨rfl, (on (on (on (on (on (on (on (on (on (on (on bvs b1) b2) b3) bv3) b4) bv4) b5) b6) b7) b8) b9)⟩
    · have hb : (q == p) = false := beq_eq_false_iff_ne.2 hqp
      rw [HRO.out.2 hqp] at HR9
      clear hqp
      go_wp2_with fail
      refine (sameBytes_any _ a8 a9 n8 c8 n9 c9 _ _ (rBytes_isB (Rep.below HR8.out b9)).1 (rBytes_isB HR9.out).1).mono ?_
      rintro e w98 ⟨rfl, rfl⟩
      rw [beq_self_eq_true]
      go_wp2
      go_ret
      exact ⟨rfl, (on (on (on (on (on (on (on (on (on (on (on bvs b1) b2) b3) bv3) b4) bv4) b5) b6) b7) b8) b9)⟩
  · have HE : Hid _ := hE
    have hne : (Hst.writeE s p D != 0) = true := bne_iff_ne.2 hE
    have HN : Hid (Hst.writeS s p D = Hst.none) := by unfold Hid Hst.writeS; rw [if_neg hE]
    clear hE
    go_enter Try.func4, Try.ntmps4
    go_wp2_with fail
    refine (alive_u _).mono ?_
    rintro e w1 ⟨rfl, b1⟩
    have X1 : Hid _ := (Vs.out.below b1)
    have p10 := X1.out.c0
    have p11 := X1.out.c1
    have p12 := X1.out.c2
    go_wp2_with fail
    refine (of_u _ _ _ s (Rep.below HS0.out (on bvs b1))).mono ?_
    rintro e w2 ⟨cs2, rfl, hr2, b2⟩
    have HR2 : Hid _ := hr2
    clear hr2
    go_wp2_with fail
    refine (write_u _ (fun _ => True) _ _ p xa xn xc D hp1 hp2 (rHost.weaken HR2.out (fun _ _ _ => trivial)) (rBytes.weaken (Rep.below HD0.out (on (on bvs b1) b2)) (fun _ _ _ => trivial))).mono ?_
    rintro e w3 ⟨cs3, rfl, hr3, b3⟩
    have hr3' := hr3
    obtain ⟨a3, n3, c3, d3, m3, e3, rfl, hA3, hW3, hn3, hm3, -⟩ := rHost_cells hr3'
    clear hr3'
    obtain ⟨v3, hv3, -, -, -, bv3, zv3⟩ := boxed3 w3 30 (.slice a3 n3 c3) (.slice d3 m3 e3) (.int .i64 (Hst.writeS s p D).2.2)
    have V3 : Hid (Var3 v3 w3.heap.size (.slice a3 n3 c3) (.slice d3 m3 e3) (.int .i64 (Hst.writeS s p D).2.2)) := by rw [← hv3]; exact var3_new _ _ _ _ _
    have HZ3 : Hid _ := zv3
    clear zv3
    have HA3 : Hid _ := hA3
    clear hA3
    have HW3 : Hid _ := hW3
    clear hW3
    have HN3 : Hid _ := hn3
    clear hn3
    have HM3 : Hid _ := hm3
    clear hm3
    clear X1 p10 p11 p12
    rw [HN.out] at HN3 HM3
    obtain rfl : n3 = 0 := HN3.out.symm
    obtain rfl : m3 = 0 := HM3.out.symm
    go_wp2_with fail
    refine (num_u _ _).mono ?_
    rintro e w99 ⟨rfl, rfl⟩
    have X2 : Hid _ := V3.out
    have p20 := X2.out.c0
    have p21 := X2.out.c1
    have p22 := X2.out.c2
    go_wp2
    go_ret
    exact ⟨rfl, (on (on (on (on bvs b1) b2) b3) bv3)⟩

set_option maxRecDepth 100000 in
theorem hreads_lifted (os : Os) (started : os.Started) (H : Type) (enc : TypeId × Value → H) :
    ReturnsInHanded {} Try.checked os 4 .any (Rows.hostReadsSpec.pre6 enc Try.prog Try.f4 Rows.hostReadsRow.domain false) (Rows.hostReadsSpec.post enc Try.prog Try.f4 false true false false) := by
  refine returnsInHanded_of_change_sized (C := Try.checked) own started (by kernel_rfl) Try.func4
    (ChangeSpec.witness6 (enc := enc) (C := Try.checked) false ⟨#[], #[.agg #[.slice none 0 0, .slice none 0 0, .int .i64 0], .int .i64 0, .slice none 0 0, .int .i64 0], []⟩ 8 (by kernel_rfl) (by kernel_rfl) (by kernel_rfl) (by kernel_rfl)) ?_
  intro W base args ds gs before hval0 hW _ hsz0 _
  have hsz : (DataW.weightsEach Try.prog (Try.f4.params.toList ++ Rows.hostReadsSpec.plain.varTypes Try.prog) (ds ++ gs)).all (· ≤ reachBytes) = true := hsz0
  clear hsz0
  have hval : ∀ (j : Nat) t v, Try.f4.params[j]? = some t → args[j]? = some v → Value.okWide Try.prog W .any base t v := hval0
  have hW' := hW
  obtain ⟨p, q, hA0, hV, rfl, hfz, hnd⟩ := hW
  have hA : DataW.TrodAll enc Try.prog W 0 (fun _ => true) true Try.f4.params.toList args.toList ds p := hA0
  rw [Try.params4] at hA hval hsz
  obtain ⟨v0, vs0, d0, ds0, p0, q0, hargs, rfl, rfl, h0, r0⟩ := trodAll_cons hA
  obtain ⟨v1, vs1, d1, ds1, p1, q1, rfl, rfl, rfl, h1, r1⟩ := trodAll_cons r0
  obtain ⟨v2, vs2, d2, ds2, p2, q2, rfl, rfl, rfl, h2, r2⟩ := trodAll_cons r1
  obtain ⟨v3, vs3, d3, ds3, p3, q3, rfl, rfl, rfl, h3, r3⟩ := trodAll_cons r2
  obtain ⟨rfl, rfl, rfl⟩ := trodAll_nil r3
  obtain rfl : args = #[v0, v1, v2, v3] := by cases args; simp_all
  obtain ⟨rfl, rfl⟩ := trodVars_none hV
  obtain ⟨c0, rfl, -⟩ := okWide_struct Try.underlying25 (hval 0 25 v0 rfl rfl)
  have k0 := h0
  have lt0 : ∀ x ∈ p0, x.block < W.heap.size := by obtain ⟨m, hm⟩ := k0; exact DataW.trod_lt m _ _ _ hm
  obtain ⟨x0, hx0⟩ := opens_refHost.arg h0 hsz (j := 0) rfl rfl
  obtain ⟨a1, rfl, rfl, rfl, w1⟩ := open_int Try.underlying3 (hval 1 3 v1 rfl rfl) h1
  have i1 := bounds_i64 w1
  obtain ⟨a2, len2, cap2, rfl⟩ := okWide_slice Try.underlying26 (hval 2 26 v2 rfl rfl)
  have k2 := h2
  have lt2 : ∀ x ∈ p2, x.block < W.heap.size := by obtain ⟨m, hm⟩ := k2; exact DataW.trod_lt m _ _ _ hm
  obtain ⟨x2, hx2⟩ := opens_octets.arg h2 hsz (j := 2) rfl rfl
  obtain ⟨a3, rfl, rfl, rfl, w3⟩ := open_int Try.underlying3 (hval 3 3 v3 rfl rfl) h3
  have i3 := bounds_i64 w3
  clear hA0 hval0
  refine (hreads_walk c0.toList x0 a1 a2 len2 cap2 x2 a3 W hx0 (by omega) (by omega) hx2 (by omega) (by omega)).mono fun e W' ⟨he, bel⟩ => ?_
  subst he
  exact ⟨_, rfl, _, _, _, [], _, [], hW', trodAll_mk1 (shut_bool Try.underlying4 _), (trodAll_cons_mk (Below.trod laidOut (by kernel_rfl) (of_decide_eq_true (by kernel_rfl)) k0 bel lt0) (trodAll_cons_mk (shut_int Try.underlying3 w1) (trodAll_cons_mk (Below.trod laidOut (by kernel_rfl) (of_decide_eq_true (by kernel_rfl)) k2 bel lt2) (trodAll_cons_mk (shut_int Try.underlying3 w3) trodAll_mk0)))), rfl, bel.frame _, fun h => by cases h⟩

theorem hostReads_holds : Rows.HostReadsSaid :=
  OpenClaim.holds_of_wide 4 Try.f4 rfl rfl rfl rfl rfl rfl rfl ⟨rfl, rfl, rfl, rfl, rfl⟩ rfl rfl rfl rfl rfl (by kernel_rfl) Try.func4 (by kernel_rfl)
    (of_decide_eq_true (by kernel_rfl)) (by unfold Func.isWrapper; first | (rw [if_pos (by decide +kernel)]; kernel_rfl) | (rw [if_neg (by decide +kernel)]; exact ⟨rfl, rfl⟩))
    (fun os started H enc _ => hreads_lifted os started H enc)

end Go.Proofs.Ytckcicomkapdeaa
