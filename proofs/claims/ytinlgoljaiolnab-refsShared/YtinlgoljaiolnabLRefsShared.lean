/-
  The same map under two owners shares all, and counts twice what one counts: at whatever extents and sectors. Conditions: none.
-/
import Derived.Test.YtinlgoljaiolnabNBox
import Derived.Test.YtinlgoljaiolnabNShr
import Derived.Test.YtinlgoljaiolnabNShrL
namespace Go.Proofs.Ytinlgoljaiolnab
open Go.ChangeShapes Go.WideShapes Go.ChangeAt Go.RowKit
set_option linter.unusedVariables false

theorem one_map {w : World} {P : Nat → Prop} {b : Nat} {o1 : Int} {v1 : Value} {l1 : List Ext} (hP : P b) (h1 : In64 o1) (r1 : rExts.rd w P [v1] l1)
    (c0 : w.cell? ⟨b, 0, none⟩ = some (.int .i64 o1)) (c1 : w.cell? ⟨b, 1, none⟩ = some v1) : rMps.rd w P [.slice (some ⟨b, 0, none⟩) 1 1] [(o1, l1)] := by
  refine ⟨_, _, _, rfl, rfl, Nat.le_refl _, (fun e => by cases e), by decide, fun y hy j hj => ?_⟩
  cases hy
  match j, hj with
  | 0, _ =>
    refine ⟨hP, [.int .i64 o1, v1], ⟨[.int .i64 o1], [v1], rfl, ⟨rfl, h1⟩, r1⟩, fun k v hv => ?_⟩
    rw [Addr.add_lit]
    match k, hv with
    | 0, hv => simp at hv; subst hv; simpa using c0
    | 1, hv => simp at hv; subst hv; simpa using c1

set_option maxRecDepth 20000 in
set_option maxHeartbeats 8000000 in
theorem lshared_walk (a : Option Addr) (n c : Nat) (l : List Ext) (cs : List Value) (x : Spn) (W : World) (h0 : rExts.rd W (fun b => b < W.heap.size) [.slice a n c] l) (h1 : rSpn.rd W (fun b => b < W.heap.size) cs x) :
    Calls Try.prog 3 #[.slice a n c, .agg cs.toArray] W fun e W' => e = .returned (.bool true) ∧ Below W.heap.size W W' := by
  have HLW : Hid (rExts.rd W (fun _ => True) [.slice a n c] l) := rExts.weaken h0 (fun _ _ _ => trivial)
  obtain ⟨rfl, hx2⟩ := rSpn_rd.1 h1
  obtain ⟨w0, hw0, V0, b0, z0⟩ := boxedRow W 24 [.int .i64 x.1, .int .i64 x.2]
  have HV0 : Hid (Row w0 W.heap.size 24 [.int .i64 x.1, .int .i64 x.2]) := V0
  have B0 : Hid (Below W.heap.size W w0) := b0
  have HX : Hid (In2 x) := hx2
  rw [show (spn2 x).toArray = #[.int .i64 x.1, .int .i64 x.2] from rfl]
  clear V0 b0 z0 h1 hx2 h0
  go_enter Try.func3, Try.ntmps3
  go_wp2_with fail
  refine (alive9_u _).mono ?_
  rintro e w1 ⟨rfl, b1⟩
  have HV1 : Hid (Row w1 W.heap.size 24 [.int .i64 x.1, .int .i64 x.2]) := HV0.out.below b1
  have B1 : Hid (Below W.heap.size W w1) := on B0.out b1
  clear b1 HV0 hw0
  obtain ⟨w2, hw2, V2, b2, z2⟩ := boxedRow w1 31 [.int .i64 3, .slice a n c]
  have B2 : Hid (Below W.heap.size W w2) := on B1.out b2
  have HM2 : Hid (rMps.rd w2 (fun _ => True) [.slice (some ⟨w1.heap.size, 0, none⟩) 1 1] (Rf.m1 l)) := one_map trivial (by unfold In64; decide) (Rep.below HLW.out B2.out) (V2.cell (j := 0) rfl) (V2.cell (j := 1) rfl)
  have N2 : Hid (Below w1.heap.size w1 w2) := b2
  clear V2 b2 z2
  go_wp2_with fail
  refine (refsCounts_u _ _ _ _ _ (Rf.m1 l) HM2.out).mono ?_
  rintro e w3 ⟨v3, rfl, ho3, b3⟩
  obtain ⟨a3, c3, rfl, -, -⟩ := ho3.slice
  have HO3 : Hid (OwnE 35 w3 w2.heap.size _ _) := ho3
  have B3 : Hid (Below W.heap.size W w3) := on B2.out b3
  have N3 : Hid (Below w2.heap.size w2 w3) := b3
  clear ho3 b3 hw2
  obtain ⟨w4, hw4, V4, b4, z4⟩ := boxedRow w3 31 [.int .i64 3, .slice a n c, .int .i64 4, .slice a n c]
  have B4 : Hid (Below W.heap.size W w4) := on B3.out b4
  have HM4 : Hid (rMps.rd w4 (fun _ => True) [.slice (some ⟨w3.heap.size, 0, none⟩) 2 2] (Rf.m2 l)) := two_maps trivial (by unfold In64; decide) (by unfold In64; decide) (Rep.below HLW.out B4.out) (Rep.below HLW.out B4.out) V4.four.1 V4.four.2.1 V4.four.2.2.1 V4.four.2.2.2
  have N4 : Hid (Below w3.heap.size w3 w4) := b4
  clear V4 b4 z4
  go_wp2_with fail
  refine (refsCounts_u _ _ _ _ _ (Rf.m2 l) HM4.out).mono ?_
  rintro e w5 ⟨v5, rfl, ho5, b5⟩
  obtain ⟨a5, c5, rfl, -, -⟩ := ho5.slice
  have HO5 : Hid (OwnE 35 w5 w4.heap.size _ _) := ho5
  have B5 : Hid (Below W.heap.size W w5) := on B4.out b5
  have N5 : Hid (Below w4.heap.size w4 w5) := b5
  clear ho5 b5 hw4
  have HV5 : Hid (Row w5 W.heap.size 24 [.int .i64 x.1, .int .i64 x.2]) := (((HV1.out.below N2.out).below N3.out).below N4.out).below N5.out
  have e12 : Rf.whoE allS (Rf.m2 l) = Rf.whoE allS (Rf.m1 l) := by unfold Rf.whoE; rw [Rf.check_two]
  by_cases hE : Rf.whoE allS (Rf.m1 l) = 0
  · have hC := (Rf.whoE_zero.1 hE).1
    have HC : Hid (Rf.checkM (Rf.m1 l) = 0) := hC
    have hlow := Rf.who_low (x := allS) hC
    have hfew := Rf.who_few (x := allS) hC
    have HCin : Hid (∀ y ∈ Rf.countsD (Rf.whoR allS (Rf.m1 l)), Rf.Cin y) := Rf.counts_in hlow hfew
    have hcf := Rf.counts_few hlow hfew
    have HO3' : Hid (OwnE 35 w5 w2.heap.size (.slice a3 (Rf.cntL allS (Rf.m1 l)).length c3) (Rf.cntL allS (Rf.m1 l))) := (HO3.out.below N4.out).below N5.out
    have hE2 : Rf.whoE allS (Rf.m2 l) = 0 := e12.trans hE
    have htw : Rf.countsD (Rf.whoR allS (Rf.m2 l)) = (Rf.countsD (Rf.whoR allS (Rf.m1 l))).map Rf.dbl := Rf.counts_two hC
    rw [Rf.cntL_ok hE] at HO3' ⊢
    rw [Rf.cntL_ok hE2, htw] at HO5 ⊢
    rw [hE, hE2]
    generalize hCC : Rf.countsD (Rf.whoR allS (Rf.m1 l)) = C at *
    obtain ⟨m, hm⟩ : ∃ m, m = C.length := ⟨_, rfl⟩
    have HML : Hid (C.length = m) := hm.symm
    rw [List.length_map] at HO5 ⊢
    rw [← hm] at HO3' HO5 hcf ⊢
    have HR3 : Hid (rExts.rd w5 (fun b => w2.heap.size ≤ b) [.slice a3 m c3] C) := HO3'.out.rd (by rw [HML.out]; omega)
    have HR5 : Hid (rExts.rd w5 (fun b => w4.heap.size ≤ b) [.slice a5 m c5] (C.map Rf.dbl)) := HO5.out.rd (by rw [List.length_map, HML.out]; omega)
    clear hE hE2 hC hlow hfew htw hCC hm HO3 HO5 HO3' e12 HM2 HM4 HV1 N2 N3 N4 N5
    go_wp2_with (go_at_call 6; refine (num9_u _ _).mono ?_; rintro e w99 ⟨rfl, rfl⟩)
    go_loopw [9] (fun i wr => ∃ k : Nat, k ≤ m ∧ i = .int .i64 k ∧ Below w5.heap.size w5 wr) (fun i _ => m - (intOf i).toNat)
    case atStart => exact ⟨0, Nat.zero_le _, rfl, Below.refl _ _⟩
    case round =>
      obtain ⟨k, hk, rfl, bel⟩ := hrel
      by_cases hlt : k < m
      · have hkl : k < C.length := by rw [HML.out]; exact hlt
        obtain ⟨g, off, rfl, -, hgl, hat⟩ := rExts_at (Rep.below HR3.out bel) (by omega)
        obtain ⟨c0, c1, c2, -⟩ := hat k hkl
        obtain ⟨h, hoff, rfl, -, hhl, hat2⟩ := rExts_at (Rep.below HR5.out bel) (by omega)
        obtain ⟨d0, d1, d2, -⟩ := hat2 k (by rw [List.length_map]; exact hkl)
        have hin := HCin.out C[k] (List.getElem_mem hkl)
        rw [List.getElem_map] at d0 d1 d2
        obtain ⟨y, hX⟩ : ∃ y, y = C[k] := ⟨_, rfl⟩
        rw [← hX] at c0 c1 c2 d0 d1 d2 hin
        change _ = some (Value.int .i64 y.1) at d0
        change _ = some (Value.int .i64 y.2.1) at d1
        change _ = some (Value.int .i64 (2 * y.2.2)) at d2
        unfold Rf.Cin at hin
        obtain ⟨m1, m2, m3, m4, m5⟩ := hin
        have hkz : (k : Int) < (m : Int) := by omega
        have ew : IntKind.i64.wrap (2 * y.2.2) = 2 * y.2.2 := by rw [IntKind.wrap_i64]; omega
        have HB : Hid (Below w5.heap.size w5 wr) := bel
        clear hX hat hat2 bel hgl hhl
        go_wp2_with fail
        go_quiet (fail)
        go_wp2
        go_roundw
        case rel => exact ⟨k + 1, by omega, by go_num, same_drewN HB.out _⟩
        case measure => simp [intOf]; omega
      · obtain rfl : m = k := by omega
        have b6 := bel
        obtain ⟨w6, hs6⟩ : ∃ w6, w6 = wr := ⟨_, rfl⟩
        rw [← hs6] at bel b6 ⊢
        have B6 : Hid (Below W.heap.size W w6) := on B5.out bel
        have HV6 : Hid (Row w6 W.heap.size 24 [.int .i64 x.1, .int .i64 x.2]) := HV5.out.below bel
        clear hs6 bel b6 HV5 HR3 HR5
        obtain ⟨s0, s1⟩ := HV6.out.two9
        obtain ⟨w7, hw7, V7, b7, z7⟩ := boxedRow w6 31 [.int .i64 3, .slice a n c]
        have B7 : Hid (Below W.heap.size W w7) := on B6.out b7
        have HM7 : Hid (rMps.rd w7 (fun _ => True) [.slice (some ⟨w6.heap.size, 0, none⟩) 1 1] (Rf.m1 l)) := one_map trivial (by unfold In64; decide) (Rep.below HLW.out B7.out) (V7.cell (j := 0) rfl) (V7.cell (j := 1) rfl)
        have N7 : Hid (Below w6.heap.size w6 w7) := b7
        clear V7 b7 z7
        have HV7 : Hid (Row w7 W.heap.size 24 [.int .i64 x.1, .int .i64 x.2]) := HV6.out.below N7.out
        obtain ⟨t0, t1⟩ := HV7.out.two9
        go_wp2_with fail
        refine (refsWho_u _ _ _ _ _ (Rf.m1 l) HM7.out x HX.out).mono ?_
        rintro e w8 ⟨v8, rfl, ho8, b8⟩
        obtain ⟨a8, c8, rfl, -, -⟩ := ho8.slice
        have HO8 : Hid (OwnR 57 w8 w7.heap.size _ _) := ho8
        have B8 : Hid (Below W.heap.size W w8) := on B7.out b8
        have N8 : Hid (Below w7.heap.size w7 w8) := b8
        clear ho8 b8 hw7
        obtain ⟨w9, hw9, V9, b9, z9⟩ := boxedRow w8 31 [.int .i64 3, .slice a n c, .int .i64 4, .slice a n c]
        have B9 : Hid (Below W.heap.size W w9) := on B8.out b9
        have HM9 : Hid (rMps.rd w9 (fun _ => True) [.slice (some ⟨w8.heap.size, 0, none⟩) 2 2] (Rf.m2 l)) := two_maps trivial (by unfold In64; decide) (by unfold In64; decide) (Rep.below HLW.out B9.out) (Rep.below HLW.out B9.out) V9.four.1 V9.four.2.1 V9.four.2.2.1 V9.four.2.2.2
        have N9 : Hid (Below w8.heap.size w8 w9) := b9
        clear V9 b9 z9
        have HV9 : Hid (Row w9 W.heap.size 24 [.int .i64 x.1, .int .i64 x.2]) := (HV7.out.below N8.out).below N9.out
        obtain ⟨u0, u1⟩ := HV9.out.two9
        clear s0 s1 t0 t1
        go_wp2_with fail
        refine (refsShared_u _ _ _ _ _ (Rf.m2 l) HM9.out x HX.out).mono ?_
        rintro e w10 ⟨rfl, b10⟩
        have B10 : Hid (Below W.heap.size W w10) := on B9.out b10
        clear b10 u0 u1 hw9
        have f12 : Rf.whoE x (Rf.m2 l) = Rf.whoE x (Rf.m1 l) := by unfold Rf.whoE; rw [Rf.check_two]
        by_cases hF : Rf.whoE x (Rf.m1 l) = 0
        · rw [Rf.shrL_ok (f12.trans hF), Rf.whoL_ok hF, f12, hF, Rf.many_two HC.out]
          generalize (Rf.whoR x (Rf.m1 l)).length = q
          clear hF f12
          cases q with
          | zero =>
            go_wp2_with (go_at_call 6; refine (num9_u _ _).mono ?_; rintro e w99 ⟨rfl, rfl⟩)
            go_ret
            exact ⟨by simp, B10.out⟩
          | succ q =>
            have hd : decide (0 < q + 1) = true := decide_eq_true (Nat.succ_pos _)
            have hz : (0 : Int) < (q : Int) + 1 := by omega
            have hz2 : (0 : Int) < ((q + 1 : Nat) : Int) := by omega
            rw [hd]
            go_wp2_with (go_at_call 6; refine (num9_u _ _).mono ?_; rintro e w99 ⟨rfl, rfl⟩)
            go_ret
            exact ⟨by simp, B10.out⟩
        · obtain ⟨E, hEE⟩ : ∃ E, Rf.whoE x (Rf.m1 l) = E := ⟨_, rfl⟩
          rw [f12, hEE]
          rw [hEE] at hF
          have hF0 : (E == 0) = false := beq_eq_false_iff_ne.2 hF
          clear hEE f12
          go_wp2_with (go_at_call 6; refine (num9_u _ _).mono ?_; rintro e w99 ⟨rfl, rfl⟩)
          go_ret
          exact ⟨by simp, B10.out⟩
  · have e9 : Rf.whoE allS (Rf.m1 l) = 9 := Rf.whoE_nine (fun e => hE (Rf.whoE_zero.2 ⟨e, by decide, by decide⟩))
    rw [Rf.cntL_no hE, Rf.cntL_no (by rw [e12]; exact hE), e12, e9]
    clear hE e9 e12 HO3 HO5
    go_wp2_with (go_at_call 6; refine (num9_u _ _).mono ?_; rintro e w99 ⟨rfl, rfl⟩)
    go_ret
    exact ⟨rfl, B5.out⟩

set_option maxRecDepth 100000 in
theorem lshared_lifted (os : Os) (started : os.Started) (H : Type) (enc : TypeId × Value → H) :
    ReturnsInHanded {} Try.checked os 3 .any (Rows.refsSharedSpec.pre6 enc Try.prog Try.f3 Rows.refsSharedRow.domain false) (Rows.refsSharedSpec.post enc Try.prog Try.f3 false true false false) := by
  refine returnsInHanded_of_change_sized (C := Try.checked) own started (by kernel_rfl) Try.func3
    (ChangeSpec.witness6 (enc := enc) (C := Try.checked) false ⟨#[], #[.slice none 0 0, .agg #[.int .i64 0, .int .i64 0]], []⟩ 8 (by kernel_rfl) (by kernel_rfl) (by kernel_rfl) (by kernel_rfl)) ?_
  intro W base args ds gs before hval0 hW _ hsz0 _
  have hsz : (DataW.weightsEach Try.prog (Try.f3.params.toList ++ Rows.refsSharedSpec.plain.varTypes Try.prog) (ds ++ gs)).all (· ≤ reachBytes) = true := hsz0
  clear hsz0
  have hval : ∀ (j : Nat) t v, Try.f3.params[j]? = some t → args[j]? = some v → Value.okWide Try.prog W .any base t v := hval0
  have hW' := hW
  obtain ⟨p, q, hA0, hV, rfl, hfz, hnd⟩ := hW
  have hA : DataW.TrodAll enc Try.prog W 0 (fun _ => true) true Try.f3.params.toList args.toList ds p := hA0
  rw [Try.params3] at hA hval hsz
  obtain ⟨v0, vs0, d0, ds0, p0, q0, hargs, rfl, rfl, h0, r0⟩ := trodAll_cons hA
  obtain ⟨v1, vs1, d1, ds1, p1, q1, rfl, rfl, rfl, h1, r1⟩ := trodAll_cons r0
  obtain ⟨rfl, rfl, rfl⟩ := trodAll_nil r1
  obtain rfl : args = #[v0, v1] := by cases args; simp_all
  obtain ⟨rfl, rfl⟩ := trodVars_none hV
  obtain ⟨a0, len0, cap0, rfl⟩ := okWide_slice Try.underlying22 (hval 0 22 v0 rfl rfl)
  have k0 := h0
  have lt0 : ∀ x ∈ p0, x.block < W.heap.size := by obtain ⟨m, hm⟩ := k0; exact DataW.trod_lt m _ _ _ hm
  obtain ⟨x0, hx0⟩ := opens_exts.arg h0 hsz (j := 0) rfl rfl
  obtain ⟨c1, rfl, -⟩ := okWide_struct Try.underlying24 (hval 1 24 v1 rfl rfl)
  have k1 := h1
  have lt1 : ∀ x ∈ p1, x.block < W.heap.size := by obtain ⟨m, hm⟩ := k1; exact DataW.trod_lt m _ _ _ hm
  obtain ⟨x1, hx1⟩ := opens_span.arg h1 hsz (j := 1) rfl rfl
  clear hA0 hval0
  refine (lshared_walk a0 len0 cap0 x0 c1.toList x1 W hx0 hx1).mono fun e W' ⟨he, bel⟩ => ?_
  subst he
  exact ⟨_, rfl, _, _, _, [], _, [], hW', trodAll_mk1 (shut_bool Try.underlying4 _), (trodAll_cons_mk (Below.trod laidOut (by kernel_rfl) (of_decide_eq_true (by kernel_rfl)) k0 bel lt0) (trodAll_cons_mk (Below.trod laidOut (by kernel_rfl) (of_decide_eq_true (by kernel_rfl)) k1 bel lt1) trodAll_mk0)), rfl, bel.frame _, fun h => by cases h⟩

theorem refsShared_holds : Rows.RefsSharedSaid :=
  OpenClaim.holds_of_wide 3 Try.f3 rfl rfl rfl rfl rfl rfl rfl ⟨rfl, rfl, rfl, rfl, rfl⟩ rfl rfl rfl rfl rfl (by kernel_rfl) Try.func3 (by kernel_rfl)
    (of_decide_eq_true (by kernel_rfl)) (by unfold Func.isWrapper; first | (rw [if_pos (by decide +kernel)]; kernel_rfl) | (rw [if_neg (by decide +kernel)]; exact ⟨rfl, rfl⟩))
    (fun os started H enc _ => lshared_lifted os started H enc)

end Go.Proofs.Ytinlgoljaiolnab
