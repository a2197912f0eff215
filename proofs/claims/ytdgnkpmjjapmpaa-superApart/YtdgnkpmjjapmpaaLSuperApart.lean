/-
  Two unlike superblocks that may be have unlike sectors. Conditions: none.
-/
import Derived.Test.YtdgnkpmjjapmpaaSAlive
import Derived.Test.YtdgnkpmjjapmpaaSFrame
import Derived.Test.YtdgnkpmjjapmpaaBSame
import Derived.Test.YtdgnkpmjjapmpaaSEq
import Derived.Deep.QuietTactic
import Derived.BigQuiet
namespace Go.Proofs.Ytdgnkpmjjapmpaa
open Go.ChangeShapes Go.WideShapes Go.ChangeAt Go.RowKit
set_option linter.unusedVariables false

theorem IsB.drewN {w : World} {a : Option Addr} {n : Nat} {l : List UInt8} (h : IsB w a n l) (k : Nat) : IsB (w.drewN k) a n l := h.below (below_drewN (Below.refl _ _) k)

theorem enc_inj {s t : Super} (hs : Sup.ok s = true) (ht : Sup.ok t = true) (h : Sup.enc s = Sup.enc t) : s = t := by
  rw [← (Sup.decode_enc hs).2, ← (Sup.decode_enc ht).2, h]

set_option maxHeartbeats 4000000 in
theorem sapart_walk (cs : List Value) (s : Super) (ct : List Value) (t : Super) (W : World) (h0 : rSuper.rd W (fun b => b < W.heap.size) cs s) (h1 : rSuper.rd W (fun b => b < W.heap.size) ct t) :
    Calls Try.prog 7 #[.agg cs.toArray, .agg ct.toArray] W fun e W' => e = .returned (.bool true) ∧ Below W.heap.size W W' := by
  have HS0 : Hid _ := h0
  have HT0 : Hid _ := h1
  obtain rfl := rSuper_cells h0
  obtain rfl := rSuper_cells h1
  clear h0 h1
  obtain ⟨w0, hw0, V0, b0, -⟩ := boxedRow W 23 [.int .i64 s.1, .int .i64 s.2.1, .int .i64 s.2.2.1, .int .i64 s.2.2.2.1, .int .i64 s.2.2.2.2.1, .int .i64 s.2.2.2.2.2.1, .int .i64 s.2.2.2.2.2.2]
  obtain ⟨w1, hw1, V1, b1, -⟩ := boxedRow w0 23 [.int .i64 t.1, .int .i64 t.2.1, .int .i64 t.2.2.1, .int .i64 t.2.2.2.1, .int .i64 t.2.2.2.2.1, .int .i64 t.2.2.2.2.2.1, .int .i64 t.2.2.2.2.2.2]
  have VS : Hid (Row _ _ _ _) := V0.below b1
  have VT : Hid (Row _ _ _ _) := V1
  have B1 : Hid (Below W.heap.size W w1) := on b0 b1
  clear V0 V1 b0 b1
  go_enter Try.func7, Try.ntmps7
  go_wp2_with fail
  refine (alive4_u _).mono ?_
  rintro e w2 ⟨rfl, b2⟩
  have S2 := VS.out.below b2
  have T2 := VT.out.below b2
  have cs0 := S2.cell (j := 0) rfl
  have cs1 := S2.cell (j := 1) rfl
  have cs2 := S2.cell (j := 2) rfl
  have cs3 := S2.cell (j := 3) rfl
  have cs4 := S2.cell (j := 4) rfl
  have cs5 := S2.cell (j := 5) rfl
  have cs6 := S2.cell (j := 6) rfl
  have ct0 := T2.cell (j := 0) rfl
  have ct1 := T2.cell (j := 1) rfl
  have ct2 := T2.cell (j := 2) rfl
  have ct3 := T2.cell (j := 3) rfl
  have ct4 := T2.cell (j := 4) rfl
  have ct5 := T2.cell (j := 5) rfl
  have ct6 := T2.cell (j := 6) rfl
  have VS2 : Hid (Row _ _ _ _) := S2
  have VT2 : Hid (Row _ _ _ _) := T2
  have B2 : Hid (Below W.heap.size W w2) := on B1.out b2
  clear S2 T2 b2 VS VT B1 hw0 hw1
  go_wp2_with fail
  cases hs : Sup.ok s
  · refine (encode_no _ _ _ s (Rep.below HS0.out B2.out) hs).mono ?_
    rintro e w3 ⟨rfl, b3⟩
    have B3 : Hid (Below W.heap.size W w3) := on B2.out b3
    have T3 := VT2.out.below b3
    clear cs0 cs1 cs2 cs3 cs4 cs5 cs6
    clear ct0 ct1 ct2 ct3 ct4 ct5 ct6
    have ct0 := T3.cell (j := 0) rfl
    have ct1 := T3.cell (j := 1) rfl
    have ct2 := T3.cell (j := 2) rfl
    have ct3 := T3.cell (j := 3) rfl
    have ct4 := T3.cell (j := 4) rfl
    have ct5 := T3.cell (j := 5) rfl
    have ct6 := T3.cell (j := 6) rfl
    clear T3 b3 B2 VS2 VT2
    go_wp2_with fail
    refine (encode_u _ _ _ t (Rep.below HT0.out B3.out)).mono ?_
    rintro e w4 ⟨ya, yn, yc, rfl, ho4, b4⟩
    have B4 : Hid (Below W.heap.size W w4) := on B3.out b4
    clear ho4 b4 B3
    go_wp2
    go_ret
    exact ⟨rfl, B4.out⟩
  · refine (encode_ok _ _ _ s (Rep.below HS0.out B2.out) hs).mono ?_
    rintro e w3 ⟨xa, xc, rfl, ho3, b3⟩
    have B3 : Hid (Below W.heap.size W w3) := on B2.out b3
    have S3 := VS2.out.below b3
    have T3 := VT2.out.below b3
    obtain ⟨hX, -, -⟩ := owns_isB ho3
    have HX : Hid (IsB _ _ _ _) := hX
    have HOKs : Hid _ := hs
    clear cs0 cs1 cs2 cs3 cs4 cs5 cs6
    clear ct0 ct1 ct2 ct3 ct4 ct5 ct6
    have cs0 := S3.cell (j := 0) rfl
    have cs1 := S3.cell (j := 1) rfl
    have cs2 := S3.cell (j := 2) rfl
    have cs3 := S3.cell (j := 3) rfl
    have cs4 := S3.cell (j := 4) rfl
    have cs5 := S3.cell (j := 5) rfl
    have cs6 := S3.cell (j := 6) rfl
    have ct0 := T3.cell (j := 0) rfl
    have ct1 := T3.cell (j := 1) rfl
    have ct2 := T3.cell (j := 2) rfl
    have ct3 := T3.cell (j := 3) rfl
    have ct4 := T3.cell (j := 4) rfl
    have ct5 := T3.cell (j := 5) rfl
    have ct6 := T3.cell (j := 6) rfl
    have VS3 : Hid (Row _ _ _ _) := S3
    have VT3 : Hid (Row _ _ _ _) := T3
    clear hX ho3 S3 T3 b3 B2 VS2 VT2 hs
    go_wp2_with fail
    cases ht : Sup.ok t
    · refine (encode_no _ _ _ t (Rep.below HT0.out B3.out) ht).mono ?_
      rintro e w4 ⟨rfl, b4⟩
      have B4 : Hid (Below W.heap.size W w4) := on B3.out b4
      clear b4 B3 VS3 VT3
      go_wp2
      go_ret
      exact ⟨rfl, B4.out⟩
    · refine (encode_ok _ _ _ t (Rep.below HT0.out B3.out) ht).mono ?_
      rintro e w4 ⟨ya, yc, rfl, ho4, b4⟩
      have B4 : Hid (Below W.heap.size W w4) := on B3.out b4
      have S4 := VS3.out.below b4
      have T4 := VT3.out.below b4
      have HX4 : Hid (IsB _ _ _ _) := HX.out.below b4
      obtain ⟨hY, -, -⟩ := owns_isB ho4
      have HY : Hid (IsB _ _ _ _) := hY
      have HOKt : Hid _ := ht
      clear cs0 cs1 cs2 cs3 cs4 cs5 cs6
      clear ct0 ct1 ct2 ct3 ct4 ct5 ct6
      have cs0 := S4.cell (j := 0) rfl
      have cs1 := S4.cell (j := 1) rfl
      have cs2 := S4.cell (j := 2) rfl
      have cs3 := S4.cell (j := 3) rfl
      have cs4 := S4.cell (j := 4) rfl
      have cs5 := S4.cell (j := 5) rfl
      have cs6 := S4.cell (j := 6) rfl
      have ct0 := T4.cell (j := 0) rfl
      have ct1 := T4.cell (j := 1) rfl
      have ct2 := T4.cell (j := 2) rfl
      have ct3 := T4.cell (j := 3) rfl
      have ct4 := T4.cell (j := 4) rfl
      have ct5 := T4.cell (j := 5) rfl
      have ct6 := T4.cell (j := 6) rfl
      clear hY ho4 S4 T4 b4 B3 VS3 VT3 ht HX
      have hq : ∀ w, (Op.equalIn 10000 23 (.agg #[.int .i64 s.1, .int .i64 s.2.1, .int .i64 s.2.2.1, .int .i64 s.2.2.2.1, .int .i64 s.2.2.2.2.1, .int .i64 s.2.2.2.2.2.1, .int .i64 s.2.2.2.2.2.2]) (.agg #[.int .i64 t.1, .int .i64 t.2.1, .int .i64 t.2.2.1, .int .i64 t.2.2.2.1, .int .i64 t.2.2.2.2.1, .int .i64 t.2.2.2.2.2.1, .int .i64 t.2.2.2.2.2.2])).run Try.prog w = .ok (decide (s = t)) w := fun w => equal_ref w s t
      have hEQ : Hid ((Sup.enc s == Sup.enc t) = decide (s = t)) := by
        unfold Hid
        rw [Bool.eq_iff_iff, beq_iff_eq, decide_eq_true_eq]
        exact ⟨enc_inj HOKs.out HOKt.out, fun h => by rw [h]⟩
      go_wp2_with (go_at_call 17; refine (num4_u _ _).mono ?_; rintro e w5 ⟨rfl, rfl⟩)
      go_quiet ((go_at_call 16; refine Calls.quiet_of_same ((sameBytes_any _ xa ya 64 xc 64 yc _ _ (HX4.out.drewN _) (HY.out.drewN _)).mono fun e w' h => ⟨h.1, h.2.symm⟩)))
      go_wp2
      go_ret
      refine ⟨?_, below_drewN B4.out _⟩
      show Ending.returned (.bool ((Sup.enc s == Sup.enc t) == decide (s = t))) = _
      rw [hEQ.out, beq_self_eq_true]

set_option maxRecDepth 100000 in
theorem sapart_lifted (os : Os) (started : os.Started) (H : Type) (enc : TypeId × Value → H) :
    ReturnsInHanded {} Try.checked os 7 .any (Rows.superApartSpec.pre6 enc Try.prog Try.f7 Rows.superApartRow.domain false) (Rows.superApartSpec.post enc Try.prog Try.f7 false true false false) := by
  refine returnsInHanded_of_change_sized (C := Try.checked) own started (by kernel_rfl) Try.func7
    (ChangeSpec.witness6 (enc := enc) (C := Try.checked) false ⟨#[], #[.agg #[.int .i64 0, .int .i64 0, .int .i64 0, .int .i64 0, .int .i64 0, .int .i64 0, .int .i64 0], .agg #[.int .i64 0, .int .i64 0, .int .i64 0, .int .i64 0, .int .i64 0, .int .i64 0, .int .i64 0]], []⟩ 8 (by kernel_rfl) (by kernel_rfl) (by kernel_rfl) (by kernel_rfl)) ?_
  intro W base args ds gs before hval0 hW _ hsz0 _
  have hsz : (DataW.weightsEach Try.prog (Try.f7.params.toList ++ Rows.superApartSpec.plain.varTypes Try.prog) (ds ++ gs)).all (· ≤ reachBytes) = true := hsz0
  clear hsz0
  have hval : ∀ (j : Nat) t v, Try.f7.params[j]? = some t → args[j]? = some v → Value.okWide Try.prog W .any base t v := hval0
  have hW' := hW
  obtain ⟨p, q, hA0, hV, rfl, hfz, hnd⟩ := hW
  have hA : DataW.TrodAll enc Try.prog W 0 (fun _ => true) true Try.f7.params.toList args.toList ds p := hA0
  rw [Try.params7] at hA hval hsz
  obtain ⟨v0, vs0, d0, ds0, p0, q0, hargs, rfl, rfl, h0, r0⟩ := trodAll_cons hA
  obtain ⟨v1, vs1, d1, ds1, p1, q1, rfl, rfl, rfl, h1, r1⟩ := trodAll_cons r0
  obtain ⟨rfl, rfl, rfl⟩ := trodAll_nil r1
  obtain rfl : args = #[v0, v1] := by cases args; simp_all
  obtain ⟨rfl, rfl⟩ := trodVars_none hV
  obtain ⟨c0, rfl, -⟩ := okWide_struct Try.underlying23 (hval 0 23 v0 rfl rfl)
  have k0 := h0
  have lt0 : ∀ x ∈ p0, x.block < W.heap.size := by obtain ⟨m, hm⟩ := k0; exact DataW.trod_lt m _ _ _ hm
  obtain ⟨x0, hx0⟩ := opens_super.arg h0 hsz (j := 0) rfl rfl
  obtain ⟨c1, rfl, -⟩ := okWide_struct Try.underlying23 (hval 1 23 v1 rfl rfl)
  have k1 := h1
  have lt1 : ∀ x ∈ p1, x.block < W.heap.size := by obtain ⟨m, hm⟩ := k1; exact DataW.trod_lt m _ _ _ hm
  obtain ⟨x1, hx1⟩ := opens_super.arg h1 hsz (j := 1) rfl rfl
  clear hA0 hval0
  refine (sapart_walk c0.toList x0 c1.toList x1 W hx0 hx1).mono fun e W' ⟨he, bel⟩ => ?_
  subst he
  exact ⟨_, rfl, _, _, _, [], _, [], hW', trodAll_mk1 (shut_bool Try.underlying4 _), (trodAll_cons_mk (Below.trod laidOut (by kernel_rfl) (of_decide_eq_true (by kernel_rfl)) k0 bel lt0) (trodAll_cons_mk (Below.trod laidOut (by kernel_rfl) (of_decide_eq_true (by kernel_rfl)) k1 bel lt1) trodAll_mk0)), rfl, bel.frame _, fun h => by cases h⟩

theorem superApart_holds : Rows.SuperApartSaid :=
  OpenClaim.holds_of_wide 7 Try.f7 rfl rfl rfl rfl rfl rfl rfl ⟨rfl, rfl, rfl, rfl, rfl⟩ rfl rfl rfl rfl rfl (by kernel_rfl) Try.func7 (by kernel_rfl)
    (of_decide_eq_true (by kernel_rfl)) (by unfold Func.isWrapper; first | (rw [if_pos (by decide +kernel)]; kernel_rfl) | (rw [if_neg (by decide +kernel)]; exact ⟨rfl, rfl⟩))
    (fun os started H enc _ => sapart_lifted os started H enc)

end Go.Proofs.Ytdgnkpmjjapmpaa
