/-
  Where all stand is as the page says; one behind the other, of a superblock that may be. Conditions: none.
-/
import Derived.Test.YtdgnkpmjjapmpaaSAlive
import Derived.Test.YtdgnkpmjjapmpaaSFrame
import Derived.Test.YtdgnkpmjjapmpaaSPlaces
import Derived.Test.YtdgnkpmjjapmpaaRSPlaces
namespace Go.Proofs.Ytdgnkpmjjapmpaa
open Go.ChangeShapes Go.WideShapes Go.ChangeAt Go.RowKit
set_option linter.unusedVariables false

theorem Sup.places_ok {s : Super} (h : Sup.ok s = true) : Sup.atPages s = 2 + s.2.2.1 ∧ Sup.atData s = 2 + s.2.2.1 + s.2.2.2.1 ∧ Sup.allOf s = 2 + s.2.2.1 + s.2.2.2.1 + s.2.2.2.2.1 := by
  obtain ⟨⟨a1, a2⟩, ⟨b1, b2⟩, ⟨c1, c2⟩, ⟨d1, d2⟩, ⟨e1, e2⟩, ⟨f1, f2⟩, g1, g2⟩ := Sup.ok_iff.1 h
  have h1 : Sup.atPages s = 2 + s.2.2.1 := by unfold Sup.atPages wrap64; omega
  have h2 : Sup.atData s = 2 + s.2.2.1 + s.2.2.2.1 := by unfold Sup.atData; rw [h1]; unfold wrap64; omega
  exact ⟨h1, h2, by unfold Sup.allOf; rw [h2]; unfold wrap64; omega⟩

set_option maxHeartbeats 4000000 in
theorem splaces_walk (cs : List Value) (s : Super) (W : World) (h0 : rSuper.rd W (fun b => b < W.heap.size) cs s) :
    Calls Try.prog 4 #[.agg cs.toArray] W fun e W' => e = .returned (.bool true) ∧ Below W.heap.size W W' := by
  have HS0 : Hid _ := h0
  obtain rfl := rSuper_cells h0
  clear h0
  obtain ⟨w0, hw0, V0, b0, -⟩ := boxedRow W 23 [.int .i64 s.1, .int .i64 s.2.1, .int .i64 s.2.2.1, .int .i64 s.2.2.2.1, .int .i64 s.2.2.2.2.1, .int .i64 s.2.2.2.2.2.1, .int .i64 s.2.2.2.2.2.2]
  have VS : Hid (Row _ _ _ _) := V0
  have B0 : Hid (Below W.heap.size W w0) := b0
  have cs0 := V0.cell (j := 0) rfl
  have cs1 := V0.cell (j := 1) rfl
  have cs2 := V0.cell (j := 2) rfl
  have cs3 := V0.cell (j := 3) rfl
  have cs4 := V0.cell (j := 4) rfl
  have cs5 := V0.cell (j := 5) rfl
  have cs6 := V0.cell (j := 6) rfl
  clear V0 b0
  go_enter Try.func4, Try.ntmps4
  go_wp2_with fail
  refine (places_u _ _ _ s (Rep.below HS0.out B0.out)).mono ?_
  rintro e w1 ⟨rfl, b1⟩
  have VS1 : Hid (Row _ _ _ _) := VS.out.below b1
  have B1 : Hid (Below W.heap.size W w1) := on B0.out b1
  clear cs0 cs1 cs2 cs3 cs4 cs5 cs6
  clear b1 B0 VS hw0
  have X1 := VS1.out
  have cs0 := X1.cell (j := 0) rfl
  have cs1 := X1.cell (j := 1) rfl
  have cs2 := X1.cell (j := 2) rfl
  have cs3 := X1.cell (j := 3) rfl
  have cs4 := X1.cell (j := 4) rfl
  have cs5 := X1.cell (j := 5) rfl
  have cs6 := X1.cell (j := 6) rfl
  clear X1
  go_wp2_with fail
  refine (refPlaces_u _ _ _ s (Rep.below HS0.out B1.out)).mono ?_
  rintro e w2 ⟨rfl, b2⟩
  have VS2 : Hid (Row _ _ _ _) := VS1.out.below b2
  have B2 : Hid (Below W.heap.size W w2) := on B1.out b2
  clear cs0 cs1 cs2 cs3 cs4 cs5 cs6
  clear b2 B1 VS1
  go_wp2_with fail
  refine (alive4_u _).mono ?_
  rintro e w3 ⟨rfl, b3⟩
  have VS3 : Hid (Row _ _ _ _) := VS2.out.below b3
  have B3 : Hid (Below W.heap.size W w3) := on B2.out b3
  clear b3 B2 VS2
  have X3 := VS3.out
  have cs0 := X3.cell (j := 0) rfl
  have cs1 := X3.cell (j := 1) rfl
  have cs2 := X3.cell (j := 2) rfl
  have cs3 := X3.cell (j := 3) rfl
  have cs4 := X3.cell (j := 4) rfl
  have cs5 := X3.cell (j := 5) rfl
  have cs6 := X3.cell (j := 6) rfl
  clear X3
  go_wp2_with fail
  refine (refCheck4_u _ _ _ s (Rep.below HS0.out B3.out)).mono ?_
  rintro e w4 ⟨rfl, b4⟩
  have VS4 : Hid (Row _ _ _ _) := VS3.out.below b4
  have B4 : Hid (Below W.heap.size W w4) := on B3.out b4
  clear cs0 cs1 cs2 cs3 cs4 cs5 cs6
  clear b4 B3 VS3
  have X4 := VS4.out
  have cs0 := X4.cell (j := 0) rfl
  have cs1 := X4.cell (j := 1) rfl
  have cs2 := X4.cell (j := 2) rfl
  have cs3 := X4.cell (j := 3) rfl
  have cs4 := X4.cell (j := 4) rfl
  have cs5 := X4.cell (j := 5) rfl
  have cs6 := X4.cell (j := 6) rfl
  clear X4
  cases hok : Sup.ok s
  · rw [show Sup.checkE s = 4 from by unfold Sup.checkE; rw [hok]; rfl]
    clear hok
    go_wp2
    go_ret
    exact ⟨rfl, B4.out⟩
  · rw [show Sup.checkE s = 0 from by unfold Sup.checkE; rw [hok]; rfl]
    obtain ⟨p1, p2, p3⟩ := Sup.places_ok hok
    obtain ⟨⟨a1, a2⟩, ⟨b1, b2⟩, ⟨c1, c2⟩, ⟨d1, d2⟩, ⟨e1, e2⟩, ⟨f1, f2⟩, g1, g2⟩ := Sup.ok_iff.1 hok
    rw [p1, p2, p3]
    clear hok p1 p2 p3
    go_wp2
    go_ret
    refine ⟨?_, B4.out⟩
    show Ending.returned (.bool (_ == _)) = _
    rw [beq_iff_eq.2 (show 2 + s.2.2.1 + s.2.2.2.1 + s.2.2.2.2.1 - (2 + s.2.2.1 + s.2.2.2.1) = s.2.2.2.2.1 by omega)]

set_option maxRecDepth 100000 in
theorem splaces_lifted (os : Os) (started : os.Started) (H : Type) (enc : TypeId × Value → H) :
    ReturnsInHanded {} Try.checked os 4 .any (Rows.superPlacesSpec.pre6 enc Try.prog Try.f4 Rows.superPlacesRow.domain false) (Rows.superPlacesSpec.post enc Try.prog Try.f4 false true false false) := by
  refine returnsInHanded_of_change_sized (C := Try.checked) own started (by kernel_rfl) Try.func4
    (ChangeSpec.witness6 (enc := enc) (C := Try.checked) false ⟨#[], #[.agg #[.int .i64 0, .int .i64 0, .int .i64 0, .int .i64 0, .int .i64 0, .int .i64 0, .int .i64 0]], []⟩ 8 (by kernel_rfl) (by kernel_rfl) (by kernel_rfl) (by kernel_rfl)) ?_
  intro W base args ds gs before hval0 hW _ hsz0 _
  have hsz : (DataW.weightsEach Try.prog (Try.f4.params.toList ++ Rows.superPlacesSpec.plain.varTypes Try.prog) (ds ++ gs)).all (· ≤ reachBytes) = true := hsz0
  clear hsz0
  have hval : ∀ (j : Nat) t v, Try.f4.params[j]? = some t → args[j]? = some v → Value.okWide Try.prog W .any base t v := hval0
  have hW' := hW
  obtain ⟨p, q, hA0, hV, rfl, hfz, hnd⟩ := hW
  have hA : DataW.TrodAll enc Try.prog W 0 (fun _ => true) true Try.f4.params.toList args.toList ds p := hA0
  rw [Try.params4] at hA hval hsz
  obtain ⟨v0, vs0, d0, ds0, p0, q0, hargs, rfl, rfl, h0, r0⟩ := trodAll_cons hA
  obtain ⟨rfl, rfl, rfl⟩ := trodAll_nil r0
  obtain rfl : args = #[v0] := by cases args; simp_all
  obtain ⟨rfl, rfl⟩ := trodVars_none hV
  obtain ⟨c0, rfl, -⟩ := okWide_struct Try.underlying23 (hval 0 23 v0 rfl rfl)
  have k0 := h0
  have lt0 : ∀ x ∈ p0, x.block < W.heap.size := by obtain ⟨m, hm⟩ := k0; exact DataW.trod_lt m _ _ _ hm
  obtain ⟨x0, hx0⟩ := opens_super.arg h0 hsz (j := 0) rfl rfl
  clear hA0 hval0
  refine (splaces_walk c0.toList x0 W hx0).mono fun e W' ⟨he, bel⟩ => ?_
  subst he
  exact ⟨_, rfl, _, _, _, [], _, [], hW', trodAll_mk1 (shut_bool Try.underlying4 _), (trodAll_cons_mk (Below.trod laidOut (by kernel_rfl) (of_decide_eq_true (by kernel_rfl)) k0 bel lt0) trodAll_mk0), rfl, bel.frame _, fun h => by cases h⟩

theorem superPlaces_holds : Rows.SuperPlacesSaid :=
  OpenClaim.holds_of_wide 4 Try.f4 rfl rfl rfl rfl rfl rfl rfl ⟨rfl, rfl, rfl, rfl, rfl⟩ rfl rfl rfl rfl rfl (by kernel_rfl) Try.func4 (by kernel_rfl)
    (of_decide_eq_true (by kernel_rfl)) (by unfold Func.isWrapper; first | (rw [if_pos (by decide +kernel)]; kernel_rfl) | (rw [if_neg (by decide +kernel)]; exact ⟨rfl, rfl⟩))
    (fun os started H enc _ => splaces_lifted os started H enc)

end Go.Proofs.Ytdgnkpmjjapmpaa
