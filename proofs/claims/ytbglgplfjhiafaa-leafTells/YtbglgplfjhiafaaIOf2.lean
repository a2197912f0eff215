/-
  A node in memory of its own; the page's example; what a law's walk is told of its arguments. Conditions: those that each contract names.
-/
import Derived.Test.YtbglgplfjhiafaaIOf
namespace Go.Proofs.Ytbglgplfjhiafaa
open Go.RowKit
set_option linter.unusedVariables false

set_option maxRecDepth 20000 in
set_option maxHeartbeats 2000000 in
theorem of_u (w : World) (P P' : Nat → Prop) (a a' : Option Addr) (n c n' c' : Nat) (l : List Itm) (ks : List Int) (hL : rItms.rd w P [.slice a n c] l) (hK : rKids.rd w P' [.slice a' n' c'] ks) :
    Calls Try.prog 9 #[.agg #[.slice a n c, .slice a' n' c']] w fun e w' => ∃ v v', e = .returned (.agg #[v, v']) ∧ OwnI 53 w' w.heap.size v l ∧ OwnK 3 w' w.heap.size v' ks ∧ Below w.heap.size w w' := by
  obtain ⟨w0, hw0, V0, b0, z0⟩ := boxedRow w 25 [.slice a n c, .slice a' n' c']
  obtain ⟨w1, hw1, V1, b1, z1⟩ := boxedRow w0 28 [.slice none 0 0, .slice none 0 0]
  rw [z0] at V1 z1
  have HV0 : Hid (Row w1 w.heap.size 25 [.slice a n c, .slice a' n' c']) := V0.below b1
  have HX1 : Hid (Row w1 (w.heap.size + 1) 28 [.slice none 0 0, .slice none 0 0]) := V1
  have B1 : Hid (Below w.heap.size w w1) := on b0 b1
  obtain ⟨v2, w2, hr2, ho2, b2⟩ := run_copy_itms (w := w1.drew) (Rep.below hL B1.out.drew) 22
  obtain ⟨a2, n2, c2, rfl⟩ : ∃ a n c, v2 = .slice a n c := by obtain ⟨a, c, e, -⟩ := ho2.slice; exact ⟨a, _, c, e⟩
  have bb2 : Below w1.heap.size w1 w2 := below_drew_pre0 b2
  obtain ⟨v3, w3, hr3, ho3, b3⟩ := run_copy_kids (w := w2) (Rep.below hK (on B1.out bb2)) 23
  obtain ⟨a3, n3, c3, rfl⟩ : ∃ a n c, v3 = .slice a n c := by obtain ⟨a, c, e, -⟩ := ho3.slice; exact ⟨a, _, c, e⟩
  have HR2 : Hid _ := hr2
  have HR3 : Hid _ := hr3
  have HV2 : Hid (Row w2 w.heap.size 25 [.slice a n c, .slice a' n' c']) := HV0.out.below bb2
  have HV3 : Hid (Row w3 w.heap.size 25 [.slice a n c, .slice a' n' c']) := HV2.out.below b3
  have HX3 : Hid (Row w3 (w.heap.size + 1) 28 [.slice none 0 0, .slice none 0 0]) := (HX1.out.below bb2).below b3
  have B3 : Hid (Below w.heap.size w w3) := on (on B1.out bb2) b3
  have hz1 : w.heap.size + 1 < w1.heap.size := V1.lt
  have HO3 : Hid (OwnI 53 w3 w1.heap.size (.slice a2 n2 c2) l) := ho2.below b3
  have hz2 : w1.heap.size ≤ w2.heap.size := bb2.size
  have HQ3 : Hid (OwnK 3 w3 w1.heap.size (.slice a3 n3 c3) ks) := ho3.mono hz2
  obtain ⟨u0, u1⟩ := HX3.out.two
  have g0 := HX3.out.frozen 0
  have g1 := HX3.out.frozen 1
  clear hr2 hr3 ho2 ho3 b2 bb2 b3 V0 V1 b0 b1 z1 hL hK hz2
  go_enter Try.func9, Try.ntmps9
  go_wp2_with fail
  refine wp_region_held_drew (S := (fun w' : World => w'.cell? ⟨w.heap.size, 0, none⟩ = some (.slice a n c) ∧ w'.cell? ⟨w.heap.size, 1, none⟩ = some (.slice a' n' c'))) (by kernel_rfl) ((HV0.out.keep rfl : Row w1.drew _ _ _).two) (fun hHeld => ?_)
  refine wpAnyH_takeL (i := 0) (v := ?_) rfl rfl (by kernel_rfl) (by kernel_rfl) (by kernel_rfl) (fun _ _ _ h => h) (Or.inl ⟨by rfl, ?_⟩) (by assumption) ?_
  rotate_left
  · intro w hSw
    try dsimp only at hSw
    go_simp
    all_goals with_reducible rfl
  simp only [List.set_cons_zero, List.set_cons_succ]
  refine wpAnyH_takeL (i := 1) (v := ?_) rfl rfl (by kernel_rfl) (by kernel_rfl) (by kernel_rfl) (fun _ _ _ h => h) (Or.inl ⟨by rfl, ?_⟩) (by assumption) ?_
  rotate_left
  · intro w hSw
    try dsimp only at hSw
    go_simp
    all_goals with_reducible rfl
  simp only [List.set_cons_zero, List.set_cons_succ]
  refine wpAnyH_takeL (i := 2) (v := ?_) rfl rfl (by kernel_rfl) (by kernel_rfl) (by kernel_rfl) (fun _ _ _ h => h) (Or.inl ⟨by rfl, ?_⟩) (by assumption) ?_
  rotate_left
  · intro w hSw
    try dsimp only at hSw
    go_simp
    all_goals with_reducible rfl
  simp only [List.set_cons_zero, List.set_cons_succ]
  refine wpAnyH_takeL (i := 4) (v := ?_) rfl rfl (by kernel_rfl) (by kernel_rfl) (by kernel_rfl) (fun _ _ _ h => h) (Or.inl ⟨by rfl, ?_⟩) (by assumption) ?_
  rotate_left
  · intro w hSw
    try dsimp only at hSw
    go_simp
    all_goals with_reducible rfl
  simp only [List.set_cons_zero, List.set_cons_succ]
  refine wpAnyH_takeL (i := 5) (v := ?_) rfl rfl (by kernel_rfl) (by kernel_rfl) (by kernel_rfl) (fun _ _ _ h => h) (Or.inl ⟨by rfl, ?_⟩) (by assumption) ?_
  rotate_left
  · intro w hSw
    try dsimp only at hSw
    go_simp
    all_goals with_reducible rfl
  simp only [List.set_cons_zero, List.set_cons_succ]
  refine wpAnyH_takeL (i := 6) (v := ?_) rfl rfl (by kernel_rfl) (by kernel_rfl) (by kernel_rfl) (fun _ _ _ h => h) (Or.inl ⟨by rfl, ?_⟩) (by assumption) ?_
  rotate_left
  · intro w hSw
    try dsimp only at hSw
    go_simp
    all_goals with_reducible rfl
  simp only [List.set_cons_zero, List.set_cons_succ]
  refine wpAnyH_ready (rs := [3]) (by kernel_rfl) (by simp) ?_
  refine AllReadyH.cons rfl (fun K hK => ?_) ?_
  · refine held_append rfl (by rfl) _ _ _ rfl _ _ _ rfl rfl HR2.out ?_
    simp only [List.set_cons_zero, List.set_cons_succ]
    refine hK.out _ _ ?_ (fun hHeld => ?_)
    · try dsimp only
      exact (HV2.out).two
    clear hK K
    refine wpAnyH_ready (rs := [7]) (by kernel_rfl) (by simp) ?_
    refine AllReadyH.cons rfl (fun K hK => ?_) ?_
    · refine held_append rfl (by rfl) _ _ _ rfl _ _ _ rfl rfl HR3.out ?_
      simp only [List.set_cons_zero, List.set_cons_succ]
      refine hK.out _ _ ?_ (fun hHeld => ?_)
      · try dsimp only
        exact (HV3.out).two
      clear hK K
      refine wpAnyH_takeL (i := 8) (v := ?_) rfl rfl (by kernel_rfl) (by kernel_rfl) (by kernel_rfl) (fun _ _ _ h => h) (Or.inl ⟨by rfl, ?_⟩) (by assumption) ?_
      rotate_left
      · intro w hSw
        try dsimp only at hSw
        go_simp
        all_goals with_reducible rfl
      simp only [List.set_cons_zero, List.set_cons_succ]
      refine wpAnyH_ready (rs := [9]) (by kernel_rfl) (by simp) ?_
      refine AllReadyH.cons rfl (fun K hK => ?_) ?_
      · go_simp
        refine hK.out _ _ ?_ (fun hHeld => ?_)
        · try dsimp only
          exact ((HV3.out.setO (p := ⟨w.heap.size + 1, 0, none⟩) (by show w.heap.size + 1 ≠ _; omega) _).setO (p := ⟨w.heap.size + 1, 1, none⟩) (by show w.heap.size + 1 ≠ _; omega) _).two
        clear hK K
        refine wpAnyH_done (by kernel_rfl) ?_ _
        clear hHeld
        go_wp2
        refine st_ret1 HX3.out B3.out (by omega) _ _ rfl rfl Try.underlying28 rfl (by kernel_rfl) ?_
        intro w' K' B'
        exact ⟨_, _, rfl, (HO3.out.keptL K' (by omega)).mono (by omega), (HQ3.out.keptL K' (by omega)).mono (by omega), B'⟩
      exact AllReadyH.nil
    exact AllReadyH.nil
  exact AllReadyH.nil

end Go.Proofs.Ytbglgplfjhiafaa
