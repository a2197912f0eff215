/-
  A size made greater and smaller again is as it was, and what is new is free: at whatever state and number. Conditions: none.
-/
import Derived.Test.YtbbjbajdoekheabFAlive
import Derived.Test.YtbbjbajdoekheabFFrame
import Derived.Test.YtbbjbajdoekheabYR
import Derived.Test.YtbbjbajdoekheabRFC
namespace Go.Proofs.Ytbbjbajdoekheab
open Go.ChangeShapes Go.WideShapes Go.ChangeAt Go.RowKit
set_option linter.unusedVariables false

theorem turn100 (a : Int) : ∃ kk : Int, 0 ≤ kk ∧ kk < 100 ∧ (wrap64 (a.tmod 100 + 100)).tmod 100 = kk := by
  have h1 := Int.tmod_lt_of_pos a (show (0 : Int) < 100 by decide)
  have h2 := Int.lt_tmod_of_pos a (show (0 : Int) < 100 by decide)
  have e : wrap64 (a.tmod 100 + 100) = a.tmod 100 + 100 := by unfold wrap64; omega
  rw [e]
  have h3 : (a.tmod 100 + 100).tmod 100 = (a.tmod 100 + 100) % 100 := Int.tmod_eq_emod_of_nonneg (by omega)
  exact ⟨(a.tmod 100 + 100) % 100, by omega, by omega, h3⟩

set_option maxRecDepth 20000 in
set_option maxHeartbeats 8000000 in
theorem fgrows_walk (cs : List Value) (st : Int × List Spn) (d : Int) (W : World) (h0 : rState.rd W (fun b => b < W.heap.size) cs st) (hd0 : -9223372036854775808 ≤ d) (hd1 : d ≤ 9223372036854775807) :
    Calls Try.prog 4 #[.agg cs.toArray, .int .i64 d] W fun e W' => e = .returned (.bool true) ∧ Below W.heap.size W W' := by
  obtain ⟨a, n, c, rfl, hz, hL⟩ := rState_rd h0
  obtain ⟨z, l⟩ := st
  simp only at hz hL
  have HL : Hid (l.length = n) := (rList_len hL).1
  have HLB : Hid (l.length ≤ 8796093021952) := by unfold Hid; rw [HL.out]; have h : n * 16 ≤ 140737488351232 := (rList_len hL).2.2.2; omega
  have HZI : Hid (In64 z) := hz
  rw [show ([.int .i64 z, .slice a n c] : List Value).toArray = #[.int .i64 z, .slice a n c] from rfl]
  obtain ⟨w0, hw0, V0, b0, z0⟩ := boxedRow W 24 [.int .i64 z, .slice a n c]
  obtain ⟨w1, hw1⟩ : ∃ w1, w1 = w0 := ⟨_, rfl⟩
  rw [← hw1] at hw0 V0 b0
  have Rs_1 : Hid (Row w1 W.heap.size 24 [.int .i64 z, .slice a n c]) := V0
  have B_1 : Hid (Below W.heap.size W w1) := b0
  have Ls_1 : Hid (rSpns.rd w1 (fun b => b < W.heap.size) [.slice a n c] (l)) := Rep.below hL B_1.out
  clear V0 b0 z0 h0 hL hz hw1
  go_enter Try.func4, Try.ntmps4
  go_wp2_with fail
  refine (alive6_u _).mono ?_
  rintro e w2 ⟨rfl, b2⟩
  have Rs_2 : Hid (Row w2 (W.heap.size) 24 [.int .i64 z, .slice a n c]) := Rs_1.out.below b2
  have Ls_2 : Hid (rSpns.rd w2 (fun b => b < W.heap.size) [.slice a n c] (l)) := Rep.below Ls_1.out b2
  have B_2 : Hid (Below W.heap.size W w2) := on B_1.out b2
  clear Rs_1 Ls_1
  clear b2
  obtain ⟨kk, hK0, hK1, hK⟩ := turn100 d
  obtain ⟨qs0, qs1⟩ := Rs_2.out.two
  go_wp2_with (go_at_call 8; refine (num6_u _ _).mono ?_; rintro e w99 ⟨rfl, rfl⟩)
  refine (refCheck_u _ _ z _ _ _ l Ls_2.out _ rfl).mono ?_
  rintro e w3 ⟨rfl, b3⟩
  have Rs_3 : Hid (Row w3 (W.heap.size) 24 [.int .i64 z, .slice a n c]) := Rs_2.out.below b3
  have Ls_3 : Hid (rSpns.rd w3 (fun b => b < W.heap.size) [.slice a n c] (l)) := Rep.below Ls_2.out b3
  have B_3 : Hid (Below W.heap.size W w3) := on B_2.out b3
  clear qs0 qs1
  clear Rs_2 Ls_2
  clear b3
  have SK : Hid (∀ {w' : World}, Below w3.heap.size w3 w' → w'.cell? ⟨W.heap.size, 0, none⟩ = some (.int .i64 z) ∧ w'.cell? ⟨W.heap.size, 1, none⟩ = some (.slice a n c)) := fun b => (Rs_3.out.below b).two
  obtain ⟨CE, hCE⟩ : ∃ CE, Fr.checkE z l = CE := ⟨_, rfl⟩
  rw [hCE]
  have HCE : Hid (Fr.checkE z l = CE) := hCE
  have hcc : (CE == CE) = true := beq_self_eq_true CE
  obtain ⟨qs0, qs1⟩ := Rs_3.out.two
  by_cases hC : ¬ CE = 0
  · have hC0 : (CE == 0) = false := beq_eq_false_iff_ne.2 hC
    go_wp2_with (go_at_call 8; refine (num6_u _ _).mono ?_; rintro e w99 ⟨rfl, rfl⟩)
    refine wp_region_held_drew (S := (fun w' : World => w'.cell? ⟨W.heap.size, 0, none⟩ = some (.int .i64 z) ∧ w'.cell? ⟨W.heap.size, 1, none⟩ = some (.slice a n c))) (by kernel_rfl) (SK.out (Below.refl _ _).drew) (fun hHeld => ?_)
    refine wpAnyH_takeL (i := 0) (v := ?_) rfl rfl (by kernel_rfl) (by kernel_rfl) (by kernel_rfl) (fun _ _ _ h => h) (Or.inl ⟨by rfl, ?_⟩) (by assumption) ?_
    rotate_left
    · intro w hSw
      try dsimp only at hSw
      go_simp
      all_goals with_reducible rfl
    simp only [List.set_cons_zero, List.set_cons_succ]
    refine wpAnyH_takeL (i := 4) (v := ?_) rfl rfl (by kernel_rfl) (by kernel_rfl) (by kernel_rfl) (fun _ _ _ h => h) (Or.inl ⟨by rfl, ?_⟩) (by assumption) ?_
    rotate_left
    · intro w hSw
      try dsimp only at hSw
      go_simp
      all_goals with_reducible rfl
    simp only [List.set_cons_zero, List.set_cons_succ]
    refine wpAnyH_ready (rs := [1]) (by kernel_rfl) (by simp) ?_
    refine AllReadyH.cons rfl (fun K hK => ?_) ?_
    · go_simp
      go_at_call 7
      refine Calls.mono (of_u _ _ z _ _ _ l (Rep.below Ls_3.out (Below.refl _ _).drew)) ?_
      rintro e xA ⟨vA, rfl, hoA, bA⟩
      have DA : Hid (Below w3.heap.size w3 xA) := below_drew_pre0 bA
      obtain ⟨aA, cA, hvA, -, -⟩ := hoA.slice
      subst hvA
      have LA : Hid _ := hoA.rd HLB.out
      clear hoA bA
      go_simp
      refine hK.out _ _ ?_ (fun hHeld => ?_)
      · try dsimp only
        exact SK.out DA.out
      clear hK K
      refine wpAnyH_ready (rs := [2]) (by kernel_rfl) (by simp) ?_
      refine AllReadyH.cons rfl (fun K hK => ?_) ?_
      · go_simp
        go_at_call 11
        refine Calls.mono (freeCheck_u _ _ z _ _ _ l LA.out _ HCE.out) ?_
        rintro e xB ⟨rfl, bB⟩
        have DB : Hid (Below w3.heap.size w3 xB) := on DA.out bB
        clear bB
        go_simp
        refine hK.out _ _ ?_ (fun hHeld => ?_)
        · try dsimp only
          exact SK.out DB.out
        clear hK K
        refine wpAnyH_ready (rs := [3]) (by kernel_rfl) (by simp) ?_
        refine AllReadyH.cons rfl (fun K hK => ?_) ?_
        · go_simp
          go_at_call 8
          refine Calls.mono (num6_u _ _) ?_
          rintro e x9 ⟨rfl, rfl⟩
          go_simp
          refine hK.out _ _ ?_ (fun hHeld => ?_)
          · try dsimp only
            exact SK.out DB.out
          clear hK K
          refine wpAnyH_ready (rs := [5]) (by kernel_rfl) (by simp) ?_
          refine AllReadyH.cons rfl (fun K hK => ?_) ?_
          · go_simp
            go_at_call 10
            refine Calls.mono (refCheck_u _ _ z _ _ _ l (Rep.below Ls_3.out DB.out) _ HCE.out) ?_
            rintro e xC ⟨rfl, bC⟩
            have DC : Hid (Below w3.heap.size w3 xC) := on DB.out bC
            clear bC
            go_simp
            refine hK.out _ _ ?_ (fun hHeld => ?_)
            · try dsimp only
              exact SK.out DC.out
            clear hK K
            refine wpAnyH_takeL (i := 6) (v := ?_) rfl rfl (by kernel_rfl) (by kernel_rfl) (by kernel_rfl) (fun _ _ _ h => h) (Or.inl ⟨by rfl, ?_⟩) (by assumption) ?_
            rotate_left
            · intro w hSw
              try dsimp only at hSw
              go_simp
              all_goals with_reducible rfl
            simp only [List.set_cons_zero, List.set_cons_succ]
            refine wpAnyH_takeL (i := 7) (v := ?_) rfl rfl (by kernel_rfl) (by kernel_rfl) (by kernel_rfl) (fun _ _ _ h => h) (Or.inl ⟨by rfl, ?_⟩) (by assumption) ?_
            rotate_left
            · intro w hSw
              try dsimp only at hSw
              go_simp
              all_goals with_reducible rfl
            simp only [List.set_cons_zero, List.set_cons_succ]
            refine wpAnyH_done (by kernel_rfl) ?_ _
            clear hHeld
            go_wp2
            go_ret
            exact ⟨by first | rfl | rw [hcc], on B_3.out DC.out⟩
          exact AllReadyH.nil
        exact AllReadyH.nil
      exact AllReadyH.nil
    exact AllReadyH.nil
  have hC1 : CE = 0 := Decidable.not_not.1 hC
  clear hC
  by_cases hz6 : 60000 < z
  · have hC0 : (CE == 0) = true := beq_iff_eq.2 hC1
    go_wp2_with (go_at_call 8; refine (num6_u _ _).mono ?_; rintro e w99 ⟨rfl, rfl⟩)
    refine wp_region_held_drew (S := (fun w' : World => w'.cell? ⟨W.heap.size, 0, none⟩ = some (.int .i64 z) ∧ w'.cell? ⟨W.heap.size, 1, none⟩ = some (.slice a n c))) (by kernel_rfl) (SK.out (Below.refl _ _).drew) (fun hHeld => ?_)
    refine wpAnyH_takeL (i := 0) (v := ?_) rfl rfl (by kernel_rfl) (by kernel_rfl) (by kernel_rfl) (fun _ _ _ h => h) (Or.inl ⟨by rfl, ?_⟩) (by assumption) ?_
    rotate_left
    · intro w hSw
      try dsimp only at hSw
      go_simp
      all_goals with_reducible rfl
    simp only [List.set_cons_zero, List.set_cons_succ]
    refine wpAnyH_takeL (i := 4) (v := ?_) rfl rfl (by kernel_rfl) (by kernel_rfl) (by kernel_rfl) (fun _ _ _ h => h) (Or.inl ⟨by rfl, ?_⟩) (by assumption) ?_
    rotate_left
    · intro w hSw
      try dsimp only at hSw
      go_simp
      all_goals with_reducible rfl
    simp only [List.set_cons_zero, List.set_cons_succ]
    refine wpAnyH_ready (rs := [1]) (by kernel_rfl) (by simp) ?_
    refine AllReadyH.cons rfl (fun K hK => ?_) ?_
    · go_simp
      go_at_call 7
      refine Calls.mono (of_u _ _ z _ _ _ l (Rep.below Ls_3.out (Below.refl _ _).drew)) ?_
      rintro e xA ⟨vA, rfl, hoA, bA⟩
      have DA : Hid (Below w3.heap.size w3 xA) := below_drew_pre0 bA
      obtain ⟨aA, cA, hvA, -, -⟩ := hoA.slice
      subst hvA
      have LA : Hid _ := hoA.rd HLB.out
      clear hoA bA
      go_simp
      refine hK.out _ _ ?_ (fun hHeld => ?_)
      · try dsimp only
        exact SK.out DA.out
      clear hK K
      refine wpAnyH_ready (rs := [2]) (by kernel_rfl) (by simp) ?_
      refine AllReadyH.cons rfl (fun K hK => ?_) ?_
      · go_simp
        go_at_call 11
        refine Calls.mono (freeCheck_u _ _ z _ _ _ l LA.out _ HCE.out) ?_
        rintro e xB ⟨rfl, bB⟩
        have DB : Hid (Below w3.heap.size w3 xB) := on DA.out bB
        clear bB
        go_simp
        refine hK.out _ _ ?_ (fun hHeld => ?_)
        · try dsimp only
          exact SK.out DB.out
        clear hK K
        refine wpAnyH_ready (rs := [3]) (by kernel_rfl) (by simp) ?_
        refine AllReadyH.cons rfl (fun K hK => ?_) ?_
        · go_simp
          go_at_call 8
          refine Calls.mono (num6_u _ _) ?_
          rintro e x9 ⟨rfl, rfl⟩
          go_simp
          refine hK.out _ _ ?_ (fun hHeld => ?_)
          · try dsimp only
            exact SK.out DB.out
          clear hK K
          refine wpAnyH_ready (rs := [5]) (by kernel_rfl) (by simp) ?_
          refine AllReadyH.cons rfl (fun K hK => ?_) ?_
          · go_simp
            go_at_call 10
            refine Calls.mono (refCheck_u _ _ z _ _ _ l (Rep.below Ls_3.out DB.out) _ HCE.out) ?_
            rintro e xC ⟨rfl, bC⟩
            have DC : Hid (Below w3.heap.size w3 xC) := on DB.out bC
            clear bC
            go_simp
            refine hK.out _ _ ?_ (fun hHeld => ?_)
            · try dsimp only
              exact SK.out DC.out
            clear hK K
            refine wpAnyH_takeL (i := 6) (v := ?_) rfl rfl (by kernel_rfl) (by kernel_rfl) (by kernel_rfl) (fun _ _ _ h => h) (Or.inl ⟨by rfl, ?_⟩) (by assumption) ?_
            rotate_left
            · intro w hSw
              try dsimp only at hSw
              go_simp
              all_goals with_reducible rfl
            simp only [List.set_cons_zero, List.set_cons_succ]
            refine wpAnyH_takeL (i := 7) (v := ?_) rfl rfl (by kernel_rfl) (by kernel_rfl) (by kernel_rfl) (fun _ _ _ h => h) (Or.inl ⟨by rfl, ?_⟩) (by assumption) ?_
            rotate_left
            · intro w hSw
              try dsimp only at hSw
              go_simp
              all_goals with_reducible rfl
            simp only [List.set_cons_zero, List.set_cons_succ]
            refine wpAnyH_done (by kernel_rfl) ?_ _
            clear hHeld
            go_wp2
            go_ret
            exact ⟨by first | rfl | rw [hcc], on B_3.out DC.out⟩
          exact AllReadyH.nil
        exact AllReadyH.nil
      exact AllReadyH.nil
    exact AllReadyH.nil
  by_cases hn6 : 1000 < n
  · have hC0 : (CE == 0) = true := beq_iff_eq.2 hC1
    go_wp2_with (go_at_call 8; refine (num6_u _ _).mono ?_; rintro e w99 ⟨rfl, rfl⟩)
    refine wp_region_held_drew (S := (fun w' : World => w'.cell? ⟨W.heap.size, 0, none⟩ = some (.int .i64 z) ∧ w'.cell? ⟨W.heap.size, 1, none⟩ = some (.slice a n c))) (by kernel_rfl) (SK.out (Below.refl _ _).drew) (fun hHeld => ?_)
    refine wpAnyH_takeL (i := 0) (v := ?_) rfl rfl (by kernel_rfl) (by kernel_rfl) (by kernel_rfl) (fun _ _ _ h => h) (Or.inl ⟨by rfl, ?_⟩) (by assumption) ?_
    rotate_left
    · intro w hSw
      try dsimp only at hSw
      go_simp
      all_goals with_reducible rfl
    simp only [List.set_cons_zero, List.set_cons_succ]
    refine wpAnyH_takeL (i := 4) (v := ?_) rfl rfl (by kernel_rfl) (by kernel_rfl) (by kernel_rfl) (fun _ _ _ h => h) (Or.inl ⟨by rfl, ?_⟩) (by assumption) ?_
    rotate_left
    · intro w hSw
      try dsimp only at hSw
      go_simp
      all_goals with_reducible rfl
    simp only [List.set_cons_zero, List.set_cons_succ]
    refine wpAnyH_ready (rs := [1]) (by kernel_rfl) (by simp) ?_
    refine AllReadyH.cons rfl (fun K hK => ?_) ?_
    · go_simp
      go_at_call 7
      refine Calls.mono (of_u _ _ z _ _ _ l (Rep.below Ls_3.out (Below.refl _ _).drew)) ?_
      rintro e xA ⟨vA, rfl, hoA, bA⟩
      have DA : Hid (Below w3.heap.size w3 xA) := below_drew_pre0 bA
      obtain ⟨aA, cA, hvA, -, -⟩ := hoA.slice
      subst hvA
      have LA : Hid _ := hoA.rd HLB.out
      clear hoA bA
      go_simp
      refine hK.out _ _ ?_ (fun hHeld => ?_)
      · try dsimp only
        exact SK.out DA.out
      clear hK K
      refine wpAnyH_ready (rs := [2]) (by kernel_rfl) (by simp) ?_
      refine AllReadyH.cons rfl (fun K hK => ?_) ?_
      · go_simp
        go_at_call 11
        refine Calls.mono (freeCheck_u _ _ z _ _ _ l LA.out _ HCE.out) ?_
        rintro e xB ⟨rfl, bB⟩
        have DB : Hid (Below w3.heap.size w3 xB) := on DA.out bB
        clear bB
        go_simp
        refine hK.out _ _ ?_ (fun hHeld => ?_)
        · try dsimp only
          exact SK.out DB.out
        clear hK K
        refine wpAnyH_ready (rs := [3]) (by kernel_rfl) (by simp) ?_
        refine AllReadyH.cons rfl (fun K hK => ?_) ?_
        · go_simp
          go_at_call 8
          refine Calls.mono (num6_u _ _) ?_
          rintro e x9 ⟨rfl, rfl⟩
          go_simp
          refine hK.out _ _ ?_ (fun hHeld => ?_)
          · try dsimp only
            exact SK.out DB.out
          clear hK K
          refine wpAnyH_ready (rs := [5]) (by kernel_rfl) (by simp) ?_
          refine AllReadyH.cons rfl (fun K hK => ?_) ?_
          · go_simp
            go_at_call 10
            refine Calls.mono (refCheck_u _ _ z _ _ _ l (Rep.below Ls_3.out DB.out) _ HCE.out) ?_
            rintro e xC ⟨rfl, bC⟩
            have DC : Hid (Below w3.heap.size w3 xC) := on DB.out bC
            clear bC
            go_simp
            refine hK.out _ _ ?_ (fun hHeld => ?_)
            · try dsimp only
              exact SK.out DC.out
            clear hK K
            refine wpAnyH_takeL (i := 6) (v := ?_) rfl rfl (by kernel_rfl) (by kernel_rfl) (by kernel_rfl) (fun _ _ _ h => h) (Or.inl ⟨by rfl, ?_⟩) (by assumption) ?_
            rotate_left
            · intro w hSw
              try dsimp only at hSw
              go_simp
              all_goals with_reducible rfl
            simp only [List.set_cons_zero, List.set_cons_succ]
            refine wpAnyH_takeL (i := 7) (v := ?_) rfl rfl (by kernel_rfl) (by kernel_rfl) (by kernel_rfl) (fun _ _ _ h => h) (Or.inl ⟨by rfl, ?_⟩) (by assumption) ?_
            rotate_left
            · intro w hSw
              try dsimp only at hSw
              go_simp
              all_goals with_reducible rfl
            simp only [List.set_cons_zero, List.set_cons_succ]
            refine wpAnyH_done (by kernel_rfl) ?_ _
            clear hHeld
            go_wp2
            go_ret
            exact ⟨by first | rfl | rw [hcc], on B_3.out DC.out⟩
          exact AllReadyH.nil
        exact AllReadyH.nil
      exact AllReadyH.nil
    exact AllReadyH.nil
  subst hC1
  have HO : Hid (Fr.Ok z l) := Fr.ok_iff.1 (by cases e : Fr.okB z l with
    | true => rfl
    | false => have h := HCE.out; rw [Fr.checkE_no e] at h; cases h)
  have hzl := HO.out.low
  obtain ⟨L, g1, g2, g3, g4, g5, g6, g7, g8, g9, g10, g11⟩ := Fr.grows_said HO.out (by omega) (show l.length ≤ 1000 by rw [HL.out]; omega) hK0 hK1
  have G1 : Hid _ := g1
  have G2 : Hid _ := g2
  have G3 : Hid _ := g3
  have G4 : Hid _ := g4
  have G5 : Hid _ := g5
  have G6 : Hid _ := g6
  have G7 : Hid _ := g7
  have G8 : Hid _ := g8
  clear g1 g2 g3 g4 g5 g6 g7 g8 SK hcc hCE
  have wz : IntKind.i64.wrap (z + kk) = z + kk := by rw [IntKind.wrap_i64]; omega
  clear qs0 qs1
  have SK_3 : Hid (∀ {w' : World}, Below w3.heap.size w3 w' → w'.cell? ⟨W.heap.size, 0, none⟩ = some (.int .i64 z) ∧ w'.cell? ⟨W.heap.size, 1, none⟩ = some (.slice a n c)) := fun b => ⟨(Rs_3.out.below b).two.1, (Rs_3.out.below b).two.2⟩
  obtain ⟨qs0, qs1⟩ := Rs_3.out.two
  go_wp2_with (go_at_call 8; refine (num6_u _ _).mono ?_; rintro e w99 ⟨rfl, rfl⟩)
  go_cut [5, 6] (fun t er wx => ∃ vb av cv, t = .pointer (some ⟨vb, 0, none⟩) ∧ er = .int .i64 (Fr.resizeE z l (z + kk)) ∧ Hid (Row wx vb 28 [.int .i64 (Fr.resizeZ z l (z + kk)), .slice av (Fr.resizeL z l (z + kk)).length cv]) ∧ Hid (rSpns.rd wx (fun b => w3.heap.size ≤ b) [.slice av (Fr.resizeL z l (z + kk)).length cv] (Fr.resizeL z l (z + kk))) ∧ Hid (Below w3.heap.size w3 wx))
  case first =>
    refine wp_region_held_drew (S := (fun w' : World => w'.cell? ⟨W.heap.size, 0, none⟩ = some (.int .i64 z) ∧ w'.cell? ⟨W.heap.size, 1, none⟩ = some (.slice a n c))) (by kernel_rfl) (SK_3.out (Below.refl _ _).drew) (fun hHeld => ?_)
    refine wpAnyH_takeL (i := 0) (v := ?_) rfl rfl (by kernel_rfl) (by kernel_rfl) (by kernel_rfl) (fun _ _ _ h => h) (Or.inl ⟨by rfl, ?_⟩) (by assumption) ?_
    rotate_left
    · intro w hSw
      try dsimp only at hSw
      go_simp
      all_goals with_reducible rfl
    simp only [List.set_cons_zero, List.set_cons_succ]
    refine wpAnyH_takeL (i := 2) (v := ?_) rfl rfl (by kernel_rfl) (by kernel_rfl) (by kernel_rfl) (fun _ _ _ h => h) (Or.inl ⟨by rfl, ?_⟩) (by assumption) ?_
    rotate_left
    · intro w hSw
      try dsimp only at hSw
      go_simp
      all_goals with_reducible rfl
    simp only [List.set_cons_zero, List.set_cons_succ]
    refine wpAnyH_takeL (i := 3) (v := ?_) rfl rfl (by kernel_rfl) (by kernel_rfl) (by kernel_rfl) (fun _ _ _ h => h) (Or.inl ⟨by rfl, ?_⟩) (by assumption) ?_
    rotate_left
    · intro w hSw
      try dsimp only at hSw
      go_simp
      all_goals with_reducible rfl
    simp only [List.set_cons_zero, List.set_cons_succ]
    refine wpAnyH_takeL (i := 4) (v := ?_) rfl rfl (by kernel_rfl) (by kernel_rfl) (by kernel_rfl) (fun _ _ _ h => h) (Or.inl ⟨by rfl, ?_⟩) (by assumption) ?_
    rotate_left
    · intro w hSw
      try dsimp only at hSw
      go_simp
      all_goals with_reducible rfl
    simp only [List.set_cons_zero, List.set_cons_succ]
    refine wpAnyH_takeL (i := 5) (v := ?_) rfl rfl (by kernel_rfl) (by kernel_rfl) (by kernel_rfl) (fun _ _ _ h => h) (Or.inl ⟨by rfl, ?_⟩) (by assumption) ?_
    rotate_left
    · intro w hSw
      try dsimp only at hSw
      go_simp
      all_goals with_reducible rfl
    simp only [List.set_cons_zero, List.set_cons_succ]
    refine wpAnyH_ready (rs := [1, 10]) (by kernel_rfl) (by simp) ?_
    refine AllReadyH.cons rfl (fun K hK => ?_) ?_
    · go_simp
      go_at_call 7
      refine Calls.mono (of_u _ _ z a n c (l) (Rep.below Ls_3.out ((Below.refl _ _).drew))) ?_
      rintro e wB ⟨vB, rfl, hoB, bB⟩
      have BB : Hid (Below w3.heap.size w3 wB) := below_drew_pre0 bB
      obtain ⟨aB, cB, hvB, -, -⟩ := hoB.slice
      subst hvB
      have LB : Hid (rSpns.rd wB (fun b => w3.drew.heap.size ≤ b) [.slice aB (l).length cB] (l)) := hoB.rd HLB.out
      clear hoB bB
      go_simp
      refine hK.out _ _ ?_ (fun hHeld => ?_)
      · try dsimp only
        exact SK_3.out BB.out
      clear hK K
      refine wpAnyH_ready (rs := [6, 10]) (by kernel_rfl) (by simp) ?_
      refine AllReadyH.cons rfl (fun K hK => ?_) ?_
      · go_simp
        go_at_call 12
        refine Calls.mono (freeResize_u _ _ z _ _ _ l LB.out (z + kk)) ?_
        rintro e wC ⟨vC, rfl, hoC, bC⟩
        have BC : Hid (Below w3.heap.size w3 wC) := on BB.out bC
        obtain ⟨aC, cC, hvC, -, -⟩ := hoC.slice
        subst hvC
        have OC : Hid (OwnS _ _ _ _ _) := hoC
        clear hoC bC
        go_simp
        refine hK.out _ _ ?_ (fun hHeld => ?_)
        · try dsimp only
          exact SK_3.out BC.out
        clear hK K
        refine wpAnyH_takeL (i := 7) (v := ?_) rfl rfl (by kernel_rfl) (by kernel_rfl) (by kernel_rfl) (fun _ _ _ h => h) (Or.inl ⟨by rfl, ?_⟩) (by assumption) ?_
        rotate_left
        · intro w hSw
          try dsimp only at hSw
          go_simp
          all_goals with_reducible rfl
        simp only [List.set_cons_zero, List.set_cons_succ]
        refine wpAnyH_takeL (i := 8) (v := ?_) rfl rfl (by kernel_rfl) (by kernel_rfl) (by kernel_rfl) (fun _ _ _ h => h) (Or.inl ⟨by rfl, ?_⟩) (by assumption) ?_
        rotate_left
        · intro w hSw
          try dsimp only at hSw
          go_simp
          all_goals with_reducible rfl
        simp only [List.set_cons_zero, List.set_cons_succ]
        refine wpAnyH_takeL (i := 9) (v := ?_) rfl rfl (by kernel_rfl) (by kernel_rfl) (by kernel_rfl) (fun _ _ _ h => h) (Or.inl ⟨by rfl, ?_⟩) (by assumption) ?_
        rotate_left
        · intro w hSw
          try dsimp only at hSw
          go_simp
          all_goals with_reducible rfl
        simp only [List.set_cons_zero, List.set_cons_succ]
        refine wpAnyH_ready (rs := [10]) (by kernel_rfl) (by simp) ?_
        refine AllReadyH.cons rfl (fun K hK => ?_) ?_
        · go_simp
          refine hK.out _ _ ?_ (fun hHeld => ?_)
          · try dsimp only
            exact SK_3.out (below_alloc0 BC.out _)
          clear hK K
          refine wpAnyH_ready (rs := [11]) (by kernel_rfl) (by simp) ?_
          refine AllReadyH.cons rfl (fun K hK => ?_) ?_
          · go_simp
            refine hK.out _ _ ?_ (fun hHeld => ?_)
            · try dsimp only
              exact SK_3.out (below_alloc0 BC.out _)
            clear hK K
            refine wpAnyH_takeL (i := 12) (v := ?_) rfl rfl (by kernel_rfl) (by kernel_rfl) (by kernel_rfl) (fun _ _ _ h => h) (Or.inl ⟨by rfl, ?_⟩) (by assumption) ?_
            rotate_left
            · intro w hSw
              try dsimp only at hSw
              go_simp
              all_goals with_reducible rfl
            simp only [List.set_cons_zero, List.set_cons_succ]
            refine wpAnyH_done (by kernel_rfl) ?_ _
            clear hHeld
            go_wp2_with fail
            go_meet
            exact ⟨wC.heap.size, aC, cC, rfl, rfl, row_new _ _ _, Rep.below ((OC.out.mono BB.out.size).rd (by have := Fr.resizeL_len z l (z + kk); omega)) ((Below.refl _ wC).alloc (Nat.le_refl _) _), below_alloc0 BC.out _⟩
          exact AllReadyH.nil
        exact AllReadyH.nil
      refine AllReadyH.cons rfl (fun K hK => ?_) ?_
      · have BZ : Hid (Below w3.heap.size w3 (wB.alloc (.cells #[.int .i64 0, .slice none 0 0] 28))) := below_alloc0 BB.out _
        have VZB : Hid (Row (wB.alloc (.cells #[.int .i64 0, .slice none 0 0] 28)) wB.heap.size 28 [.int .i64 0, .slice none 0 0]) := row_new wB _ _
        have LB2 : Hid _ := Rep.below LB.out ((Below.refl _ wB).alloc (Nat.le_refl _) (.cells #[.int .i64 0, .slice none 0 0] 28))
        obtain ⟨wZ, hwZ⟩ : ∃ wZ, wZ = wB.alloc (.cells #[.int .i64 0, .slice none 0 0] 28) := ⟨_, rfl⟩
        rw [← hwZ] at BZ VZB LB2
        have HZB : Hid (w3.heap.size ≤ wB.heap.size) := BB.out.size
        go_simp
        rw [← hwZ]
        clear hwZ
        refine hK.out _ _ ?_ (fun hHeld => ?_)
        · try dsimp only
          exact SK_3.out BZ.out
        clear hK K
        refine wpAnyH_ready (rs := [6]) (by kernel_rfl) (by simp) ?_
        refine AllReadyH.cons rfl (fun K hK => ?_) ?_
        · go_simp
          go_at_call 12
          refine Calls.mono (freeResize_u _ _ z _ _ _ l LB2.out (z + kk)) ?_
          rintro e wC ⟨vC, rfl, hoC, bC⟩
          have BC : Hid (Below w3.heap.size w3 wC) := on BZ.out bC
          obtain ⟨aC, cC, hvC, -, -⟩ := hoC.slice
          subst hvC
          have OC : Hid (OwnS _ _ _ _ _) := hoC
          have VC : Hid (Row wC wB.heap.size 28 [.int .i64 0, .slice none 0 0]) := VZB.out.below bC
          have hlt : Hid (wB.heap.size < wZ.heap.size) := VZB.out.lt
          obtain ⟨g0, g1⟩ := VC.out.two
          have g2 := VC.out.frozen 0
          have g3 := VC.out.frozen 1
          clear hoC bC
          go_simp
          refine hK.out _ _ ?_ (fun hHeld => ?_)
          · try dsimp only
            exact SK_3.out BC.out
          clear hK K
          refine wpAnyH_takeL (i := 7) (v := ?_) rfl rfl (by kernel_rfl) (by kernel_rfl) (by kernel_rfl) (fun _ _ _ h => h) (Or.inl ⟨by rfl, ?_⟩) (by assumption) ?_
          rotate_left
          · intro w hSw
            try dsimp only at hSw
            go_simp
            all_goals with_reducible rfl
          simp only [List.set_cons_zero, List.set_cons_succ]
          refine wpAnyH_takeL (i := 8) (v := ?_) rfl rfl (by kernel_rfl) (by kernel_rfl) (by kernel_rfl) (fun _ _ _ h => h) (Or.inl ⟨by rfl, ?_⟩) (by assumption) ?_
          rotate_left
          · intro w hSw
            try dsimp only at hSw
            go_simp
            all_goals with_reducible rfl
          simp only [List.set_cons_zero, List.set_cons_succ]
          refine wpAnyH_takeL (i := 9) (v := ?_) rfl rfl (by kernel_rfl) (by kernel_rfl) (by kernel_rfl) (fun _ _ _ h => h) (Or.inl ⟨by rfl, ?_⟩) (by assumption) ?_
          rotate_left
          · intro w hSw
            try dsimp only at hSw
            go_simp
            all_goals with_reducible rfl
          simp only [List.set_cons_zero, List.set_cons_succ]
          refine wpAnyH_ready (rs := [11]) (by kernel_rfl) (by simp) ?_
          refine AllReadyH.cons rfl (fun K hK => ?_) ?_
          · go_simp
            refine hK.out _ _ ?_ (fun hHeld => ?_)
            · try dsimp only
              exact SK_3.out ((BC.out.setCell (p := ⟨wB.heap.size, 0, none⟩) HZB.out _).setCell (p := ⟨wB.heap.size, 1, none⟩) HZB.out _)
            clear hK K
            refine wpAnyH_takeL (i := 12) (v := ?_) rfl rfl (by kernel_rfl) (by kernel_rfl) (by kernel_rfl) (fun _ _ _ h => h) (Or.inl ⟨by rfl, ?_⟩) (by assumption) ?_
            rotate_left
            · intro w hSw
              try dsimp only at hSw
              go_simp
              all_goals with_reducible rfl
            simp only [List.set_cons_zero, List.set_cons_succ]
            refine wpAnyH_done (by kernel_rfl) ?_ _
            clear hHeld
            go_wp2_with fail
            go_meet
            obtain ⟨w9, hw9, V9, K9⟩ := VC.out.whole2 (.int .i64 (Fr.resizeZ z l (z + kk))) (.slice aC (Fr.resizeL z l (z + kk)).length cC)
            rw [hw9]
            exact ⟨wB.heap.size, aC, cC, rfl, rfl, V9, ((OC.out.keptL K9 hlt.out).mono BZ.out.size).rd (by have := Fr.resizeL_len z l (z + kk); omega), Kept.belowOf BC.out K9 HZB.out⟩
          exact AllReadyH.nil
        exact AllReadyH.nil
      exact AllReadyH.nil
    refine AllReadyH.cons rfl (fun K hK => ?_) ?_
    · have BZ : Hid (Below w3.heap.size w3 (w3.alloc (.cells #[.int .i64 0, .slice none 0 0] 28)).drew) := ((Below.refl _ w3).alloc (Nat.le_refl _) _).drew
      have VZ : Hid (Row (w3.alloc (.cells #[.int .i64 0, .slice none 0 0] 28)).drew w3.heap.size 28 [.int .i64 0, .slice none 0 0]) := (row_new w3 _ _).keep rfl
      obtain ⟨wZ, hwZ⟩ : ∃ wZ, wZ = (w3.alloc (.cells #[.int .i64 0, .slice none 0 0] 28)).drew := ⟨_, rfl⟩
      rw [← hwZ] at BZ VZ
      go_simp
      rw [← hwZ]
      clear hwZ
      refine hK.out _ _ ?_ (fun hHeld => ?_)
      · try dsimp only
        exact SK_3.out BZ.out
      clear hK K
      refine wpAnyH_ready (rs := [1]) (by kernel_rfl) (by simp) ?_
      refine AllReadyH.cons rfl (fun K hK => ?_) ?_
      · go_simp
        go_at_call 7
        refine Calls.mono (of_u _ _ z a n c (l) (Rep.below Ls_3.out (BZ.out))) ?_
        rintro e wB ⟨vB, rfl, hoB, bB⟩
        have BB : Hid (Below w3.heap.size w3 wB) := on BZ.out bB
        obtain ⟨aB, cB, hvB, -, -⟩ := hoB.slice
        subst hvB
        have VZB : Hid (Row wB w3.heap.size 28 [.int .i64 0, .slice none 0 0]) := VZ.out.below bB
        have LB : Hid (rSpns.rd wB (fun b => wZ.heap.size ≤ b) [.slice aB (l).length cB] (l)) := hoB.rd HLB.out
        clear hoB bB
        go_simp
        refine hK.out _ _ ?_ (fun hHeld => ?_)
        · try dsimp only
          exact SK_3.out BB.out
        clear hK K
        refine wpAnyH_ready (rs := [6]) (by kernel_rfl) (by simp) ?_
        refine AllReadyH.cons rfl (fun K hK => ?_) ?_
        · go_simp
          go_at_call 12
          refine Calls.mono (freeResize_u _ _ z _ _ _ l LB.out (z + kk)) ?_
          rintro e wC ⟨vC, rfl, hoC, bC⟩
          have BC : Hid (Below w3.heap.size w3 wC) := on BB.out bC
          obtain ⟨aC, cC, hvC, -, -⟩ := hoC.slice
          subst hvC
          have OC : Hid (OwnS _ _ _ _ _) := hoC
          have VC : Hid (Row wC w3.heap.size 28 [.int .i64 0, .slice none 0 0]) := VZB.out.below bC
          have hlt : Hid (w3.heap.size < wB.heap.size) := VZB.out.lt
          obtain ⟨g0, g1⟩ := VC.out.two
          have g2 := VC.out.frozen 0
          have g3 := VC.out.frozen 1
          clear hoC bC
          go_simp
          refine hK.out _ _ ?_ (fun hHeld => ?_)
          · try dsimp only
            exact SK_3.out BC.out
          clear hK K
          refine wpAnyH_takeL (i := 7) (v := ?_) rfl rfl (by kernel_rfl) (by kernel_rfl) (by kernel_rfl) (fun _ _ _ h => h) (Or.inl ⟨by rfl, ?_⟩) (by assumption) ?_
          rotate_left
          · intro w hSw
            try dsimp only at hSw
            go_simp
            all_goals with_reducible rfl
          simp only [List.set_cons_zero, List.set_cons_succ]
          refine wpAnyH_takeL (i := 8) (v := ?_) rfl rfl (by kernel_rfl) (by kernel_rfl) (by kernel_rfl) (fun _ _ _ h => h) (Or.inl ⟨by rfl, ?_⟩) (by assumption) ?_
          rotate_left
          · intro w hSw
            try dsimp only at hSw
            go_simp
            all_goals with_reducible rfl
          simp only [List.set_cons_zero, List.set_cons_succ]
          refine wpAnyH_takeL (i := 9) (v := ?_) rfl rfl (by kernel_rfl) (by kernel_rfl) (by kernel_rfl) (fun _ _ _ h => h) (Or.inl ⟨by rfl, ?_⟩) (by assumption) ?_
          rotate_left
          · intro w hSw
            try dsimp only at hSw
            go_simp
            all_goals with_reducible rfl
          simp only [List.set_cons_zero, List.set_cons_succ]
          refine wpAnyH_ready (rs := [11]) (by kernel_rfl) (by simp) ?_
          refine AllReadyH.cons rfl (fun K hK => ?_) ?_
          · go_simp
            refine hK.out _ _ ?_ (fun hHeld => ?_)
            · try dsimp only
              exact SK_3.out ((BC.out.setCell (p := ⟨w3.heap.size, 0, none⟩) (Nat.le_refl _) _).setCell (p := ⟨w3.heap.size, 1, none⟩) (Nat.le_refl _) _)
            clear hK K
            refine wpAnyH_takeL (i := 12) (v := ?_) rfl rfl (by kernel_rfl) (by kernel_rfl) (by kernel_rfl) (fun _ _ _ h => h) (Or.inl ⟨by rfl, ?_⟩) (by assumption) ?_
            rotate_left
            · intro w hSw
              try dsimp only at hSw
              go_simp
              all_goals with_reducible rfl
            simp only [List.set_cons_zero, List.set_cons_succ]
            refine wpAnyH_done (by kernel_rfl) ?_ _
            clear hHeld
            go_wp2_with fail
            go_meet
            obtain ⟨w9, hw9, V9, K9⟩ := VC.out.whole2 (.int .i64 (Fr.resizeZ z l (z + kk))) (.slice aC (Fr.resizeL z l (z + kk)).length cC)
            rw [hw9]
            exact ⟨w3.heap.size, aC, cC, rfl, rfl, V9, ((OC.out.keptL K9 hlt.out).mono BB.out.size).rd (by have := Fr.resizeL_len z l (z + kk); omega), Kept.belowOf BC.out K9 (Nat.le_refl _)⟩
          exact AllReadyH.nil
        exact AllReadyH.nil
      exact AllReadyH.nil
    exact AllReadyH.nil
  case rest =>
    obtain ⟨vbf, af, cf, rfl, rfl, Rf_4, Lf_4, bc4⟩ := hcut
    obtain ⟨w4, hw4⟩ : ∃ w4, w4 = wc := ⟨_, rfl⟩
    subst hw4
    clear SK_3
    have Rs_4 : Hid (Row w4 (W.heap.size) 24 [.int .i64 z, .slice a n c]) := Rs_3.out.below bc4.out
    have Ls_4 : Hid (rSpns.rd w4 (fun b => b < W.heap.size) [.slice a n c] (l)) := Rep.below Ls_3.out bc4.out
    have B_4 : Hid (Below W.heap.size W w4) := on B_3.out bc4.out
    clear qs0 qs1
    clear Rs_3 Ls_3
    clear bc4
    rw [G2.out, G3.out] at Rf_4
    rw [G2.out] at Lf_4
    rw [G1.out]
    obtain ⟨qf0, qf1⟩ := Rf_4.out.two
    obtain ⟨qs0, qs1⟩ := Rs_4.out.two
    go_wp2_with (go_at_call 8; refine (num6_u _ _).mono ?_; rintro e w99 ⟨rfl, rfl⟩)
    refine (freeResize_u _ _ (z + kk) _ _ _ L Lf_4.out z).mono ?_
    rintro e w5 ⟨v5, rfl, ho5, b5⟩
    rw [G6.out] at ho5
    rw [G5.out, G7.out]
    obtain ⟨ag, cg, hv5, -, -⟩ := ho5.slice
    subst hv5
    have Lg_5 : Hid (rSpns.rd w5 (fun b => w4.heap.size ≤ b) [.slice ag (l).length cg] (l)) := ho5.rd (HLB.out)
    have Rs_5 : Hid (Row w5 (W.heap.size) 24 [.int .i64 z, .slice a n c]) := Rs_4.out.below b5
    have Rf_5 : Hid (Row w5 (vbf) 28 [.int .i64 (z + kk), .slice af (L).length cf]) := Rf_4.out.below b5
    have Ls_5 : Hid (rSpns.rd w5 (fun b => b < W.heap.size) [.slice a n c] (l)) := Rep.below Ls_4.out b5
    have Lf_5 : Hid (rSpns.rd w5 (fun b => w3.heap.size ≤ b) [.slice af (L).length cf] (L)) := Rep.below Lf_4.out b5
    have B_5 : Hid (Below W.heap.size W w5) := on B_4.out b5
    clear qf0 qf1 qs0 qs1
    clear Rs_4 Rf_4 Ls_4 Lf_4
    clear ho5 b5
    obtain ⟨w6, hw6, V6, b6, z6⟩ := boxedRow w5 28 [.int .i64 (z), .slice ag (l).length cg]
    have Rg_6 : Hid (Row w6 w5.heap.size 28 [.int .i64 (z), .slice ag (l).length cg]) := V6
    have Rs_6 : Hid (Row w6 (W.heap.size) 24 [.int .i64 z, .slice a n c]) := Rs_5.out.below b6
    have Rf_6 : Hid (Row w6 (vbf) 28 [.int .i64 (z + kk), .slice af (L).length cf]) := Rf_5.out.below b6
    have Ls_6 : Hid (rSpns.rd w6 (fun b => b < W.heap.size) [.slice a n c] (l)) := Rep.below Ls_5.out b6
    have Lf_6 : Hid (rSpns.rd w6 (fun b => w3.heap.size ≤ b) [.slice af (L).length cf] (L)) := Rep.below Lf_5.out b6
    have Lg_6 : Hid (rSpns.rd w6 (fun b => w4.heap.size ≤ b) [.slice ag (l).length cg] (l)) := Rep.below Lg_5.out b6
    have B_6 : Hid (Below W.heap.size W w6) := on B_5.out b6
    clear Rs_5 Rf_5 Ls_5 Lf_5 Lg_5
    clear V6 b6 z6
    obtain ⟨qs0, qs1⟩ := Rs_6.out.two
    go_wp2_with (go_at_call 8; refine (num6_u _ _).mono ?_; rintro e w99 ⟨rfl, rfl⟩)
    refine (of_u _ _ z _ _ _ l Ls_6.out).mono ?_
    rintro e w7 ⟨v7, rfl, ho7, b7⟩
    obtain ⟨ao, co, hv7, -, -⟩ := ho7.slice
    subst hv7
    have Lo_7 : Hid (rSpns.rd w7 (fun b => w6.heap.size ≤ b) [.slice ao (l).length co] (l)) := ho7.rd (HLB.out)
    have Rs_7 : Hid (Row w7 (W.heap.size) 24 [.int .i64 z, .slice a n c]) := Rs_6.out.below b7
    have Rf_7 : Hid (Row w7 (vbf) 28 [.int .i64 (z + kk), .slice af (L).length cf]) := Rf_6.out.below b7
    have Rg_7 : Hid (Row w7 (w5.heap.size) 28 [.int .i64 (z), .slice ag (l).length cg]) := Rg_6.out.below b7
    have Ls_7 : Hid (rSpns.rd w7 (fun b => b < W.heap.size) [.slice a n c] (l)) := Rep.below Ls_6.out b7
    have Lf_7 : Hid (rSpns.rd w7 (fun b => w3.heap.size ≤ b) [.slice af (L).length cf] (L)) := Rep.below Lf_6.out b7
    have Lg_7 : Hid (rSpns.rd w7 (fun b => w4.heap.size ≤ b) [.slice ag (l).length cg] (l)) := Rep.below Lg_6.out b7
    have B_7 : Hid (Below W.heap.size W w7) := on B_6.out b7
    clear qs0 qs1
    clear Rs_6 Rf_6 Rg_6 Ls_6 Lf_6 Lg_6
    clear ho7 b7
    go_wp2_with (go_at_call 8; refine (num6_u _ _).mono ?_; rintro e w99 ⟨rfl, rfl⟩)
    refine (freeRoom_u _ _ z _ _ _ l Lo_7.out).mono ?_
    rintro e w8 ⟨rfl, b8⟩
    have Rs_8 : Hid (Row w8 (W.heap.size) 24 [.int .i64 z, .slice a n c]) := Rs_7.out.below b8
    have Rf_8 : Hid (Row w8 (vbf) 28 [.int .i64 (z + kk), .slice af (L).length cf]) := Rf_7.out.below b8
    have Rg_8 : Hid (Row w8 (w5.heap.size) 28 [.int .i64 (z), .slice ag (l).length cg]) := Rg_7.out.below b8
    have Ls_8 : Hid (rSpns.rd w8 (fun b => b < W.heap.size) [.slice a n c] (l)) := Rep.below Ls_7.out b8
    have Lf_8 : Hid (rSpns.rd w8 (fun b => w3.heap.size ≤ b) [.slice af (L).length cf] (L)) := Rep.below Lf_7.out b8
    have Lg_8 : Hid (rSpns.rd w8 (fun b => w4.heap.size ≤ b) [.slice ag (l).length cg] (l)) := Rep.below Lg_7.out b8
    have Lo_8 : Hid (rSpns.rd w8 (fun b => w6.heap.size ≤ b) [.slice ao (l).length co] (l)) := Rep.below Lo_7.out b8
    have B_8 : Hid (Below W.heap.size W w8) := on B_7.out b8
    clear Rs_7 Rf_7 Rg_7 Ls_7 Lf_7 Lg_7 Lo_7
    clear b8
    clear Lo_8
    rw [HCE.out]
    obtain ⟨qf0, qf1⟩ := Rf_8.out.two
    go_wp2_with (go_at_call 8; refine (num6_u _ _).mono ?_; rintro e w99 ⟨rfl, rfl⟩)
    refine (freeRoom_u _ _ (z + kk) _ _ _ L Lf_8.out).mono ?_
    rintro e w9 ⟨rfl, b9⟩
    have Rs_9 : Hid (Row w9 (W.heap.size) 24 [.int .i64 z, .slice a n c]) := Rs_8.out.below b9
    have Rf_9 : Hid (Row w9 (vbf) 28 [.int .i64 (z + kk), .slice af (L).length cf]) := Rf_8.out.below b9
    have Rg_9 : Hid (Row w9 (w5.heap.size) 28 [.int .i64 (z), .slice ag (l).length cg]) := Rg_8.out.below b9
    have Ls_9 : Hid (rSpns.rd w9 (fun b => b < W.heap.size) [.slice a n c] (l)) := Rep.below Ls_8.out b9
    have Lf_9 : Hid (rSpns.rd w9 (fun b => w3.heap.size ≤ b) [.slice af (L).length cf] (L)) := Rep.below Lf_8.out b9
    have Lg_9 : Hid (rSpns.rd w9 (fun b => w4.heap.size ≤ b) [.slice ag (l).length cg] (l)) := Rep.below Lg_8.out b9
    have B_9 : Hid (Below W.heap.size W w9) := on B_8.out b9
    clear qf0 qf1
    clear Rs_8 Rf_8 Rg_8 Ls_8 Lf_8 Lg_8
    clear b9
    rw [G8.out]
    have hsum : IntKind.i64.wrap (Fr.roomA (z + kk) L - Fr.roomA z l) = kk := by rw [IntKind.wrap_i64]; omega
    have hb : (Fr.roomA (z + kk) L - Fr.roomA z l == kk) = true := beq_iff_eq.2 g9
    obtain ⟨qg0, qg1⟩ := Rg_9.out.two
    obtain ⟨qs0, qs1⟩ := Rs_9.out.two
    go_wp2_with (go_at_call 8; refine (num6_u _ _).mono ?_; rintro e w99 ⟨rfl, rfl⟩)
    refine (alike_u _ _ _ z _ _ _ _ _ _ l Lg_9.out Ls_9.out).mono ?_
    rintro e w10 ⟨rfl, b10⟩
    have Rs_10 : Hid (Row w10 (W.heap.size) 24 [.int .i64 z, .slice a n c]) := Rs_9.out.below b10
    have Rf_10 : Hid (Row w10 (vbf) 28 [.int .i64 (z + kk), .slice af (L).length cf]) := Rf_9.out.below b10
    have Rg_10 : Hid (Row w10 (w5.heap.size) 28 [.int .i64 (z), .slice ag (l).length cg]) := Rg_9.out.below b10
    have Ls_10 : Hid (rSpns.rd w10 (fun b => b < W.heap.size) [.slice a n c] (l)) := Rep.below Ls_9.out b10
    have Lf_10 : Hid (rSpns.rd w10 (fun b => w3.heap.size ≤ b) [.slice af (L).length cf] (L)) := Rep.below Lf_9.out b10
    have Lg_10 : Hid (rSpns.rd w10 (fun b => w4.heap.size ≤ b) [.slice ag (l).length cg] (l)) := Rep.below Lg_9.out b10
    have B_10 : Hid (Below W.heap.size W w10) := on B_9.out b10
    clear qg0 qg1 qs0 qs1
    clear Rs_9 Rf_9 Rg_9 Ls_9 Lf_9 Lg_9
    clear b10
    go_wp2_with (go_at_call 8; refine (num6_u _ _).mono ?_; rintro e w99 ⟨rfl, rfl⟩)
    go_ret
    exact ⟨rfl, B_10.out⟩

set_option maxRecDepth 100000 in
theorem fgrows_lifted (os : Os) (started : os.Started) (H : Type) (enc : TypeId × Value → H) :
    ReturnsInHanded {} Try.checked os 4 .any (Rows.freeGrowsSpec.pre6 enc Try.prog Try.f4 Rows.freeGrowsRow.domain false) (Rows.freeGrowsSpec.post enc Try.prog Try.f4 false true false false) := by
  refine returnsInHanded_of_change_sized (C := Try.checked) own started (by kernel_rfl) Try.func4
    (ChangeSpec.witness6 (enc := enc) (C := Try.checked) false ⟨#[], #[.agg #[.int .i64 0, .slice none 0 0], .int .i64 0], []⟩ 8 (by kernel_rfl) (by kernel_rfl) (by kernel_rfl) (by kernel_rfl)) ?_
  intro W base args ds gs before hval0 hW _ hsz0 _
  have hsz : (DataW.weightsEach Try.prog (Try.f4.params.toList ++ Rows.freeGrowsSpec.plain.varTypes Try.prog) (ds ++ gs)).all (· ≤ reachBytes) = true := hsz0
  clear hsz0
  have hval : ∀ (j : Nat) t v, Try.f4.params[j]? = some t → args[j]? = some v → Value.okWide Try.prog W .any base t v := hval0
  have hW' := hW
  obtain ⟨p, q, hA0, hV, rfl, hfz, hnd⟩ := hW
  have hA : DataW.TrodAll enc Try.prog W 0 (fun _ => true) true Try.f4.params.toList args.toList ds p := hA0
  rw [Try.params4] at hA hval hsz
  obtain ⟨v0, vs0, d0, ds0, p0, q0, hargs, rfl, rfl, h0, r0⟩ := trodAll_cons hA
  obtain ⟨v1, vs1, d1, ds1, p1, q1, rfl, rfl, rfl, h1, r1⟩ := trodAll_cons r0
  obtain ⟨rfl, rfl, rfl⟩ := trodAll_nil r1
  obtain rfl : args = #[v0, v1] := by cases args; simp_all
  obtain ⟨rfl, rfl⟩ := trodVars_none hV
  obtain ⟨c0, rfl, -⟩ := okWide_struct Try.underlying24 (hval 0 24 v0 rfl rfl)
  have k0 := h0
  have lt0 : ∀ x ∈ p0, x.block < W.heap.size := by obtain ⟨m, hm⟩ := k0; exact DataW.trod_lt m _ _ _ hm
  obtain ⟨x0, hx0⟩ := opens_state.arg h0 hsz (j := 0) rfl rfl
  obtain ⟨a1, rfl, rfl, rfl, w1⟩ := open_int Try.underlying3 (hval 1 3 v1 rfl rfl) h1
  have i1 := bounds_i64 w1
  clear hA0 hval0
  refine (fgrows_walk c0.toList x0 a1 W hx0 (by omega) (by omega)).mono fun e W' ⟨he, bel⟩ => ?_
  subst he
  exact ⟨_, rfl, _, _, _, [], _, [], hW', trodAll_mk1 (shut_bool Try.underlying4 _), (trodAll_cons_mk (Below.trod laidOut (by kernel_rfl) (of_decide_eq_true (by kernel_rfl)) k0 bel lt0) (trodAll_cons_mk (shut_int Try.underlying3 w1) trodAll_mk0)), rfl, bel.frame _, fun h => by cases h⟩

theorem freeGrows_holds : Rows.FreeGrowsSaid :=
  OpenClaim.holds_of_wide 4 Try.f4 rfl rfl rfl rfl rfl rfl rfl ⟨rfl, rfl, rfl, rfl, rfl⟩ rfl rfl rfl rfl rfl (by kernel_rfl) Try.func4 (by kernel_rfl)
    (of_decide_eq_true (by kernel_rfl)) (by unfold Func.isWrapper; first | (rw [if_pos (by decide +kernel)]; kernel_rfl) | (rw [if_neg (by decide +kernel)]; exact ⟨rfl, rfl⟩))
    (fun os started H enc _ => fgrows_lifted os started H enc)

end Go.Proofs.Ytbbjbajdoekheab
