/-
  Taken sectors are as many fewer, freed ones as many more, and the state may be: at whatever state and span. Conditions: none.
-/
import Derived.Test.YtbbjbajdoekheaaFAlive
import Derived.Test.YtbbjbajdoekheaaFFrame
import Derived.Test.YtbbjbajdoekheaaFBack
import Derived.Test.YtbbjbajdoekheaaYH
namespace Go.Proofs.Ytbbjbajdoekheaa
open Go.ChangeShapes Go.WideShapes Go.ChangeAt Go.RowKit
set_option linter.unusedVariables false

set_option maxRecDepth 20000 in
set_option maxHeartbeats 8000000 in
theorem fcounts_walk (cs : List Value) (st : Int × List Spn) (xs : List Value) (x : Spn) (W : World) (h0 : rState.rd W (fun b => b < W.heap.size) cs st) (h1 : rSpn.rd W (fun b => b < W.heap.size) xs x) :
    Calls Try.prog 7 #[.agg cs.toArray, .agg xs.toArray] W fun e W' => e = .returned (.bool true) ∧ Below W.heap.size W W' := by
  obtain ⟨a, n, c, rfl, hz, hL⟩ := rState_rd h0
  obtain ⟨z, l⟩ := st
  simp only at hz hL
  have HL : Hid (l.length = n) := (rList_len hL).1
  have HLB : Hid (l.length ≤ 8796093021952) := by unfold Hid; rw [HL.out]; have h : n * 16 ≤ 140737488351232 := (rList_len hL).2.2.2; omega
  have HZI : Hid (In64 z) := hz
  obtain ⟨rfl, hx2⟩ := rSpn_rd.1 h1
  have HX : Hid (In2 x) := hx2
  rw [show (spn2 x).toArray = #[.int .i64 x.1, .int .i64 x.2] from rfl]
  rw [show ([.int .i64 z, .slice a n c] : List Value).toArray = #[.int .i64 z, .slice a n c] from rfl]
  obtain ⟨w0, hw0, V0, b0, z0⟩ := boxedRow W 24 [.int .i64 z, .slice a n c]
  obtain ⟨w1, hw1, V1, b1, z1⟩ := boxedRow w0 26 [.int .i64 x.1, .int .i64 x.2]
  rw [z0] at V1
  have Rs_1 : Hid (Row w1 W.heap.size 24 [.int .i64 z, .slice a n c]) := V0.below b1
  have Rx_1 : Hid (Row w1 (W.heap.size + 1) 26 [.int .i64 x.1, .int .i64 x.2]) := V1
  have B_1 : Hid (Below W.heap.size W w1) := on b0 b1
  have Ls_1 : Hid (rSpns.rd w1 (fun b => b < W.heap.size) [.slice a n c] (l)) := Rep.below hL B_1.out
  clear V0 V1 b0 b1 z1 h0 h1 hL hz hx2
  go_enter Try.func7, Try.ntmps7
  go_wp2_with fail
  refine (alive6_u _).mono ?_
  rintro e w2 ⟨rfl, b2⟩
  have Rs_2 : Hid (Row w2 (W.heap.size) 24 [.int .i64 z, .slice a n c]) := Rs_1.out.below b2
  have Rx_2 : Hid (Row w2 (W.heap.size + 1) 26 [.int .i64 x.1, .int .i64 x.2]) := Rx_1.out.below b2
  have Ls_2 : Hid (rSpns.rd w2 (fun b => b < W.heap.size) [.slice a n c] (l)) := Rep.below Ls_1.out b2
  have B_2 : Hid (Below W.heap.size W w2) := on B_1.out b2
  clear Rs_1 Rx_1 Ls_1
  clear b2
  obtain ⟨qs0, qs1⟩ := Rs_2.out.two
  go_wp2_with (go_at_call 18; refine (num6_u _ _).mono ?_; rintro e w99 ⟨rfl, rfl⟩)
  refine (of_u _ _ z _ _ _ l Ls_2.out).mono ?_
  rintro e w3 ⟨v3, rfl, ho3, b3⟩
  obtain ⟨ao, co, hv3, -, -⟩ := ho3.slice
  subst hv3
  have Lo_3 : Hid (rSpns.rd w3 (fun b => w2.heap.size ≤ b) [.slice ao (l).length co] (l)) := ho3.rd (HLB.out)
  have Rs_3 : Hid (Row w3 (W.heap.size) 24 [.int .i64 z, .slice a n c]) := Rs_2.out.below b3
  have Rx_3 : Hid (Row w3 (W.heap.size + 1) 26 [.int .i64 x.1, .int .i64 x.2]) := Rx_2.out.below b3
  have Ls_3 : Hid (rSpns.rd w3 (fun b => b < W.heap.size) [.slice a n c] (l)) := Rep.below Ls_2.out b3
  have B_3 : Hid (Below W.heap.size W w3) := on B_2.out b3
  clear qs0 qs1
  clear Rs_2 Rx_2 Ls_2
  clear ho3 b3
  go_wp2_with (go_at_call 18; refine (num6_u _ _).mono ?_; rintro e w99 ⟨rfl, rfl⟩)
  refine (freeRoom_u _ _ z _ _ _ l Lo_3.out).mono ?_
  rintro e w4 ⟨rfl, b4⟩
  have Rs_4 : Hid (Row w4 (W.heap.size) 24 [.int .i64 z, .slice a n c]) := Rs_3.out.below b4
  have Rx_4 : Hid (Row w4 (W.heap.size + 1) 26 [.int .i64 x.1, .int .i64 x.2]) := Rx_3.out.below b4
  have Ls_4 : Hid (rSpns.rd w4 (fun b => b < W.heap.size) [.slice a n c] (l)) := Rep.below Ls_3.out b4
  have Lo_4 : Hid (rSpns.rd w4 (fun b => w2.heap.size ≤ b) [.slice ao (l).length co] (l)) := Rep.below Lo_3.out b4
  have B_4 : Hid (Below W.heap.size W w4) := on B_3.out b4
  clear Rs_3 Rx_3 Ls_3 Lo_3
  clear b4
  clear Lo_4
  have SK_4 : Hid (∀ {w' : World}, Below w4.heap.size w4 w' → w'.cell? ⟨W.heap.size, 0, none⟩ = some (.int .i64 z) ∧ w'.cell? ⟨W.heap.size, 1, none⟩ = some (.slice a n c) ∧ w'.cell? ⟨W.heap.size + 1, 0, none⟩ = some (.int .i64 x.1) ∧ w'.cell? ⟨W.heap.size + 1, 1, none⟩ = some (.int .i64 x.2)) := fun b => ⟨(Rs_4.out.below b).two.1, (Rs_4.out.below b).two.2, (Rx_4.out.below b).two.1, (Rx_4.out.below b).two.2⟩
  obtain ⟨qs0, qs1⟩ := Rs_4.out.two
  obtain ⟨qx0, qx1⟩ := Rx_4.out.two
  go_wp2_with (go_at_call 18; refine (num6_u _ _).mono ?_; rintro e w99 ⟨rfl, rfl⟩)
  go_cut [8, 9] (fun t er wx => ∃ vb av cv, t = .pointer (some ⟨vb, 0, none⟩) ∧ er = .int .i64 (Fr.takeE z l x) ∧ Hid (Row wx vb 27 [.int .i64 (Fr.takeZ z l x), .slice av (Fr.takeL z l x).length cv]) ∧ Hid (rSpns.rd wx (fun b => w4.heap.size ≤ b) [.slice av (Fr.takeL z l x).length cv] (Fr.takeL z l x)) ∧ Hid (Below w4.heap.size w4 wx))
  case first =>
    refine wp_region_held_drew (S := (fun w' : World => w'.cell? ⟨W.heap.size, 0, none⟩ = some (.int .i64 z) ∧ w'.cell? ⟨W.heap.size, 1, none⟩ = some (.slice a n c) ∧ w'.cell? ⟨W.heap.size + 1, 0, none⟩ = some (.int .i64 x.1) ∧ w'.cell? ⟨W.heap.size + 1, 1, none⟩ = some (.int .i64 x.2))) (by kernel_rfl) (SK_4.out (Below.refl _ _).drew) (fun hHeld => ?_)
    refine wpAnyH_takeL (i := 0) (v := ?_) rfl rfl (by kernel_rfl) (by kernel_rfl) (by kernel_rfl) (fun _ _ _ h => h) (Or.inl ⟨by rfl, ?_⟩) (by assumption) ?_
    rotate_left
    · intro w hSw
      try dsimp only at hSw
      go_simp
      all_goals with_reducible rfl
    simp only [List.set_cons_zero, List.set_cons_succ]
    refine wpAnyH_takeL (i := 2) (v := ?_) rfl rfl (by kernel_rfl) (by kernel_rfl) (by kernel_rfl) (fun _ _ _ h => h) (Or.inl ⟨by rfl, ?_⟩) (by assumption) ?_
    rotate_left
    · intro w hSw
      try dsimp only at hSw
      go_simp
      all_goals with_reducible rfl
    simp only [List.set_cons_zero, List.set_cons_succ]
    refine wpAnyH_ready (rs := [1, 7]) (by kernel_rfl) (by simp) ?_
    refine AllReadyH.cons rfl (fun K hK => ?_) ?_
    · go_simp
      go_at_call 9
      refine Calls.mono (of_u _ _ z a n c (l) (Rep.below Ls_4.out ((Below.refl _ _).drew))) ?_
      rintro e wB ⟨vB, rfl, hoB, bB⟩
      have BB : Hid (Below w4.heap.size w4 wB) := below_drew_pre0 bB
      obtain ⟨aB, cB, hvB, -, -⟩ := hoB.slice
      subst hvB
      have LB : Hid (rSpns.rd wB (fun b => w4.drew.heap.size ≤ b) [.slice aB (l).length cB] (l)) := hoB.rd HLB.out
      clear hoB bB
      go_simp
      refine hK.out _ _ ?_ (fun hHeld => ?_)
      · try dsimp only
        exact SK_4.out BB.out
      clear hK K
      refine wpAnyH_ready (rs := [3, 7]) (by kernel_rfl) (by simp) ?_
      refine AllReadyH.cons rfl (fun K hK => ?_) ?_
      · go_simp
        go_at_call 14
        refine Calls.mono (freeTake_u _ _ z _ _ _ l LB.out x HX.out) ?_
        rintro e wC ⟨vC, rfl, hoC, bC⟩
        have BC : Hid (Below w4.heap.size w4 wC) := on BB.out bC
        obtain ⟨aC, cC, hvC, -, -⟩ := hoC.slice
        subst hvC
        have OC : Hid (OwnS _ _ _ _ _) := hoC
        clear hoC bC
        go_simp
        refine hK.out _ _ ?_ (fun hHeld => ?_)
        · try dsimp only
          exact SK_4.out BC.out
        clear hK K
        refine wpAnyH_takeL (i := 4) (v := ?_) rfl rfl (by kernel_rfl) (by kernel_rfl) (by kernel_rfl) (fun _ _ _ h => h) (Or.inl ⟨by rfl, ?_⟩) (by assumption) ?_
        rotate_left
        · intro w hSw
          try dsimp only at hSw
          go_simp
          all_goals with_reducible rfl
        simp only [List.set_cons_zero, List.set_cons_succ]
        refine wpAnyH_takeL (i := 5) (v := ?_) rfl rfl (by kernel_rfl) (by kernel_rfl) (by kernel_rfl) (fun _ _ _ h => h) (Or.inl ⟨by rfl, ?_⟩) (by assumption) ?_
        rotate_left
        · intro w hSw
          try dsimp only at hSw
          go_simp
          all_goals with_reducible rfl
        simp only [List.set_cons_zero, List.set_cons_succ]
        refine wpAnyH_takeL (i := 6) (v := ?_) rfl rfl (by kernel_rfl) (by kernel_rfl) (by kernel_rfl) (fun _ _ _ h => h) (Or.inl ⟨by rfl, ?_⟩) (by assumption) ?_
        rotate_left
        · intro w hSw
          try dsimp only at hSw
          go_simp
          all_goals with_reducible rfl
        simp only [List.set_cons_zero, List.set_cons_succ]
        refine wpAnyH_ready (rs := [7]) (by kernel_rfl) (by simp) ?_
        refine AllReadyH.cons rfl (fun K hK => ?_) ?_
        · go_simp
          refine hK.out _ _ ?_ (fun hHeld => ?_)
          · try dsimp only
            exact SK_4.out (below_alloc0 BC.out _)
          clear hK K
          refine wpAnyH_ready (rs := [8]) (by kernel_rfl) (by simp) ?_
          refine AllReadyH.cons rfl (fun K hK => ?_) ?_
          · go_simp
            refine hK.out _ _ ?_ (fun hHeld => ?_)
            · try dsimp only
              exact SK_4.out (below_alloc0 BC.out _)
            clear hK K
            refine wpAnyH_takeL (i := 9) (v := ?_) rfl rfl (by kernel_rfl) (by kernel_rfl) (by kernel_rfl) (fun _ _ _ h => h) (Or.inl ⟨by rfl, ?_⟩) (by assumption) ?_
            rotate_left
            · intro w hSw
              try dsimp only at hSw
              go_simp
              all_goals with_reducible rfl
            simp only [List.set_cons_zero, List.set_cons_succ]
            refine wpAnyH_done (by kernel_rfl) ?_ _
            clear hHeld
            go_wp2_with fail
            go_meet
            exact ⟨wC.heap.size, aC, cC, rfl, rfl, row_new _ _ _, Rep.below ((OC.out.mono BB.out.size).rd (by have := Fr.takeL_len z l x; omega)) ((Below.refl _ wC).alloc (Nat.le_refl _) _), below_alloc0 BC.out _⟩
          exact AllReadyH.nil
        exact AllReadyH.nil
      refine AllReadyH.cons rfl (fun K hK => ?_) ?_
      · have BZ : Hid (Below w4.heap.size w4 (wB.alloc (.cells #[.int .i64 0, .slice none 0 0] 27))) := below_alloc0 BB.out _
        have VZB : Hid (Row (wB.alloc (.cells #[.int .i64 0, .slice none 0 0] 27)) wB.heap.size 27 [.int .i64 0, .slice none 0 0]) := row_new wB _ _
        have LB2 : Hid _ := Rep.below LB.out ((Below.refl _ wB).alloc (Nat.le_refl _) (.cells #[.int .i64 0, .slice none 0 0] 27))
        obtain ⟨wZ, hwZ⟩ : ∃ wZ, wZ = wB.alloc (.cells #[.int .i64 0, .slice none 0 0] 27) := ⟨_, rfl⟩
        rw [← hwZ] at BZ VZB LB2
        have HZB : Hid (w4.heap.size ≤ wB.heap.size) := BB.out.size
        go_simp
        rw [← hwZ]
        clear hwZ
        refine hK.out _ _ ?_ (fun hHeld => ?_)
        · try dsimp only
          exact SK_4.out BZ.out
        clear hK K
        refine wpAnyH_ready (rs := [3]) (by kernel_rfl) (by simp) ?_
        refine AllReadyH.cons rfl (fun K hK => ?_) ?_
        · go_simp
          go_at_call 14
          refine Calls.mono (freeTake_u _ _ z _ _ _ l LB2.out x HX.out) ?_
          rintro e wC ⟨vC, rfl, hoC, bC⟩
          have BC : Hid (Below w4.heap.size w4 wC) := on BZ.out bC
          obtain ⟨aC, cC, hvC, -, -⟩ := hoC.slice
          subst hvC
          have OC : Hid (OwnS _ _ _ _ _) := hoC
          have VC : Hid (Row wC wB.heap.size 27 [.int .i64 0, .slice none 0 0]) := VZB.out.below bC
          have hlt : Hid (wB.heap.size < wZ.heap.size) := VZB.out.lt
          obtain ⟨g0, g1⟩ := VC.out.two
          have g2 := VC.out.frozen 0
          have g3 := VC.out.frozen 1
          clear hoC bC
          go_simp
          refine hK.out _ _ ?_ (fun hHeld => ?_)
          · try dsimp only
            exact SK_4.out BC.out
          clear hK K
          refine wpAnyH_takeL (i := 4) (v := ?_) rfl rfl (by kernel_rfl) (by kernel_rfl) (by kernel_rfl) (fun _ _ _ h => h) (Or.inl ⟨by rfl, ?_⟩) (by assumption) ?_
          rotate_left
          · intro w hSw
            try dsimp only at hSw
            go_simp
            all_goals with_reducible rfl
          simp only [List.set_cons_zero, List.set_cons_succ]
          refine wpAnyH_takeL (i := 5) (v := ?_) rfl rfl (by kernel_rfl) (by kernel_rfl) (by kernel_rfl) (fun _ _ _ h => h) (Or.inl ⟨by rfl, ?_⟩) (by assumption) ?_
          rotate_left
          · intro w hSw
            try dsimp only at hSw
            go_simp
            all_goals with_reducible rfl
          simp only [List.set_cons_zero, List.set_cons_succ]
          refine wpAnyH_takeL (i := 6) (v := ?_) rfl rfl (by kernel_rfl) (by kernel_rfl) (by kernel_rfl) (fun _ _ _ h => h) (Or.inl ⟨by rfl, ?_⟩) (by assumption) ?_
          rotate_left
          · intro w hSw
            try dsimp only at hSw
            go_simp
            all_goals with_reducible rfl
          simp only [List.set_cons_zero, List.set_cons_succ]
          refine wpAnyH_ready (rs := [8]) (by kernel_rfl) (by simp) ?_
          refine AllReadyH.cons rfl (fun K hK => ?_) ?_
          · go_simp
            refine hK.out _ _ ?_ (fun hHeld => ?_)
            · try dsimp only
              exact SK_4.out ((BC.out.setCell (p := ⟨wB.heap.size, 0, none⟩) HZB.out _).setCell (p := ⟨wB.heap.size, 1, none⟩) HZB.out _)
            clear hK K
            refine wpAnyH_takeL (i := 9) (v := ?_) rfl rfl (by kernel_rfl) (by kernel_rfl) (by kernel_rfl) (fun _ _ _ h => h) (Or.inl ⟨by rfl, ?_⟩) (by assumption) ?_
            rotate_left
            · intro w hSw
              try dsimp only at hSw
              go_simp
              all_goals with_reducible rfl
            simp only [List.set_cons_zero, List.set_cons_succ]
            refine wpAnyH_done (by kernel_rfl) ?_ _
            clear hHeld
            go_wp2_with fail
            go_meet
            obtain ⟨w9, hw9, V9, K9⟩ := VC.out.whole2 (.int .i64 (Fr.takeZ z l x)) (.slice aC (Fr.takeL z l x).length cC)
            rw [hw9]
            exact ⟨wB.heap.size, aC, cC, rfl, rfl, V9, ((OC.out.keptL K9 hlt.out).mono BZ.out.size).rd (by have := Fr.takeL_len z l x; omega), Kept.belowOf BC.out K9 HZB.out⟩
          exact AllReadyH.nil
        exact AllReadyH.nil
      exact AllReadyH.nil
    refine AllReadyH.cons rfl (fun K hK => ?_) ?_
    · have BZ : Hid (Below w4.heap.size w4 (w4.alloc (.cells #[.int .i64 0, .slice none 0 0] 27)).drew) := ((Below.refl _ w4).alloc (Nat.le_refl _) _).drew
      have VZ : Hid (Row (w4.alloc (.cells #[.int .i64 0, .slice none 0 0] 27)).drew w4.heap.size 27 [.int .i64 0, .slice none 0 0]) := (row_new w4 _ _).keep rfl
      obtain ⟨wZ, hwZ⟩ : ∃ wZ, wZ = (w4.alloc (.cells #[.int .i64 0, .slice none 0 0] 27)).drew := ⟨_, rfl⟩
      rw [← hwZ] at BZ VZ
      go_simp
      rw [← hwZ]
      clear hwZ
      refine hK.out _ _ ?_ (fun hHeld => ?_)
      · try dsimp only
        exact SK_4.out BZ.out
      clear hK K
      refine wpAnyH_ready (rs := [1]) (by kernel_rfl) (by simp) ?_
      refine AllReadyH.cons rfl (fun K hK => ?_) ?_
      · go_simp
        go_at_call 9
        refine Calls.mono (of_u _ _ z a n c (l) (Rep.below Ls_4.out (BZ.out))) ?_
        rintro e wB ⟨vB, rfl, hoB, bB⟩
        have BB : Hid (Below w4.heap.size w4 wB) := on BZ.out bB
        obtain ⟨aB, cB, hvB, -, -⟩ := hoB.slice
        subst hvB
        have VZB : Hid (Row wB w4.heap.size 27 [.int .i64 0, .slice none 0 0]) := VZ.out.below bB
        have LB : Hid (rSpns.rd wB (fun b => wZ.heap.size ≤ b) [.slice aB (l).length cB] (l)) := hoB.rd HLB.out
        clear hoB bB
        go_simp
        refine hK.out _ _ ?_ (fun hHeld => ?_)
        · try dsimp only
          exact SK_4.out BB.out
        clear hK K
        refine wpAnyH_ready (rs := [3]) (by kernel_rfl) (by simp) ?_
        refine AllReadyH.cons rfl (fun K hK => ?_) ?_
        · go_simp
          go_at_call 14
          refine Calls.mono (freeTake_u _ _ z _ _ _ l LB.out x HX.out) ?_
          rintro e wC ⟨vC, rfl, hoC, bC⟩
          have BC : Hid (Below w4.heap.size w4 wC) := on BB.out bC
          obtain ⟨aC, cC, hvC, -, -⟩ := hoC.slice
          subst hvC
          have OC : Hid (OwnS _ _ _ _ _) := hoC
          have VC : Hid (Row wC w4.heap.size 27 [.int .i64 0, .slice none 0 0]) := VZB.out.below bC
          have hlt : Hid (w4.heap.size < wB.heap.size) := VZB.out.lt
          obtain ⟨g0, g1⟩ := VC.out.two
          have g2 := VC.out.frozen 0
          have g3 := VC.out.frozen 1
          clear hoC bC
          go_simp
          refine hK.out _ _ ?_ (fun hHeld => ?_)
          · try dsimp only
            exact SK_4.out BC.out
          clear hK K
          refine wpAnyH_takeL (i := 4) (v := ?_) rfl rfl (by kernel_rfl) (by kernel_rfl) (by kernel_rfl) (fun _ _ _ h => h) (Or.inl ⟨by rfl, ?_⟩) (by assumption) ?_
          rotate_left
          · intro w hSw
            try dsimp only at hSw
            go_simp
            all_goals with_reducible rfl
          simp only [List.set_cons_zero, List.set_cons_succ]
          refine wpAnyH_takeL (i := 5) (v := ?_) rfl rfl (by kernel_rfl) (by kernel_rfl) (by kernel_rfl) (fun _ _ _ h => h) (Or.inl ⟨by rfl, ?_⟩) (by assumption) ?_
          rotate_left
          · intro w hSw
            try dsimp only at hSw
            go_simp
            all_goals with_reducible rfl
          simp only [List.set_cons_zero, List.set_cons_succ]
          refine wpAnyH_takeL (i := 6) (v := ?_) rfl rfl (by kernel_rfl) (by kernel_rfl) (by kernel_rfl) (fun _ _ _ h => h) (Or.inl ⟨by rfl, ?_⟩) (by assumption) ?_
          rotate_left
          · intro w hSw
            try dsimp only at hSw
            go_simp
            all_goals with_reducible rfl
          simp only [List.set_cons_zero, List.set_cons_succ]
          refine wpAnyH_ready (rs := [8]) (by kernel_rfl) (by simp) ?_
          refine AllReadyH.cons rfl (fun K hK => ?_) ?_
          · go_simp
            refine hK.out _ _ ?_ (fun hHeld => ?_)
            · try dsimp only
              exact SK_4.out ((BC.out.setCell (p := ⟨w4.heap.size, 0, none⟩) (Nat.le_refl _) _).setCell (p := ⟨w4.heap.size, 1, none⟩) (Nat.le_refl _) _)
            clear hK K
            refine wpAnyH_takeL (i := 9) (v := ?_) rfl rfl (by kernel_rfl) (by kernel_rfl) (by kernel_rfl) (fun _ _ _ h => h) (Or.inl ⟨by rfl, ?_⟩) (by assumption) ?_
            rotate_left
            · intro w hSw
              try dsimp only at hSw
              go_simp
              all_goals with_reducible rfl
            simp only [List.set_cons_zero, List.set_cons_succ]
            refine wpAnyH_done (by kernel_rfl) ?_ _
            clear hHeld
            go_wp2_with fail
            go_meet
            obtain ⟨w9, hw9, V9, K9⟩ := VC.out.whole2 (.int .i64 (Fr.takeZ z l x)) (.slice aC (Fr.takeL z l x).length cC)
            rw [hw9]
            exact ⟨w4.heap.size, aC, cC, rfl, rfl, V9, ((OC.out.keptL K9 hlt.out).mono BB.out.size).rd (by have := Fr.takeL_len z l x; omega), Kept.belowOf BC.out K9 (Nat.le_refl _)⟩
          exact AllReadyH.nil
        exact AllReadyH.nil
      exact AllReadyH.nil
    exact AllReadyH.nil
  case rest =>
    obtain ⟨vbk, ak, ck, rfl, rfl, Rk_5, Lk_5, bc5⟩ := hcut
    obtain ⟨w5, hw5⟩ : ∃ w5, w5 = wc := ⟨_, rfl⟩
    subst hw5
    clear SK_4
    have Rs_5 : Hid (Row w5 (W.heap.size) 24 [.int .i64 z, .slice a n c]) := Rs_4.out.below bc5.out
    have Rx_5 : Hid (Row w5 (W.heap.size + 1) 26 [.int .i64 x.1, .int .i64 x.2]) := Rx_4.out.below bc5.out
    have Ls_5 : Hid (rSpns.rd w5 (fun b => b < W.heap.size) [.slice a n c] (l)) := Rep.below Ls_4.out bc5.out
    have B_5 : Hid (Below W.heap.size W w5) := on B_4.out bc5.out
    clear qs0 qs1 qx0 qx1
    clear Rs_4 Rx_4 Ls_4
    clear bc5
    have SK_5 : Hid (∀ {w' : World}, Below w5.heap.size w5 w' → w'.cell? ⟨W.heap.size, 0, none⟩ = some (.int .i64 z) ∧ w'.cell? ⟨W.heap.size, 1, none⟩ = some (.slice a n c) ∧ w'.cell? ⟨W.heap.size + 1, 0, none⟩ = some (.int .i64 x.1) ∧ w'.cell? ⟨W.heap.size + 1, 1, none⟩ = some (.int .i64 x.2)) := fun b => ⟨(Rs_5.out.below b).two.1, (Rs_5.out.below b).two.2, (Rx_5.out.below b).two.1, (Rx_5.out.below b).two.2⟩
    obtain ⟨qs0, qs1⟩ := Rs_5.out.two
    obtain ⟨qx0, qx1⟩ := Rx_5.out.two
    go_wp2_with (go_at_call 18; refine (num6_u _ _).mono ?_; rintro e w99 ⟨rfl, rfl⟩)
    go_cut [10, 11] (fun t er wx => ∃ vb av cv, t = .pointer (some ⟨vb, 0, none⟩) ∧ er = .int .i64 (Fr.freeE z l x) ∧ Hid (Row wx vb 27 [.int .i64 (Fr.freeZ z l x), .slice av (Fr.freeL z l x).length cv]) ∧ Hid (rSpns.rd wx (fun b => w5.heap.size ≤ b) [.slice av (Fr.freeL z l x).length cv] (Fr.freeL z l x)) ∧ Hid (Below w5.heap.size w5 wx))
    case first =>
      refine wp_region_held_drew (S := (fun w' : World => w'.cell? ⟨W.heap.size, 0, none⟩ = some (.int .i64 z) ∧ w'.cell? ⟨W.heap.size, 1, none⟩ = some (.slice a n c) ∧ w'.cell? ⟨W.heap.size + 1, 0, none⟩ = some (.int .i64 x.1) ∧ w'.cell? ⟨W.heap.size + 1, 1, none⟩ = some (.int .i64 x.2))) (by kernel_rfl) (SK_5.out (Below.refl _ _).drew) (fun hHeld => ?_)
      refine wpAnyH_takeL (i := 0) (v := ?_) rfl rfl (by kernel_rfl) (by kernel_rfl) (by kernel_rfl) (fun _ _ _ h => h) (Or.inl ⟨by rfl, ?_⟩) (by assumption) ?_
      rotate_left
      · intro w hSw
        try dsimp only at hSw
        go_simp
        all_goals with_reducible rfl
      simp only [List.set_cons_zero, List.set_cons_succ]
      refine wpAnyH_takeL (i := 2) (v := ?_) rfl rfl (by kernel_rfl) (by kernel_rfl) (by kernel_rfl) (fun _ _ _ h => h) (Or.inl ⟨by rfl, ?_⟩) (by assumption) ?_
      rotate_left
      · intro w hSw
        try dsimp only at hSw
        go_simp
        all_goals with_reducible rfl
      simp only [List.set_cons_zero, List.set_cons_succ]
      refine wpAnyH_ready (rs := [1, 7]) (by kernel_rfl) (by simp) ?_
      refine AllReadyH.cons rfl (fun K hK => ?_) ?_
      · go_simp
        go_at_call 9
        refine Calls.mono (of_u _ _ z a n c (l) (Rep.below Ls_5.out ((Below.refl _ _).drew))) ?_
        rintro e wB ⟨vB, rfl, hoB, bB⟩
        have BB : Hid (Below w5.heap.size w5 wB) := below_drew_pre0 bB
        obtain ⟨aB, cB, hvB, -, -⟩ := hoB.slice
        subst hvB
        have LB : Hid (rSpns.rd wB (fun b => w5.drew.heap.size ≤ b) [.slice aB (l).length cB] (l)) := hoB.rd HLB.out
        clear hoB bB
        go_simp
        refine hK.out _ _ ?_ (fun hHeld => ?_)
        · try dsimp only
          exact SK_5.out BB.out
        clear hK K
        refine wpAnyH_ready (rs := [3, 7]) (by kernel_rfl) (by simp) ?_
        refine AllReadyH.cons rfl (fun K hK => ?_) ?_
        · go_simp
          go_at_call 16
          refine Calls.mono (freeFree_u _ _ z _ _ _ l LB.out x HX.out) ?_
          rintro e wC ⟨vC, rfl, hoC, bC⟩
          have BC : Hid (Below w5.heap.size w5 wC) := on BB.out bC
          obtain ⟨aC, cC, hvC, -, -⟩ := hoC.slice
          subst hvC
          have OC : Hid (OwnS _ _ _ _ _) := hoC
          clear hoC bC
          go_simp
          refine hK.out _ _ ?_ (fun hHeld => ?_)
          · try dsimp only
            exact SK_5.out BC.out
          clear hK K
          refine wpAnyH_takeL (i := 4) (v := ?_) rfl rfl (by kernel_rfl) (by kernel_rfl) (by kernel_rfl) (fun _ _ _ h => h) (Or.inl ⟨by rfl, ?_⟩) (by assumption) ?_
          rotate_left
          · intro w hSw
            try dsimp only at hSw
            go_simp
            all_goals with_reducible rfl
          simp only [List.set_cons_zero, List.set_cons_succ]
          refine wpAnyH_takeL (i := 5) (v := ?_) rfl rfl (by kernel_rfl) (by kernel_rfl) (by kernel_rfl) (fun _ _ _ h => h) (Or.inl ⟨by rfl, ?_⟩) (by assumption) ?_
          rotate_left
          · intro w hSw
            try dsimp only at hSw
            go_simp
            all_goals with_reducible rfl
          simp only [List.set_cons_zero, List.set_cons_succ]
          refine wpAnyH_takeL (i := 6) (v := ?_) rfl rfl (by kernel_rfl) (by kernel_rfl) (by kernel_rfl) (fun _ _ _ h => h) (Or.inl ⟨by rfl, ?_⟩) (by assumption) ?_
          rotate_left
          · intro w hSw
            try dsimp only at hSw
            go_simp
            all_goals with_reducible rfl
          simp only [List.set_cons_zero, List.set_cons_succ]
          refine wpAnyH_ready (rs := [7]) (by kernel_rfl) (by simp) ?_
          refine AllReadyH.cons rfl (fun K hK => ?_) ?_
          · go_simp
            refine hK.out _ _ ?_ (fun hHeld => ?_)
            · try dsimp only
              exact SK_5.out (below_alloc0 BC.out _)
            clear hK K
            refine wpAnyH_ready (rs := [8]) (by kernel_rfl) (by simp) ?_
            refine AllReadyH.cons rfl (fun K hK => ?_) ?_
            · go_simp
              refine hK.out _ _ ?_ (fun hHeld => ?_)
              · try dsimp only
                exact SK_5.out (below_alloc0 BC.out _)
              clear hK K
              refine wpAnyH_takeL (i := 9) (v := ?_) rfl rfl (by kernel_rfl) (by kernel_rfl) (by kernel_rfl) (fun _ _ _ h => h) (Or.inl ⟨by rfl, ?_⟩) (by assumption) ?_
              rotate_left
              · intro w hSw
                try dsimp only at hSw
                go_simp
                all_goals with_reducible rfl
              simp only [List.set_cons_zero, List.set_cons_succ]
              refine wpAnyH_done (by kernel_rfl) ?_ _
              clear hHeld
              go_wp2_with fail
              go_meet
              exact ⟨wC.heap.size, aC, cC, rfl, rfl, row_new _ _ _, Rep.below ((OC.out.mono BB.out.size).rd (by have := Fr.freeL_len z l x; omega)) ((Below.refl _ wC).alloc (Nat.le_refl _) _), below_alloc0 BC.out _⟩
            exact AllReadyH.nil
          exact AllReadyH.nil
        refine AllReadyH.cons rfl (fun K hK => ?_) ?_
        · have BZ : Hid (Below w5.heap.size w5 (wB.alloc (.cells #[.int .i64 0, .slice none 0 0] 27))) := below_alloc0 BB.out _
          have VZB : Hid (Row (wB.alloc (.cells #[.int .i64 0, .slice none 0 0] 27)) wB.heap.size 27 [.int .i64 0, .slice none 0 0]) := row_new wB _ _
          have LB2 : Hid _ := Rep.below LB.out ((Below.refl _ wB).alloc (Nat.le_refl _) (.cells #[.int .i64 0, .slice none 0 0] 27))
          obtain ⟨wZ, hwZ⟩ : ∃ wZ, wZ = wB.alloc (.cells #[.int .i64 0, .slice none 0 0] 27) := ⟨_, rfl⟩
          rw [← hwZ] at BZ VZB LB2
          have HZB : Hid (w5.heap.size ≤ wB.heap.size) := BB.out.size
          go_simp
          rw [← hwZ]
          clear hwZ
          refine hK.out _ _ ?_ (fun hHeld => ?_)
          · try dsimp only
            exact SK_5.out BZ.out
          clear hK K
          refine wpAnyH_ready (rs := [3]) (by kernel_rfl) (by simp) ?_
          refine AllReadyH.cons rfl (fun K hK => ?_) ?_
          · go_simp
            go_at_call 16
            refine Calls.mono (freeFree_u _ _ z _ _ _ l LB2.out x HX.out) ?_
            rintro e wC ⟨vC, rfl, hoC, bC⟩
            have BC : Hid (Below w5.heap.size w5 wC) := on BZ.out bC
            obtain ⟨aC, cC, hvC, -, -⟩ := hoC.slice
            subst hvC
            have OC : Hid (OwnS _ _ _ _ _) := hoC
            have VC : Hid (Row wC wB.heap.size 27 [.int .i64 0, .slice none 0 0]) := VZB.out.below bC
            have hlt : Hid (wB.heap.size < wZ.heap.size) := VZB.out.lt
            obtain ⟨g0, g1⟩ := VC.out.two
            have g2 := VC.out.frozen 0
            have g3 := VC.out.frozen 1
            clear hoC bC
            go_simp
            refine hK.out _ _ ?_ (fun hHeld => ?_)
            · try dsimp only
              exact SK_5.out BC.out
            clear hK K
            refine wpAnyH_takeL (i := 4) (v := ?_) rfl rfl (by kernel_rfl) (by kernel_rfl) (by kernel_rfl) (fun _ _ _ h => h) (Or.inl ⟨by rfl, ?_⟩) (by assumption) ?_
            rotate_left
            · intro w hSw
              try dsimp only at hSw
              go_simp
              all_goals with_reducible rfl
            simp only [List.set_cons_zero, List.set_cons_succ]
            refine wpAnyH_takeL (i := 5) (v := ?_) rfl rfl (by kernel_rfl) (by kernel_rfl) (by kernel_rfl) (fun _ _ _ h => h) (Or.inl ⟨by rfl, ?_⟩) (by assumption) ?_
            rotate_left
            · intro w hSw
              try dsimp only at hSw
              go_simp
              all_goals with_reducible rfl
            simp only [List.set_cons_zero, List.set_cons_succ]
            refine wpAnyH_takeL (i := 6) (v := ?_) rfl rfl (by kernel_rfl) (by kernel_rfl) (by kernel_rfl) (fun _ _ _ h => h) (Or.inl ⟨by rfl, ?_⟩) (by assumption) ?_
            rotate_left
            · intro w hSw
              try dsimp only at hSw
              go_simp
              all_goals with_reducible rfl
            simp only [List.set_cons_zero, List.set_cons_succ]
            refine wpAnyH_ready (rs := [8]) (by kernel_rfl) (by simp) ?_
            refine AllReadyH.cons rfl (fun K hK => ?_) ?_
            · go_simp
              refine hK.out _ _ ?_ (fun hHeld => ?_)
              · try dsimp only
                exact SK_5.out ((BC.out.setCell (p := ⟨wB.heap.size, 0, none⟩) HZB.out _).setCell (p := ⟨wB.heap.size, 1, none⟩) HZB.out _)
              clear hK K
              refine wpAnyH_takeL (i := 9) (v := ?_) rfl rfl (by kernel_rfl) (by kernel_rfl) (by kernel_rfl) (fun _ _ _ h => h) (Or.inl ⟨by rfl, ?_⟩) (by assumption) ?_
              rotate_left
              · intro w hSw
                try dsimp only at hSw
                go_simp
                all_goals with_reducible rfl
              simp only [List.set_cons_zero, List.set_cons_succ]
              refine wpAnyH_done (by kernel_rfl) ?_ _
              clear hHeld
              go_wp2_with fail
              go_meet
              obtain ⟨w9, hw9, V9, K9⟩ := VC.out.whole2 (.int .i64 (Fr.freeZ z l x)) (.slice aC (Fr.freeL z l x).length cC)
              rw [hw9]
              exact ⟨wB.heap.size, aC, cC, rfl, rfl, V9, ((OC.out.keptL K9 hlt.out).mono BZ.out.size).rd (by have := Fr.freeL_len z l x; omega), Kept.belowOf BC.out K9 HZB.out⟩
            exact AllReadyH.nil
          exact AllReadyH.nil
        exact AllReadyH.nil
      refine AllReadyH.cons rfl (fun K hK => ?_) ?_
      · have BZ : Hid (Below w5.heap.size w5 (w5.alloc (.cells #[.int .i64 0, .slice none 0 0] 27)).drew) := ((Below.refl _ w5).alloc (Nat.le_refl _) _).drew
        have VZ : Hid (Row (w5.alloc (.cells #[.int .i64 0, .slice none 0 0] 27)).drew w5.heap.size 27 [.int .i64 0, .slice none 0 0]) := (row_new w5 _ _).keep rfl
        obtain ⟨wZ, hwZ⟩ : ∃ wZ, wZ = (w5.alloc (.cells #[.int .i64 0, .slice none 0 0] 27)).drew := ⟨_, rfl⟩
        rw [← hwZ] at BZ VZ
        go_simp
        rw [← hwZ]
        clear hwZ
        refine hK.out _ _ ?_ (fun hHeld => ?_)
        · try dsimp only
          exact SK_5.out BZ.out
        clear hK K
        refine wpAnyH_ready (rs := [1]) (by kernel_rfl) (by simp) ?_
        refine AllReadyH.cons rfl (fun K hK => ?_) ?_
        · go_simp
          go_at_call 9
          refine Calls.mono (of_u _ _ z a n c (l) (Rep.below Ls_5.out (BZ.out))) ?_
          rintro e wB ⟨vB, rfl, hoB, bB⟩
          have BB : Hid (Below w5.heap.size w5 wB) := on BZ.out bB
          obtain ⟨aB, cB, hvB, -, -⟩ := hoB.slice
          subst hvB
          have VZB : Hid (Row wB w5.heap.size 27 [.int .i64 0, .slice none 0 0]) := VZ.out.below bB
          have LB : Hid (rSpns.rd wB (fun b => wZ.heap.size ≤ b) [.slice aB (l).length cB] (l)) := hoB.rd HLB.out
          clear hoB bB
          go_simp
          refine hK.out _ _ ?_ (fun hHeld => ?_)
          · try dsimp only
            exact SK_5.out BB.out
          clear hK K
          refine wpAnyH_ready (rs := [3]) (by kernel_rfl) (by simp) ?_
          refine AllReadyH.cons rfl (fun K hK => ?_) ?_
          · go_simp
            go_at_call 16
            refine Calls.mono (freeFree_u _ _ z _ _ _ l LB.out x HX.out) ?_
            rintro e wC ⟨vC, rfl, hoC, bC⟩
            have BC : Hid (Below w5.heap.size w5 wC) := on BB.out bC
            obtain ⟨aC, cC, hvC, -, -⟩ := hoC.slice
            subst hvC
            have OC : Hid (OwnS _ _ _ _ _) := hoC
            have VC : Hid (Row wC w5.heap.size 27 [.int .i64 0, .slice none 0 0]) := VZB.out.below bC
            have hlt : Hid (w5.heap.size < wB.heap.size) := VZB.out.lt
            obtain ⟨g0, g1⟩ := VC.out.two
            have g2 := VC.out.frozen 0
            have g3 := VC.out.frozen 1
            clear hoC bC
            go_simp
            refine hK.out _ _ ?_ (fun hHeld => ?_)
            · try dsimp only
              exact SK_5.out BC.out
            clear hK K
            refine wpAnyH_takeL (i := 4) (v := ?_) rfl rfl (by kernel_rfl) (by kernel_rfl) (by kernel_rfl) (fun _ _ _ h => h) (Or.inl ⟨by rfl, ?_⟩) (by assumption) ?_
            rotate_left
            · intro w hSw
              try dsimp only at hSw
              go_simp
              all_goals with_reducible rfl
            simp only [List.set_cons_zero, List.set_cons_succ]
            refine wpAnyH_takeL (i := 5) (v := ?_) rfl rfl (by kernel_rfl) (by kernel_rfl) (by kernel_rfl) (fun _ _ _ h => h) (Or.inl ⟨by rfl, ?_⟩) (by assumption) ?_
            rotate_left
            · intro w hSw
              try dsimp only at hSw
              go_simp
              all_goals with_reducible rfl
            simp only [List.set_cons_zero, List.set_cons_succ]
            refine wpAnyH_takeL (i := 6) (v := ?_) rfl rfl (by kernel_rfl) (by kernel_rfl) (by kernel_rfl) (fun _ _ _ h => h) (Or.inl ⟨by rfl, ?_⟩) (by assumption) ?_
            rotate_left
            · intro w hSw
              try dsimp only at hSw
              go_simp
              all_goals with_reducible rfl
            simp only [List.set_cons_zero, List.set_cons_succ]
            refine wpAnyH_ready (rs := [8]) (by kernel_rfl) (by simp) ?_
            refine AllReadyH.cons rfl (fun K hK => ?_) ?_
            · go_simp
              refine hK.out _ _ ?_ (fun hHeld => ?_)
              · try dsimp only
                exact SK_5.out ((BC.out.setCell (p := ⟨w5.heap.size, 0, none⟩) (Nat.le_refl _) _).setCell (p := ⟨w5.heap.size, 1, none⟩) (Nat.le_refl _) _)
              clear hK K
              refine wpAnyH_takeL (i := 9) (v := ?_) rfl rfl (by kernel_rfl) (by kernel_rfl) (by kernel_rfl) (fun _ _ _ h => h) (Or.inl ⟨by rfl, ?_⟩) (by assumption) ?_
              rotate_left
              · intro w hSw
                try dsimp only at hSw
                go_simp
                all_goals with_reducible rfl
              simp only [List.set_cons_zero, List.set_cons_succ]
              refine wpAnyH_done (by kernel_rfl) ?_ _
              clear hHeld
              go_wp2_with fail
              go_meet
              obtain ⟨w9, hw9, V9, K9⟩ := VC.out.whole2 (.int .i64 (Fr.freeZ z l x)) (.slice aC (Fr.freeL z l x).length cC)
              rw [hw9]
              exact ⟨w5.heap.size, aC, cC, rfl, rfl, V9, ((OC.out.keptL K9 hlt.out).mono BB.out.size).rd (by have := Fr.freeL_len z l x; omega), Kept.belowOf BC.out K9 (Nat.le_refl _)⟩
            exact AllReadyH.nil
          exact AllReadyH.nil
        exact AllReadyH.nil
      exact AllReadyH.nil
    case rest =>
      obtain ⟨vbf, af, cf, rfl, rfl, Rf_6, Lf_6, bc6⟩ := hcut
      obtain ⟨w6, hw6⟩ : ∃ w6, w6 = wc := ⟨_, rfl⟩
      subst hw6
      clear SK_5
      have Rs_6 : Hid (Row w6 (W.heap.size) 24 [.int .i64 z, .slice a n c]) := Rs_5.out.below bc6.out
      have Rx_6 : Hid (Row w6 (W.heap.size + 1) 26 [.int .i64 x.1, .int .i64 x.2]) := Rx_5.out.below bc6.out
      have Rk_6 : Hid (Row w6 (vbk) 27 [.int .i64 (Fr.takeZ z l x), .slice ak (Fr.takeL z l x).length ck]) := Rk_5.out.below bc6.out
      have Ls_6 : Hid (rSpns.rd w6 (fun b => b < W.heap.size) [.slice a n c] (l)) := Rep.below Ls_5.out bc6.out
      have Lk_6 : Hid (rSpns.rd w6 (fun b => w4.heap.size ≤ b) [.slice ak (Fr.takeL z l x).length ck] (Fr.takeL z l x)) := Rep.below Lk_5.out bc6.out
      have B_6 : Hid (Below W.heap.size W w6) := on B_5.out bc6.out
      clear qs0 qs1 qx0 qx1
      clear Rs_5 Rx_5 Rk_5 Ls_5 Lk_5
      clear bc6
      by_cases hC : Fr.checkE z l = 0
      · by_cases hT : Fr.takeE z l x = 0
        · obtain ⟨t1, t2, t3, t4, t5, t6, t7⟩ := Fr.counts_take hT
          obtain ⟨u1, u2, -⟩ := Fr.takeE_zero_said hT
          rw [u1, u2] at Rk_6
          rw [u1] at Lk_6
          rw [hC, hT, t3]
          have T1 : Hid _ := t1
          have hsum : IntKind.i64.wrap (Fr.roomA z l - Fr.roomA z (Fr.without l x)) = x.2 := by rw [IntKind.wrap_i64]; omega
          have hb : (Fr.roomA z l - Fr.roomA z (Fr.without l x) == x.2) = true := beq_iff_eq.2 t2
          clear t1 t3 u1 u2 hC hT
          obtain ⟨qk0, qk1⟩ := Rk_6.out.two
          obtain ⟨qx0, qx1⟩ := Rx_6.out.two
          go_wp2_with (go_at_call 18; refine (num6_u _ _).mono ?_; rintro e w99 ⟨rfl, rfl⟩)
          refine (freeRoom_u _ _ z _ _ _ (Fr.without l x) Lk_6.out).mono ?_
          rintro e w7 ⟨rfl, b7⟩
          have Rs_7 : Hid (Row w7 (W.heap.size) 24 [.int .i64 z, .slice a n c]) := Rs_6.out.below b7
          have Rx_7 : Hid (Row w7 (W.heap.size + 1) 26 [.int .i64 x.1, .int .i64 x.2]) := Rx_6.out.below b7
          have Rk_7 : Hid (Row w7 (vbk) 27 [.int .i64 (z), .slice ak (Fr.without l x).length ck]) := Rk_6.out.below b7
          have Rf_7 : Hid (Row w7 (vbf) 27 [.int .i64 (Fr.freeZ z l x), .slice af (Fr.freeL z l x).length cf]) := Rf_6.out.below b7
          have Ls_7 : Hid (rSpns.rd w7 (fun b => b < W.heap.size) [.slice a n c] (l)) := Rep.below Ls_6.out b7
          have Lk_7 : Hid (rSpns.rd w7 (fun b => w4.heap.size ≤ b) [.slice ak (Fr.without l x).length ck] (Fr.without l x)) := Rep.below Lk_6.out b7
          have Lf_7 : Hid (rSpns.rd w7 (fun b => w5.heap.size ≤ b) [.slice af (Fr.freeL z l x).length cf] (Fr.freeL z l x)) := Rep.below Lf_6.out b7
          have B_7 : Hid (Below W.heap.size W w7) := on B_6.out b7
          clear qk0 qk1 qx0 qx1
          clear Rs_6 Rx_6 Rk_6 Rf_6 Ls_6 Lk_6 Lf_6
          clear b7
          rw [T1.out]
          obtain ⟨qx0, qx1⟩ := Rx_7.out.two
          go_wp2_with (go_at_call 18; refine (num6_u _ _).mono ?_; rintro e w99 ⟨rfl, rfl⟩)
          go_ret
          exact ⟨rfl, B_7.out⟩
        · by_cases hF : Fr.freeE z l x = 0
          · obtain ⟨t1, t2, t4, t5, t6, t7⟩ := Fr.counts_free hF
            obtain ⟨u1, u2, -⟩ := Fr.freeE_zero_said hF
            rw [u1, u2] at Rf_6
            rw [u1] at Lf_6
            obtain ⟨TE, hTE⟩ : ∃ TE, Fr.takeE z l x = TE := ⟨_, rfl⟩
            rw [hTE] at hT
            rw [hC, hTE, hF]
            have hT0 : (TE == 0) = false := beq_eq_false_iff_ne.2 hT
            have T1 : Hid _ := t1
            have hsum : IntKind.i64.wrap (Fr.roomA z (Fr.withR x false l) - Fr.roomA z l) = x.2 := by rw [IntKind.wrap_i64]; omega
            have hb : (Fr.roomA z (Fr.withR x false l) - Fr.roomA z l == x.2) = true := beq_iff_eq.2 t2
            clear t1 u1 u2 hC hF hTE
            obtain ⟨qf0, qf1⟩ := Rf_6.out.two
            obtain ⟨qx0, qx1⟩ := Rx_6.out.two
            go_wp2_with (go_at_call 18; refine (num6_u _ _).mono ?_; rintro e w99 ⟨rfl, rfl⟩)
            refine (freeRoom_u _ _ z _ _ _ (Fr.withR x false l) Lf_6.out).mono ?_
            rintro e w8 ⟨rfl, b8⟩
            have Rs_8 : Hid (Row w8 (W.heap.size) 24 [.int .i64 z, .slice a n c]) := Rs_6.out.below b8
            have Rx_8 : Hid (Row w8 (W.heap.size + 1) 26 [.int .i64 x.1, .int .i64 x.2]) := Rx_6.out.below b8
            have Rk_8 : Hid (Row w8 (vbk) 27 [.int .i64 (Fr.takeZ z l x), .slice ak (Fr.takeL z l x).length ck]) := Rk_6.out.below b8
            have Rf_8 : Hid (Row w8 (vbf) 27 [.int .i64 (z), .slice af (Fr.withR x false l).length cf]) := Rf_6.out.below b8
            have Ls_8 : Hid (rSpns.rd w8 (fun b => b < W.heap.size) [.slice a n c] (l)) := Rep.below Ls_6.out b8
            have Lk_8 : Hid (rSpns.rd w8 (fun b => w4.heap.size ≤ b) [.slice ak (Fr.takeL z l x).length ck] (Fr.takeL z l x)) := Rep.below Lk_6.out b8
            have Lf_8 : Hid (rSpns.rd w8 (fun b => w5.heap.size ≤ b) [.slice af (Fr.withR x false l).length cf] (Fr.withR x false l)) := Rep.below Lf_6.out b8
            have B_8 : Hid (Below W.heap.size W w8) := on B_6.out b8
            clear qf0 qf1 qx0 qx1
            clear Rs_6 Rx_6 Rk_6 Rf_6 Ls_6 Lk_6 Lf_6
            clear b8
            rw [T1.out]
            obtain ⟨qx0, qx1⟩ := Rx_8.out.two
            go_wp2_with (go_at_call 18; refine (num6_u _ _).mono ?_; rintro e w99 ⟨rfl, rfl⟩)
            go_ret
            exact ⟨rfl, B_8.out⟩
          · have u1 : Fr.takeL z l x = [] := if_neg hT
            have u2 : Fr.freeL z l x = [] := if_neg hF
            rw [u1] at Rk_6
            rw [u2] at Rf_6
            obtain ⟨TE, hTE⟩ : ∃ TE, Fr.takeE z l x = TE := ⟨_, rfl⟩
            obtain ⟨FE, hFE⟩ : ∃ FE, Fr.freeE z l x = FE := ⟨_, rfl⟩
            rw [hTE] at hT
            rw [hFE] at hF
            rw [hC, hTE, hFE]
            have hT0 : (TE == 0) = false := beq_eq_false_iff_ne.2 hT
            have hF0 : (FE == 0) = false := beq_eq_false_iff_ne.2 hF
            clear u1 u2 hC hTE hFE
            obtain ⟨qk0, qk1⟩ := Rk_6.out.two
            obtain ⟨qf0, qf1⟩ := Rf_6.out.two
            go_wp2_with (go_at_call 18; refine (num6_u _ _).mono ?_; rintro e w99 ⟨rfl, rfl⟩)
            go_ret
            exact ⟨rfl, B_6.out⟩
      · obtain ⟨t1, t2⟩ := Fr.counts_no x hC
        obtain ⟨CE, hCE⟩ : ∃ CE, Fr.checkE z l = CE := ⟨_, rfl⟩
        rw [hCE] at hC
        rw [hCE, t1, t2]
        have hC0 : (CE == 0) = false := beq_eq_false_iff_ne.2 hC
        clear t1 t2 hCE
        go_wp2_with (go_at_call 18; refine (num6_u _ _).mono ?_; rintro e w99 ⟨rfl, rfl⟩)
        go_ret
        exact ⟨rfl, B_6.out⟩

set_option maxRecDepth 100000 in
theorem fcounts_lifted (os : Os) (started : os.Started) (H : Type) (enc : TypeId × Value → H) :
    ReturnsInHanded {} Try.checked os 7 .any (Rows.freeCountsSpec.pre6 enc Try.prog Try.f7 Rows.freeCountsRow.domain false) (Rows.freeCountsSpec.post enc Try.prog Try.f7 false true false false) := by
  refine returnsInHanded_of_change_sized (C := Try.checked) own started (by kernel_rfl) Try.func7
    (ChangeSpec.witness6 (enc := enc) (C := Try.checked) false ⟨#[], #[.agg #[.int .i64 0, .slice none 0 0], .agg #[.int .i64 0, .int .i64 0]], []⟩ 8 (by kernel_rfl) (by kernel_rfl) (by kernel_rfl) (by kernel_rfl)) ?_
  intro W base args ds gs before hval0 hW _ hsz0 _
  have hsz : (DataW.weightsEach Try.prog (Try.f7.params.toList ++ Rows.freeCountsSpec.plain.varTypes Try.prog) (ds ++ gs)).all (· ≤ reachBytes) = true := hsz0
  clear hsz0
  have hval : ∀ (j : Nat) t v, Try.f7.params[j]? = some t → args[j]? = some v → Value.okWide Try.prog W .any base t v := hval0
  have hW' := hW
  obtain ⟨p, q, hA0, hV, rfl, hfz, hnd⟩ := hW
  have hA : DataW.TrodAll enc Try.prog W 0 (fun _ => true) true Try.f7.params.toList args.toList ds p := hA0
  rw [Try.params7] at hA hval hsz
  obtain ⟨v0, vs0, d0, ds0, p0, q0, hargs, rfl, rfl, h0, r0⟩ := trodAll_cons hA
  obtain ⟨v1, vs1, d1, ds1, p1, q1, rfl, rfl, rfl, h1, r1⟩ := trodAll_cons r0
  obtain ⟨rfl, rfl, rfl⟩ := trodAll_nil r1
  obtain rfl : args = #[v0, v1] := by cases args; simp_all
  obtain ⟨rfl, rfl⟩ := trodVars_none hV
  obtain ⟨c0, rfl, -⟩ := okWide_struct Try.underlying24 (hval 0 24 v0 rfl rfl)
  have k0 := h0
  have lt0 : ∀ x ∈ p0, x.block < W.heap.size := by obtain ⟨m, hm⟩ := k0; exact DataW.trod_lt m _ _ _ hm
  obtain ⟨x0, hx0⟩ := opens_state.arg h0 hsz (j := 0) rfl rfl
  obtain ⟨c1, rfl, -⟩ := okWide_struct Try.underlying26 (hval 1 26 v1 rfl rfl)
  have k1 := h1
  have lt1 : ∀ x ∈ p1, x.block < W.heap.size := by obtain ⟨m, hm⟩ := k1; exact DataW.trod_lt m _ _ _ hm
  obtain ⟨x1, hx1⟩ := opens_span.arg h1 hsz (j := 1) rfl rfl
  clear hA0 hval0
  refine (fcounts_walk c0.toList x0 c1.toList x1 W hx0 hx1).mono fun e W' ⟨he, bel⟩ => ?_
  subst he
  exact ⟨_, rfl, _, _, _, [], _, [], hW', trodAll_mk1 (shut_bool Try.underlying4 _), (trodAll_cons_mk (Below.trod laidOut (by kernel_rfl) (of_decide_eq_true (by kernel_rfl)) k0 bel lt0) (trodAll_cons_mk (Below.trod laidOut (by kernel_rfl) (of_decide_eq_true (by kernel_rfl)) k1 bel lt1) trodAll_mk0)), rfl, bel.frame _, fun h => by cases h⟩

theorem freeCounts_holds : Rows.FreeCountsSaid :=
  OpenClaim.holds_of_wide 7 Try.f7 rfl rfl rfl rfl rfl rfl rfl ⟨rfl, rfl, rfl, rfl, rfl⟩ rfl rfl rfl rfl rfl (by kernel_rfl) Try.func7 (by kernel_rfl)
    (of_decide_eq_true (by kernel_rfl)) (by unfold Func.isWrapper; first | (rw [if_pos (by decide +kernel)]; kernel_rfl) | (rw [if_neg (by decide +kernel)]; exact ⟨rfl, rfl⟩))
    (fun os started H enc _ => fcounts_lifted os started H enc)

end Go.Proofs.Ytbbjbajdoekheaa
