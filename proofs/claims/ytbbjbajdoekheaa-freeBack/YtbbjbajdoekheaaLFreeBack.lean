/-
  What was allocated was free, below the line, and is not; freed again all is as it was: at whatever state, number and line. Conditions: none.
-/
import Derived.Test.YtbbjbajdoekheaaFAlive
import Derived.Test.YtbbjbajdoekheaaFFrame
import Derived.Test.YtbbjbajdoekheaaFBack
namespace Go.Proofs.Ytbbjbajdoekheaa
open Go.ChangeShapes Go.WideShapes Go.ChangeAt Go.RowKit
set_option linter.unusedVariables false

set_option maxRecDepth 20000 in
set_option maxHeartbeats 8000000 in
theorem fback_walk (cs : List Value) (st : Int × List Spn) (q line : Int) (W : World) (h0 : rState.rd W (fun b => b < W.heap.size) cs st) (hq0 : -9223372036854775808 ≤ q) (hq : q ≤ 9223372036854775807) (hl0 : -9223372036854775808 ≤ line) (hl2 : line ≤ 9223372036854775807) :
    Calls Try.prog 5 #[.agg cs.toArray, .int .i64 q, .int .i64 line] W fun e W' => e = .returned (.bool true) ∧ Below W.heap.size W W' := by
  obtain ⟨a, n, c, rfl, hz, hL⟩ := rState_rd h0
  obtain ⟨z, l⟩ := st
  simp only at hz hL
  have HL : Hid (l.length = n) := (rList_len hL).1
  have HLB : Hid (l.length ≤ 8796093021952) := by unfold Hid; rw [HL.out]; have h : n * 16 ≤ 140737488351232 := (rList_len hL).2.2.2; omega
  have HZI : Hid (In64 z) := hz
  rw [show ([.int .i64 z, .slice a n c] : List Value).toArray = #[.int .i64 z, .slice a n c] from rfl]
  obtain ⟨w0, hw0, V0, b0, z0⟩ := boxedRow W 24 [.int .i64 z, .slice a n c]
  obtain ⟨w1, hw1⟩ : ∃ w1, w1 = w0 := ⟨_, rfl⟩
  rw [← hw1] at hw0 V0 b0
  have Rs_1 : Hid (Row w1 W.heap.size 24 [.int .i64 z, .slice a n c]) := V0
  have B_1 : Hid (Below W.heap.size W w1) := b0
  have Ls_1 : Hid (rSpns.rd w1 (fun b => b < W.heap.size) [.slice a n c] (l)) := Rep.below hL B_1.out
  clear V0 b0 z0 h0 hL hz hw1
  go_enter Try.func5, Try.ntmps5
  go_wp2_with fail
  refine (alive6_u _).mono ?_
  rintro e w2 ⟨rfl, b2⟩
  have Rs_2 : Hid (Row w2 (W.heap.size) 24 [.int .i64 z, .slice a n c]) := Rs_1.out.below b2
  have Ls_2 : Hid (rSpns.rd w2 (fun b => b < W.heap.size) [.slice a n c] (l)) := Rep.below Ls_1.out b2
  have B_2 : Hid (Below W.heap.size W w2) := on B_1.out b2
  clear Rs_1 Ls_1
  clear b2
  obtain ⟨qs0, qs1⟩ := Rs_2.out.two
  go_wp2_with (go_at_call 18; refine (num6_u _ _).mono ?_; rintro e w99 ⟨rfl, rfl⟩)
  refine (of_u _ _ z _ _ _ l Ls_2.out).mono ?_
  rintro e w3 ⟨v3, rfl, ho3, b3⟩
  obtain ⟨ao, co, hv3, -, -⟩ := ho3.slice
  subst hv3
  have Lo_3 : Hid (rSpns.rd w3 (fun b => w2.heap.size ≤ b) [.slice ao (l).length co] (l)) := ho3.rd (HLB.out)
  have Rs_3 : Hid (Row w3 (W.heap.size) 24 [.int .i64 z, .slice a n c]) := Rs_2.out.below b3
  have Ls_3 : Hid (rSpns.rd w3 (fun b => b < W.heap.size) [.slice a n c] (l)) := Rep.below Ls_2.out b3
  have B_3 : Hid (Below W.heap.size W w3) := on B_2.out b3
  clear qs0 qs1
  clear Rs_2 Ls_2
  clear ho3 b3
  go_wp2_with (go_at_call 18; refine (num6_u _ _).mono ?_; rintro e w99 ⟨rfl, rfl⟩)
  refine (freeAlloc_u _ _ z _ _ _ l Lo_3.out q line hq0 hq hl2).mono ?_
  rintro e w4 ⟨v4, rfl, ho4, b4⟩
  obtain ⟨ap, cp, hv4, -, -⟩ := ho4.slice
  subst hv4
  have Lp_4 : Hid (rSpns.rd w4 (fun b => w3.heap.size ≤ b) [.slice ap (Fr.allocL z l q line).length cp] (Fr.allocL z l q line)) := ho4.rd (by have := Fr.allocL_len z l q line; omega)
  have Rs_4 : Hid (Row w4 (W.heap.size) 24 [.int .i64 z, .slice a n c]) := Rs_3.out.below b4
  have Ls_4 : Hid (rSpns.rd w4 (fun b => b < W.heap.size) [.slice a n c] (l)) := Rep.below Ls_3.out b4
  have Lo_4 : Hid (rSpns.rd w4 (fun b => w2.heap.size ≤ b) [.slice ao (l).length co] (l)) := Rep.below Lo_3.out b4
  have B_4 : Hid (Below W.heap.size W w4) := on B_3.out b4
  clear Rs_3 Ls_3 Lo_3
  clear ho4 b4
  obtain ⟨w5, hw5, V5, b5, z5⟩ := boxedRow w4 27 [.int .i64 (Fr.allocZ z l q line), .slice ap (Fr.allocL z l q line).length cp]
  have Rp_5 : Hid (Row w5 w4.heap.size 27 [.int .i64 (Fr.allocZ z l q line), .slice ap (Fr.allocL z l q line).length cp]) := V5
  have Rs_5 : Hid (Row w5 (W.heap.size) 24 [.int .i64 z, .slice a n c]) := Rs_4.out.below b5
  have Ls_5 : Hid (rSpns.rd w5 (fun b => b < W.heap.size) [.slice a n c] (l)) := Rep.below Ls_4.out b5
  have Lo_5 : Hid (rSpns.rd w5 (fun b => w2.heap.size ≤ b) [.slice ao (l).length co] (l)) := Rep.below Lo_4.out b5
  have Lp_5 : Hid (rSpns.rd w5 (fun b => w3.heap.size ≤ b) [.slice ap (Fr.allocL z l q line).length cp] (Fr.allocL z l q line)) := Rep.below Lp_4.out b5
  have B_5 : Hid (Below W.heap.size W w5) := on B_4.out b5
  clear Rs_4 Ls_4 Lo_4 Lp_4
  clear V5 b5 z5
  clear Lo_5
  by_cases hE : Fr.bestE z l q line = 0
  · have HS : Hid _ := (Fr.alloc_said z l q line).1 hE
    obtain ⟨t1, t2, t3⟩ := Fr.best_taken hE
    have HT : Hid _ := t1
    have hin := Fr.bestA_in (z := z) (l := l) (q := q) (line := line)
    have HAg : Hid _ := Fr.taken_again t1
    have HTs : Hid _ := Fr.takeE_zero_said t1
    clear t1 hE
    rw [HS.out.1]
    rw [HS.out.2.1, HS.out.2.2] at Rp_5 hw5
    rw [HS.out.2.1] at Lp_5
    rw [HS.out.2.1, HS.out.2.2]
    generalize Fr.bestA z l q line = A at *
    have HX : Hid (In2 (A, q)) := by unfold Hid In2 In64; simp only; omega
    have HDL : Hid ((Fr.without l (A, q)).length ≤ 1024) := HTs.out.2.2.len
    obtain ⟨w6, hw6, V6, b6, z6⟩ := boxedRow w5 26 [.int .i64 A, .int .i64 q]
    have Rx_6 : Hid (Row w6 w5.heap.size 26 [.int .i64 A, .int .i64 q]) := V6
    have Rs_6 : Hid (Row w6 (W.heap.size) 24 [.int .i64 z, .slice a n c]) := Rs_5.out.below b6
    have Rp_6 : Hid (Row w6 (w4.heap.size) 27 [.int .i64 (z), .slice ap (Fr.without l (A, q)).length cp]) := Rp_5.out.below b6
    have Ls_6 : Hid (rSpns.rd w6 (fun b => b < W.heap.size) [.slice a n c] (l)) := Rep.below Ls_5.out b6
    have Lp_6 : Hid (rSpns.rd w6 (fun b => w3.heap.size ≤ b) [.slice ap (Fr.without l (A, q)).length cp] (Fr.without l (A, q))) := Rep.below Lp_5.out b6
    have B_6 : Hid (Below W.heap.size W w6) := on B_5.out b6
    clear Rs_5 Rp_5 Ls_5 Lp_5
    clear V6 b6 z6
    have SK_6 : Hid (∀ {w' : World}, Below w6.heap.size w6 w' → w'.cell? ⟨W.heap.size, 0, none⟩ = some (.int .i64 z) ∧ w'.cell? ⟨W.heap.size, 1, none⟩ = some (.slice a n c) ∧ w'.cell? ⟨w5.heap.size, 0, none⟩ = some (.int .i64 A) ∧ w'.cell? ⟨w5.heap.size, 1, none⟩ = some (.int .i64 q)) := fun b => ⟨(Rs_6.out.below b).two.1, (Rs_6.out.below b).two.2, (Rx_6.out.below b).two.1, (Rx_6.out.below b).two.2⟩
    obtain ⟨qs0, qs1⟩ := Rs_6.out.two
    obtain ⟨qx0, qx1⟩ := Rx_6.out.two
    go_wp2_with (go_at_call 18; refine (num6_u _ _).mono ?_; rintro e w99 ⟨rfl, rfl⟩)
    go_cut [11, 12] (fun t er wx => ∃ vb av cv, t = .pointer (some ⟨vb, 0, none⟩) ∧ er = .int .i64 (Fr.takeE z l (A, q)) ∧ Hid (Row wx vb 27 [.int .i64 (Fr.takeZ z l (A, q)), .slice av (Fr.takeL z l (A, q)).length cv]) ∧ Hid (rSpns.rd wx (fun b => w6.heap.size ≤ b) [.slice av (Fr.takeL z l (A, q)).length cv] (Fr.takeL z l (A, q))) ∧ Hid (Below w6.heap.size w6 wx))
    case first =>
      refine wp_region_held_drew (S := (fun w' : World => w'.cell? ⟨W.heap.size, 0, none⟩ = some (.int .i64 z) ∧ w'.cell? ⟨W.heap.size, 1, none⟩ = some (.slice a n c) ∧ w'.cell? ⟨w5.heap.size, 0, none⟩ = some (.int .i64 A) ∧ w'.cell? ⟨w5.heap.size, 1, none⟩ = some (.int .i64 q))) (by kernel_rfl) (SK_6.out (Below.refl _ _).drew) (fun hHeld => ?_)
      refine wpAnyH_takeL (i := 0) (v := ?_) rfl rfl (by kernel_rfl) (by kernel_rfl) (by kernel_rfl) (fun _ _ _ h => h) (Or.inl ⟨by rfl, ?_⟩) (by assumption) ?_
      rotate_left
      · intro w hSw
        try dsimp only at hSw
        go_simp
        all_goals with_reducible rfl
      simp only [List.set_cons_zero, List.set_cons_succ]
      refine wpAnyH_takeL (i := 2) (v := ?_) rfl rfl (by kernel_rfl) (by kernel_rfl) (by kernel_rfl) (fun _ _ _ h => h) (Or.inl ⟨by rfl, ?_⟩) (by assumption) ?_
      rotate_left
      · intro w hSw
        try dsimp only at hSw
        go_simp
        all_goals with_reducible rfl
      simp only [List.set_cons_zero, List.set_cons_succ]
      refine wpAnyH_ready (rs := [1, 7]) (by kernel_rfl) (by simp) ?_
      refine AllReadyH.cons rfl (fun K hK => ?_) ?_
      · go_simp
        go_at_call 9
        refine Calls.mono (of_u _ _ z a n c (l) (Rep.below Ls_6.out ((Below.refl _ _).drew))) ?_
        rintro e wB ⟨vB, rfl, hoB, bB⟩
        have BB : Hid (Below w6.heap.size w6 wB) := below_drew_pre0 bB
        obtain ⟨aB, cB, hvB, -, -⟩ := hoB.slice
        subst hvB
        have LB : Hid (rSpns.rd wB (fun b => w6.drew.heap.size ≤ b) [.slice aB (l).length cB] (l)) := hoB.rd HLB.out
        clear hoB bB
        go_simp
        refine hK.out _ _ ?_ (fun hHeld => ?_)
        · try dsimp only
          exact SK_6.out BB.out
        clear hK K
        refine wpAnyH_ready (rs := [3, 7]) (by kernel_rfl) (by simp) ?_
        refine AllReadyH.cons rfl (fun K hK => ?_) ?_
        · go_simp
          go_at_call 14
          refine Calls.mono (freeTake_u _ _ z _ _ _ l LB.out (A, q) HX.out) ?_
          rintro e wC ⟨vC, rfl, hoC, bC⟩
          have BC : Hid (Below w6.heap.size w6 wC) := on BB.out bC
          obtain ⟨aC, cC, hvC, -, -⟩ := hoC.slice
          subst hvC
          have OC : Hid (OwnS _ _ _ _ _) := hoC
          clear hoC bC
          go_simp
          refine hK.out _ _ ?_ (fun hHeld => ?_)
          · try dsimp only
            exact SK_6.out BC.out
          clear hK K
          refine wpAnyH_takeL (i := 4) (v := ?_) rfl rfl (by kernel_rfl) (by kernel_rfl) (by kernel_rfl) (fun _ _ _ h => h) (Or.inl ⟨by rfl, ?_⟩) (by assumption) ?_
          rotate_left
          · intro w hSw
            try dsimp only at hSw
            go_simp
            all_goals with_reducible rfl
          simp only [List.set_cons_zero, List.set_cons_succ]
          refine wpAnyH_takeL (i := 5) (v := ?_) rfl rfl (by kernel_rfl) (by kernel_rfl) (by kernel_rfl) (fun _ _ _ h => h) (Or.inl ⟨by rfl, ?_⟩) (by assumption) ?_
          rotate_left
          · intro w hSw
            try dsimp only at hSw
            go_simp
            all_goals with_reducible rfl
          simp only [List.set_cons_zero, List.set_cons_succ]
          refine wpAnyH_takeL (i := 6) (v := ?_) rfl rfl (by kernel_rfl) (by kernel_rfl) (by kernel_rfl) (fun _ _ _ h => h) (Or.inl ⟨by rfl, ?_⟩) (by assumption) ?_
          rotate_left
          · intro w hSw
            try dsimp only at hSw
            go_simp
            all_goals with_reducible rfl
          simp only [List.set_cons_zero, List.set_cons_succ]
          refine wpAnyH_ready (rs := [7]) (by kernel_rfl) (by simp) ?_
          refine AllReadyH.cons rfl (fun K hK => ?_) ?_
          · go_simp
            refine hK.out _ _ ?_ (fun hHeld => ?_)
            · try dsimp only
              exact SK_6.out (below_alloc0 BC.out _)
            clear hK K
            refine wpAnyH_ready (rs := [8]) (by kernel_rfl) (by simp) ?_
            refine AllReadyH.cons rfl (fun K hK => ?_) ?_
            · go_simp
              refine hK.out _ _ ?_ (fun hHeld => ?_)
              · try dsimp only
                exact SK_6.out (below_alloc0 BC.out _)
              clear hK K
              refine wpAnyH_takeL (i := 9) (v := ?_) rfl rfl (by kernel_rfl) (by kernel_rfl) (by kernel_rfl) (fun _ _ _ h => h) (Or.inl ⟨by rfl, ?_⟩) (by assumption) ?_
              rotate_left
              · intro w hSw
                try dsimp only at hSw
                go_simp
                all_goals with_reducible rfl
              simp only [List.set_cons_zero, List.set_cons_succ]
              refine wpAnyH_done (by kernel_rfl) ?_ _
              clear hHeld
              go_wp2_with fail
              go_meet
              exact ⟨wC.heap.size, aC, cC, rfl, rfl, row_new _ _ _, Rep.below ((OC.out.mono BB.out.size).rd (by have := Fr.takeL_len z l (A, q); omega)) ((Below.refl _ wC).alloc (Nat.le_refl _) _), below_alloc0 BC.out _⟩
            exact AllReadyH.nil
          exact AllReadyH.nil
        refine AllReadyH.cons rfl (fun K hK => ?_) ?_
        · have BZ : Hid (Below w6.heap.size w6 (wB.alloc (.cells #[.int .i64 0, .slice none 0 0] 27))) := below_alloc0 BB.out _
          have VZB : Hid (Row (wB.alloc (.cells #[.int .i64 0, .slice none 0 0] 27)) wB.heap.size 27 [.int .i64 0, .slice none 0 0]) := row_new wB _ _
          have LB2 : Hid _ := Rep.below LB.out ((Below.refl _ wB).alloc (Nat.le_refl _) (.cells #[.int .i64 0, .slice none 0 0] 27))
          obtain ⟨wZ, hwZ⟩ : ∃ wZ, wZ = wB.alloc (.cells #[.int .i64 0, .slice none 0 0] 27) := ⟨_, rfl⟩
          rw [← hwZ] at BZ VZB LB2
          have HZB : Hid (w6.heap.size ≤ wB.heap.size) := BB.out.size
          go_simp
          rw [← hwZ]
          clear hwZ
          refine hK.out _ _ ?_ (fun hHeld => ?_)
          · try dsimp only
            exact SK_6.out BZ.out
          clear hK K
          refine wpAnyH_ready (rs := [3]) (by kernel_rfl) (by simp) ?_
          refine AllReadyH.cons rfl (fun K hK => ?_) ?_
          · go_simp
            go_at_call 14
            refine Calls.mono (freeTake_u _ _ z _ _ _ l LB2.out (A, q) HX.out) ?_
            rintro e wC ⟨vC, rfl, hoC, bC⟩
            have BC : Hid (Below w6.heap.size w6 wC) := on BZ.out bC
            obtain ⟨aC, cC, hvC, -, -⟩ := hoC.slice
            subst hvC
            have OC : Hid (OwnS _ _ _ _ _) := hoC
            have VC : Hid (Row wC wB.heap.size 27 [.int .i64 0, .slice none 0 0]) := VZB.out.below bC
            have hlt : Hid (wB.heap.size < wZ.heap.size) := VZB.out.lt
            obtain ⟨g0, g1⟩ := VC.out.two
            have g2 := VC.out.frozen 0
            have g3 := VC.out.frozen 1
            clear hoC bC
            go_simp
            refine hK.out _ _ ?_ (fun hHeld => ?_)
            · try dsimp only
              exact SK_6.out BC.out
            clear hK K
            refine wpAnyH_takeL (i := 4) (v := ?_) rfl rfl (by kernel_rfl) (by kernel_rfl) (by kernel_rfl) (fun _ _ _ h => h) (Or.inl ⟨by rfl, ?_⟩) (by assumption) ?_
            rotate_left
            · intro w hSw
              try dsimp only at hSw
              go_simp
              all_goals with_reducible rfl
            simp only [List.set_cons_zero, List.set_cons_succ]
            refine wpAnyH_takeL (i := 5) (v := ?_) rfl rfl (by kernel_rfl) (by kernel_rfl) (by kernel_rfl) (fun _ _ _ h => h) (Or.inl ⟨by rfl, ?_⟩) (by assumption) ?_
            rotate_left
            · intro w hSw
              try dsimp only at hSw
              go_simp
              all_goals with_reducible rfl
            simp only [List.set_cons_zero, List.set_cons_succ]
            refine wpAnyH_takeL (i := 6) (v := ?_) rfl rfl (by kernel_rfl) (by kernel_rfl) (by kernel_rfl) (fun _ _ _ h => h) (Or.inl ⟨by rfl, ?_⟩) (by assumption) ?_
            rotate_left
            · intro w hSw
              try dsimp only at hSw
              go_simp
              all_goals with_reducible rfl
            simp only [List.set_cons_zero, List.set_cons_succ]
            refine wpAnyH_ready (rs := [8]) (by kernel_rfl) (by simp) ?_
            refine AllReadyH.cons rfl (fun K hK => ?_) ?_
            · go_simp
              refine hK.out _ _ ?_ (fun hHeld => ?_)
              · try dsimp only
                exact SK_6.out ((BC.out.setCell (p := ⟨wB.heap.size, 0, none⟩) HZB.out _).setCell (p := ⟨wB.heap.size, 1, none⟩) HZB.out _)
              clear hK K
              refine wpAnyH_takeL (i := 9) (v := ?_) rfl rfl (by kernel_rfl) (by kernel_rfl) (by kernel_rfl) (fun _ _ _ h => h) (Or.inl ⟨by rfl, ?_⟩) (by assumption) ?_
              rotate_left
              · intro w hSw
                try dsimp only at hSw
                go_simp
                all_goals with_reducible rfl
              simp only [List.set_cons_zero, List.set_cons_succ]
              refine wpAnyH_done (by kernel_rfl) ?_ _
              clear hHeld
              go_wp2_with fail
              go_meet
              obtain ⟨w9, hw9, V9, K9⟩ := VC.out.whole2 (.int .i64 (Fr.takeZ z l (A, q))) (.slice aC (Fr.takeL z l (A, q)).length cC)
              rw [hw9]
              exact ⟨wB.heap.size, aC, cC, rfl, rfl, V9, ((OC.out.keptL K9 hlt.out).mono BZ.out.size).rd (by have := Fr.takeL_len z l (A, q); omega), Kept.belowOf BC.out K9 HZB.out⟩
            exact AllReadyH.nil
          exact AllReadyH.nil
        exact AllReadyH.nil
      refine AllReadyH.cons rfl (fun K hK => ?_) ?_
      · have BZ : Hid (Below w6.heap.size w6 (w6.alloc (.cells #[.int .i64 0, .slice none 0 0] 27)).drew) := ((Below.refl _ w6).alloc (Nat.le_refl _) _).drew
        have VZ : Hid (Row (w6.alloc (.cells #[.int .i64 0, .slice none 0 0] 27)).drew w6.heap.size 27 [.int .i64 0, .slice none 0 0]) := (row_new w6 _ _).keep rfl
        obtain ⟨wZ, hwZ⟩ : ∃ wZ, wZ = (w6.alloc (.cells #[.int .i64 0, .slice none 0 0] 27)).drew := ⟨_, rfl⟩
        rw [← hwZ] at BZ VZ
        go_simp
        rw [← hwZ]
        clear hwZ
        refine hK.out _ _ ?_ (fun hHeld => ?_)
        · try dsimp only
          exact SK_6.out BZ.out
        clear hK K
        refine wpAnyH_ready (rs := [1]) (by kernel_rfl) (by simp) ?_
        refine AllReadyH.cons rfl (fun K hK => ?_) ?_
        · go_simp
          go_at_call 9
          refine Calls.mono (of_u _ _ z a n c (l) (Rep.below Ls_6.out (BZ.out))) ?_
          rintro e wB ⟨vB, rfl, hoB, bB⟩
          have BB : Hid (Below w6.heap.size w6 wB) := on BZ.out bB
          obtain ⟨aB, cB, hvB, -, -⟩ := hoB.slice
          subst hvB
          have VZB : Hid (Row wB w6.heap.size 27 [.int .i64 0, .slice none 0 0]) := VZ.out.below bB
          have LB : Hid (rSpns.rd wB (fun b => wZ.heap.size ≤ b) [.slice aB (l).length cB] (l)) := hoB.rd HLB.out
          clear hoB bB
          go_simp
          refine hK.out _ _ ?_ (fun hHeld => ?_)
          · try dsimp only
            exact SK_6.out BB.out
          clear hK K
          refine wpAnyH_ready (rs := [3]) (by kernel_rfl) (by simp) ?_
          refine AllReadyH.cons rfl (fun K hK => ?_) ?_
          · go_simp
            go_at_call 14
            refine Calls.mono (freeTake_u _ _ z _ _ _ l LB.out (A, q) HX.out) ?_
            rintro e wC ⟨vC, rfl, hoC, bC⟩
            have BC : Hid (Below w6.heap.size w6 wC) := on BB.out bC
            obtain ⟨aC, cC, hvC, -, -⟩ := hoC.slice
            subst hvC
            have OC : Hid (OwnS _ _ _ _ _) := hoC
            have VC : Hid (Row wC w6.heap.size 27 [.int .i64 0, .slice none 0 0]) := VZB.out.below bC
            have hlt : Hid (w6.heap.size < wB.heap.size) := VZB.out.lt
            obtain ⟨g0, g1⟩ := VC.out.two
            have g2 := VC.out.frozen 0
            have g3 := VC.out.frozen 1
            clear hoC bC
            go_simp
            refine hK.out _ _ ?_ (fun hHeld => ?_)
            · try dsimp only
              exact SK_6.out BC.out
            clear hK K
            refine wpAnyH_takeL (i := 4) (v := ?_) rfl rfl (by kernel_rfl) (by kernel_rfl) (by kernel_rfl) (fun _ _ _ h => h) (Or.inl ⟨by rfl, ?_⟩) (by assumption) ?_
            rotate_left
            · intro w hSw
              try dsimp only at hSw
              go_simp
              all_goals with_reducible rfl
            simp only [List.set_cons_zero, List.set_cons_succ]
            refine wpAnyH_takeL (i := 5) (v := ?_) rfl rfl (by kernel_rfl) (by kernel_rfl) (by kernel_rfl) (fun _ _ _ h => h) (Or.inl ⟨by rfl, ?_⟩) (by assumption) ?_
            rotate_left
            · intro w hSw
              try dsimp only at hSw
              go_simp
              all_goals with_reducible rfl
            simp only [List.set_cons_zero, List.set_cons_succ]
            refine wpAnyH_takeL (i := 6) (v := ?_) rfl rfl (by kernel_rfl) (by kernel_rfl) (by kernel_rfl) (fun _ _ _ h => h) (Or.inl ⟨by rfl, ?_⟩) (by assumption) ?_
            rotate_left
            · intro w hSw
              try dsimp only at hSw
              go_simp
              all_goals with_reducible rfl
            simp only [List.set_cons_zero, List.set_cons_succ]
            refine wpAnyH_ready (rs := [8]) (by kernel_rfl) (by simp) ?_
            refine AllReadyH.cons rfl (fun K hK => ?_) ?_
            · go_simp
              refine hK.out _ _ ?_ (fun hHeld => ?_)
              · try dsimp only
                exact SK_6.out ((BC.out.setCell (p := ⟨w6.heap.size, 0, none⟩) (Nat.le_refl _) _).setCell (p := ⟨w6.heap.size, 1, none⟩) (Nat.le_refl _) _)
              clear hK K
              refine wpAnyH_takeL (i := 9) (v := ?_) rfl rfl (by kernel_rfl) (by kernel_rfl) (by kernel_rfl) (fun _ _ _ h => h) (Or.inl ⟨by rfl, ?_⟩) (by assumption) ?_
              rotate_left
              · intro w hSw
                try dsimp only at hSw
                go_simp
                all_goals with_reducible rfl
              simp only [List.set_cons_zero, List.set_cons_succ]
              refine wpAnyH_done (by kernel_rfl) ?_ _
              clear hHeld
              go_wp2_with fail
              go_meet
              obtain ⟨w9, hw9, V9, K9⟩ := VC.out.whole2 (.int .i64 (Fr.takeZ z l (A, q))) (.slice aC (Fr.takeL z l (A, q)).length cC)
              rw [hw9]
              exact ⟨w6.heap.size, aC, cC, rfl, rfl, V9, ((OC.out.keptL K9 hlt.out).mono BB.out.size).rd (by have := Fr.takeL_len z l (A, q); omega), Kept.belowOf BC.out K9 (Nat.le_refl _)⟩
            exact AllReadyH.nil
          exact AllReadyH.nil
        exact AllReadyH.nil
      exact AllReadyH.nil
    case rest =>
      obtain ⟨vbk, ak, ck, rfl, rfl, Rk_7, Lk_7, bc7⟩ := hcut
      obtain ⟨w7, hw7⟩ : ∃ w7, w7 = wc := ⟨_, rfl⟩
      subst hw7
      clear SK_6
      have Rs_7 : Hid (Row w7 (W.heap.size) 24 [.int .i64 z, .slice a n c]) := Rs_6.out.below bc7.out
      have Rp_7 : Hid (Row w7 (w4.heap.size) 27 [.int .i64 (z), .slice ap (Fr.without l (A, q)).length cp]) := Rp_6.out.below bc7.out
      have Rx_7 : Hid (Row w7 (w5.heap.size) 26 [.int .i64 A, .int .i64 q]) := Rx_6.out.below bc7.out
      have Ls_7 : Hid (rSpns.rd w7 (fun b => b < W.heap.size) [.slice a n c] (l)) := Rep.below Ls_6.out bc7.out
      have Lp_7 : Hid (rSpns.rd w7 (fun b => w3.heap.size ≤ b) [.slice ap (Fr.without l (A, q)).length cp] (Fr.without l (A, q))) := Rep.below Lp_6.out bc7.out
      have B_7 : Hid (Below W.heap.size W w7) := on B_6.out bc7.out
      clear qs0 qs1 qx0 qx1
      clear Rs_6 Rp_6 Rx_6 Ls_6 Lp_6
      clear bc7
      clear Rk_7 Lk_7
      obtain ⟨g1, g2, g3, g4, g5⟩ := HAg.out
      have G1 : Hid _ := g1
      have G2 : Hid _ := g2
      have G3 : Hid _ := g3
      have G4 : Hid _ := g4
      have G5 : Hid _ := g5
      clear g1 g2 g3 g4 g5
      rw [HT.out]
      obtain ⟨qp0, qp1⟩ := Rp_7.out.two
      obtain ⟨qx0, qx1⟩ := Rx_7.out.two
      go_wp2_with (go_at_call 18; refine (num6_u _ _).mono ?_; rintro e w99 ⟨rfl, rfl⟩)
      refine (freeTake_u _ _ z _ _ _ (Fr.without l (A, q)) Lp_7.out (A, q) HX.out).mono ?_
      rintro e w8 ⟨v8, rfl, ho8, b8⟩
      rw [G1.out]
      obtain ⟨au, cu, hv8, -, -⟩ := ho8.slice
      subst hv8
      have Lu_8 : Hid (rSpns.rd w8 (fun b => w7.heap.size ≤ b) [.slice au (Fr.takeL z (Fr.without l (A, q)) (A, q)).length cu] (Fr.takeL z (Fr.without l (A, q)) (A, q))) := ho8.rd (by have := Fr.takeL_len z (Fr.without l (A, q)) (A, q); omega)
      have Rs_8 : Hid (Row w8 (W.heap.size) 24 [.int .i64 z, .slice a n c]) := Rs_7.out.below b8
      have Rp_8 : Hid (Row w8 (w4.heap.size) 27 [.int .i64 (z), .slice ap (Fr.without l (A, q)).length cp]) := Rp_7.out.below b8
      have Rx_8 : Hid (Row w8 (w5.heap.size) 26 [.int .i64 A, .int .i64 q]) := Rx_7.out.below b8
      have Ls_8 : Hid (rSpns.rd w8 (fun b => b < W.heap.size) [.slice a n c] (l)) := Rep.below Ls_7.out b8
      have Lp_8 : Hid (rSpns.rd w8 (fun b => w3.heap.size ≤ b) [.slice ap (Fr.without l (A, q)).length cp] (Fr.without l (A, q))) := Rep.below Lp_7.out b8
      have B_8 : Hid (Below W.heap.size W w8) := on B_7.out b8
      clear qp0 qp1 qx0 qx1
      clear Rs_7 Rp_7 Rx_7 Ls_7 Lp_7
      clear ho8 b8
      obtain ⟨w9, hw9, V9, b9, z9⟩ := boxedRow w8 27 [.int .i64 (Fr.takeZ z (Fr.without l (A, q)) (A, q)), .slice au (Fr.takeL z (Fr.without l (A, q)) (A, q)).length cu]
      have Ru_9 : Hid (Row w9 w8.heap.size 27 [.int .i64 (Fr.takeZ z (Fr.without l (A, q)) (A, q)), .slice au (Fr.takeL z (Fr.without l (A, q)) (A, q)).length cu]) := V9
      have Rs_9 : Hid (Row w9 (W.heap.size) 24 [.int .i64 z, .slice a n c]) := Rs_8.out.below b9
      have Rp_9 : Hid (Row w9 (w4.heap.size) 27 [.int .i64 (z), .slice ap (Fr.without l (A, q)).length cp]) := Rp_8.out.below b9
      have Rx_9 : Hid (Row w9 (w5.heap.size) 26 [.int .i64 A, .int .i64 q]) := Rx_8.out.below b9
      have Ls_9 : Hid (rSpns.rd w9 (fun b => b < W.heap.size) [.slice a n c] (l)) := Rep.below Ls_8.out b9
      have Lp_9 : Hid (rSpns.rd w9 (fun b => w3.heap.size ≤ b) [.slice ap (Fr.without l (A, q)).length cp] (Fr.without l (A, q))) := Rep.below Lp_8.out b9
      have Lu_9 : Hid (rSpns.rd w9 (fun b => w7.heap.size ≤ b) [.slice au (Fr.takeL z (Fr.without l (A, q)) (A, q)).length cu] (Fr.takeL z (Fr.without l (A, q)) (A, q))) := Rep.below Lu_8.out b9
      have B_9 : Hid (Below W.heap.size W w9) := on B_8.out b9
      clear Rs_8 Rp_8 Rx_8 Ls_8 Lp_8 Lu_8
      clear V9 b9 z9
      clear Ru_9 Lu_9
      obtain ⟨qp0, qp1⟩ := Rp_9.out.two
      obtain ⟨qx0, qx1⟩ := Rx_9.out.two
      go_wp2_with (go_at_call 18; refine (num6_u _ _).mono ?_; rintro e w99 ⟨rfl, rfl⟩)
      refine (freeFree_u _ _ z _ _ _ (Fr.without l (A, q)) Lp_9.out (A, q) HX.out).mono ?_
      rintro e w10 ⟨v10, rfl, ho10, b10⟩
      rw [G3.out] at ho10
      rw [G2.out, G4.out]
      obtain ⟨af, cf, hv10, -, -⟩ := ho10.slice
      subst hv10
      have Lf_10 : Hid (rSpns.rd w10 (fun b => w9.heap.size ≤ b) [.slice af (l).length cf] (l)) := ho10.rd (HLB.out)
      have Rs_10 : Hid (Row w10 (W.heap.size) 24 [.int .i64 z, .slice a n c]) := Rs_9.out.below b10
      have Rp_10 : Hid (Row w10 (w4.heap.size) 27 [.int .i64 (z), .slice ap (Fr.without l (A, q)).length cp]) := Rp_9.out.below b10
      have Rx_10 : Hid (Row w10 (w5.heap.size) 26 [.int .i64 A, .int .i64 q]) := Rx_9.out.below b10
      have Ls_10 : Hid (rSpns.rd w10 (fun b => b < W.heap.size) [.slice a n c] (l)) := Rep.below Ls_9.out b10
      have Lp_10 : Hid (rSpns.rd w10 (fun b => w3.heap.size ≤ b) [.slice ap (Fr.without l (A, q)).length cp] (Fr.without l (A, q))) := Rep.below Lp_9.out b10
      have B_10 : Hid (Below W.heap.size W w10) := on B_9.out b10
      clear qp0 qp1 qx0 qx1
      clear Rs_9 Rp_9 Rx_9 Ls_9 Lp_9
      clear ho10 b10
      obtain ⟨w11, hw11, V11, b11, z11⟩ := boxedRow w10 27 [.int .i64 (z), .slice af (l).length cf]
      have Rf_11 : Hid (Row w11 w10.heap.size 27 [.int .i64 (z), .slice af (l).length cf]) := V11
      have Rs_11 : Hid (Row w11 (W.heap.size) 24 [.int .i64 z, .slice a n c]) := Rs_10.out.below b11
      have Rp_11 : Hid (Row w11 (w4.heap.size) 27 [.int .i64 (z), .slice ap (Fr.without l (A, q)).length cp]) := Rp_10.out.below b11
      have Rx_11 : Hid (Row w11 (w5.heap.size) 26 [.int .i64 A, .int .i64 q]) := Rx_10.out.below b11
      have Ls_11 : Hid (rSpns.rd w11 (fun b => b < W.heap.size) [.slice a n c] (l)) := Rep.below Ls_10.out b11
      have Lp_11 : Hid (rSpns.rd w11 (fun b => w3.heap.size ≤ b) [.slice ap (Fr.without l (A, q)).length cp] (Fr.without l (A, q))) := Rep.below Lp_10.out b11
      have Lf_11 : Hid (rSpns.rd w11 (fun b => w9.heap.size ≤ b) [.slice af (l).length cf] (l)) := Rep.below Lf_10.out b11
      have B_11 : Hid (Below W.heap.size W w11) := on B_10.out b11
      clear Rs_10 Rp_10 Rx_10 Ls_10 Lp_10 Lf_10
      clear V11 b11 z11
      obtain ⟨qf0, qf1⟩ := Rf_11.out.two
      obtain ⟨qx0, qx1⟩ := Rx_11.out.two
      go_wp2_with (go_at_call 18; refine (num6_u _ _).mono ?_; rintro e w99 ⟨rfl, rfl⟩)
      refine (freeFree_u _ _ z _ _ _ l Lf_11.out (A, q) HX.out).mono ?_
      rintro e w12 ⟨v12, rfl, ho12, b12⟩
      rw [G5.out]
      obtain ⟨ag, cg, hv12, -, -⟩ := ho12.slice
      subst hv12
      have Lg_12 : Hid (rSpns.rd w12 (fun b => w11.heap.size ≤ b) [.slice ag (Fr.freeL z l (A, q)).length cg] (Fr.freeL z l (A, q))) := ho12.rd (by have := Fr.freeL_len z l (A, q); omega)
      have Rs_12 : Hid (Row w12 (W.heap.size) 24 [.int .i64 z, .slice a n c]) := Rs_11.out.below b12
      have Rp_12 : Hid (Row w12 (w4.heap.size) 27 [.int .i64 (z), .slice ap (Fr.without l (A, q)).length cp]) := Rp_11.out.below b12
      have Rx_12 : Hid (Row w12 (w5.heap.size) 26 [.int .i64 A, .int .i64 q]) := Rx_11.out.below b12
      have Rf_12 : Hid (Row w12 (w10.heap.size) 27 [.int .i64 (z), .slice af (l).length cf]) := Rf_11.out.below b12
      have Ls_12 : Hid (rSpns.rd w12 (fun b => b < W.heap.size) [.slice a n c] (l)) := Rep.below Ls_11.out b12
      have Lp_12 : Hid (rSpns.rd w12 (fun b => w3.heap.size ≤ b) [.slice ap (Fr.without l (A, q)).length cp] (Fr.without l (A, q))) := Rep.below Lp_11.out b12
      have Lf_12 : Hid (rSpns.rd w12 (fun b => w9.heap.size ≤ b) [.slice af (l).length cf] (l)) := Rep.below Lf_11.out b12
      have B_12 : Hid (Below W.heap.size W w12) := on B_11.out b12
      clear qf0 qf1 qx0 qx1
      clear Rs_11 Rp_11 Rx_11 Rf_11 Ls_11 Lp_11 Lf_11
      clear ho12 b12
      obtain ⟨w13, hw13, V13, b13, z13⟩ := boxedRow w12 27 [.int .i64 (Fr.freeZ z l (A, q)), .slice ag (Fr.freeL z l (A, q)).length cg]
      have Rg_13 : Hid (Row w13 w12.heap.size 27 [.int .i64 (Fr.freeZ z l (A, q)), .slice ag (Fr.freeL z l (A, q)).length cg]) := V13
      have Rs_13 : Hid (Row w13 (W.heap.size) 24 [.int .i64 z, .slice a n c]) := Rs_12.out.below b13
      have Rp_13 : Hid (Row w13 (w4.heap.size) 27 [.int .i64 (z), .slice ap (Fr.without l (A, q)).length cp]) := Rp_12.out.below b13
      have Rx_13 : Hid (Row w13 (w5.heap.size) 26 [.int .i64 A, .int .i64 q]) := Rx_12.out.below b13
      have Rf_13 : Hid (Row w13 (w10.heap.size) 27 [.int .i64 (z), .slice af (l).length cf]) := Rf_12.out.below b13
      have Ls_13 : Hid (rSpns.rd w13 (fun b => b < W.heap.size) [.slice a n c] (l)) := Rep.below Ls_12.out b13
      have Lp_13 : Hid (rSpns.rd w13 (fun b => w3.heap.size ≤ b) [.slice ap (Fr.without l (A, q)).length cp] (Fr.without l (A, q))) := Rep.below Lp_12.out b13
      have Lf_13 : Hid (rSpns.rd w13 (fun b => w9.heap.size ≤ b) [.slice af (l).length cf] (l)) := Rep.below Lf_12.out b13
      have Lg_13 : Hid (rSpns.rd w13 (fun b => w11.heap.size ≤ b) [.slice ag (Fr.freeL z l (A, q)).length cg] (Fr.freeL z l (A, q))) := Rep.below Lg_12.out b13
      have B_13 : Hid (Below W.heap.size W w13) := on B_12.out b13
      clear Rs_12 Rp_12 Rx_12 Rf_12 Ls_12 Lp_12 Lf_12 Lg_12
      clear V13 b13 z13
      clear Rg_13 Lg_13
      obtain ⟨qf0, qf1⟩ := Rf_13.out.two
      obtain ⟨qs0, qs1⟩ := Rs_13.out.two
      have e7 : IntKind.i64.wrap (line - A) = line - A := by rw [IntKind.wrap_i64]; omega
      go_wp2_with (go_at_call 18; refine (num6_u _ _).mono ?_; rintro e w99 ⟨rfl, rfl⟩)
      refine (alike_u _ _ _ z _ _ _ _ _ _ l Lf_13.out Ls_13.out).mono ?_
      rintro e w14 ⟨rfl, b14⟩
      have Rs_14 : Hid (Row w14 (W.heap.size) 24 [.int .i64 z, .slice a n c]) := Rs_13.out.below b14
      have Rp_14 : Hid (Row w14 (w4.heap.size) 27 [.int .i64 (z), .slice ap (Fr.without l (A, q)).length cp]) := Rp_13.out.below b14
      have Rx_14 : Hid (Row w14 (w5.heap.size) 26 [.int .i64 A, .int .i64 q]) := Rx_13.out.below b14
      have Rf_14 : Hid (Row w14 (w10.heap.size) 27 [.int .i64 (z), .slice af (l).length cf]) := Rf_13.out.below b14
      have Ls_14 : Hid (rSpns.rd w14 (fun b => b < W.heap.size) [.slice a n c] (l)) := Rep.below Ls_13.out b14
      have Lp_14 : Hid (rSpns.rd w14 (fun b => w3.heap.size ≤ b) [.slice ap (Fr.without l (A, q)).length cp] (Fr.without l (A, q))) := Rep.below Lp_13.out b14
      have Lf_14 : Hid (rSpns.rd w14 (fun b => w9.heap.size ≤ b) [.slice af (l).length cf] (l)) := Rep.below Lf_13.out b14
      have B_14 : Hid (Below W.heap.size W w14) := on B_13.out b14
      clear qf0 qf1 qs0 qs1
      clear Rs_13 Rp_13 Rx_13 Rf_13 Ls_13 Lp_13 Lf_13
      clear b14
      go_wp2_with (go_at_call 18; refine (num6_u _ _).mono ?_; rintro e w99 ⟨rfl, rfl⟩)
      go_ret
      exact ⟨rfl, B_14.out⟩
  · have HS : Hid _ := (Fr.alloc_said z l q line).2 hE
    obtain ⟨E, hEE⟩ : ∃ E, Fr.allocE z l q line = E := ⟨_, rfl⟩
    have hE0 : (E == 0) = false := beq_eq_false_iff_ne.2 (by rw [← hEE]; exact HS.out.1)
    rw [hEE, HS.out.2.2]
    rw [HS.out.2.1] at Rp_5 hw5
    rw [HS.out.2.1]
    clear hEE hE
    obtain ⟨qp0, qp1⟩ := Rp_5.out.two
    go_wp2_with (go_at_call 18; refine (num6_u _ _).mono ?_; rintro e w99 ⟨rfl, rfl⟩)
    go_ret
    exact ⟨rfl, by have h := B_5.out; rw [← hw5] at h; exact h⟩

set_option maxRecDepth 100000 in
theorem fback_lifted (os : Os) (started : os.Started) (H : Type) (enc : TypeId × Value → H) :
    ReturnsInHanded {} Try.checked os 5 .any (Rows.freeBackSpec.pre6 enc Try.prog Try.f5 Rows.freeBackRow.domain false) (Rows.freeBackSpec.post enc Try.prog Try.f5 false true false false) := by
  refine returnsInHanded_of_change_sized (C := Try.checked) own started (by kernel_rfl) Try.func5
    (ChangeSpec.witness6 (enc := enc) (C := Try.checked) false ⟨#[], #[.agg #[.int .i64 0, .slice none 0 0], .int .i64 0, .int .i64 0], []⟩ 8 (by kernel_rfl) (by kernel_rfl) (by kernel_rfl) (by kernel_rfl)) ?_
  intro W base args ds gs before hval0 hW _ hsz0 _
  have hsz : (DataW.weightsEach Try.prog (Try.f5.params.toList ++ Rows.freeBackSpec.plain.varTypes Try.prog) (ds ++ gs)).all (· ≤ reachBytes) = true := hsz0
  clear hsz0
  have hval : ∀ (j : Nat) t v, Try.f5.params[j]? = some t → args[j]? = some v → Value.okWide Try.prog W .any base t v := hval0
  have hW' := hW
  obtain ⟨p, q, hA0, hV, rfl, hfz, hnd⟩ := hW
  have hA : DataW.TrodAll enc Try.prog W 0 (fun _ => true) true Try.f5.params.toList args.toList ds p := hA0
  rw [Try.params5] at hA hval hsz
  obtain ⟨v0, vs0, d0, ds0, p0, q0, hargs, rfl, rfl, h0, r0⟩ := trodAll_cons hA
  obtain ⟨v1, vs1, d1, ds1, p1, q1, rfl, rfl, rfl, h1, r1⟩ := trodAll_cons r0
  obtain ⟨v2, vs2, d2, ds2, p2, q2, rfl, rfl, rfl, h2, r2⟩ := trodAll_cons r1
  obtain ⟨rfl, rfl, rfl⟩ := trodAll_nil r2
  obtain rfl : args = #[v0, v1, v2] := by cases args; simp_all
  obtain ⟨rfl, rfl⟩ := trodVars_none hV
  obtain ⟨c0, rfl, -⟩ := okWide_struct Try.underlying24 (hval 0 24 v0 rfl rfl)
  have k0 := h0
  have lt0 : ∀ x ∈ p0, x.block < W.heap.size := by obtain ⟨m, hm⟩ := k0; exact DataW.trod_lt m _ _ _ hm
  obtain ⟨x0, hx0⟩ := opens_state.arg h0 hsz (j := 0) rfl rfl
  obtain ⟨a1, rfl, rfl, rfl, w1⟩ := open_int Try.underlying3 (hval 1 3 v1 rfl rfl) h1
  have i1 := bounds_i64 w1
  obtain ⟨a2, rfl, rfl, rfl, w2⟩ := open_int Try.underlying3 (hval 2 3 v2 rfl rfl) h2
  have i2 := bounds_i64 w2
  clear hA0 hval0
  refine (fback_walk c0.toList x0 a1 a2 W hx0 (by omega) (by omega) (by omega) (by omega)).mono fun e W' ⟨he, bel⟩ => ?_
  subst he
  exact ⟨_, rfl, _, _, _, [], _, [], hW', trodAll_mk1 (shut_bool Try.underlying4 _), (trodAll_cons_mk (Below.trod laidOut (by kernel_rfl) (of_decide_eq_true (by kernel_rfl)) k0 bel lt0) (trodAll_cons_mk (shut_int Try.underlying3 w1) (trodAll_cons_mk (shut_int Try.underlying3 w2) trodAll_mk0))), rfl, bel.frame _, fun h => by cases h⟩

theorem freeBack_holds : Rows.FreeBackSaid :=
  OpenClaim.holds_of_wide 5 Try.f5 rfl rfl rfl rfl rfl rfl rfl ⟨rfl, rfl, rfl, rfl, rfl⟩ rfl rfl rfl rfl rfl (by kernel_rfl) Try.func5 (by kernel_rfl)
    (of_decide_eq_true (by kernel_rfl)) (by unfold Func.isWrapper; first | (rw [if_pos (by decide +kernel)]; kernel_rfl) | (rw [if_neg (by decide +kernel)]; exact ⟨rfl, rfl⟩))
    (fun os started H enc _ => fback_lifted os started H enc)

end Go.Proofs.Ytbbjbajdoekheaa
