/-
  Sectors freed one by one are free as if freed at once: at whatever state, span and place. Conditions: none.
-/
import Derived.Test.YtbbjbajdoekheabFAlive
import Derived.Test.YtbbjbajdoekheabFFrame
import Derived.Test.YtbbjbajdoekheabFBack
namespace Go.Proofs.Ytbbjbajdoekheab
open Go.ChangeShapes Go.WideShapes Go.ChangeAt Go.RowKit
set_option linter.unusedVariables false

set_option maxRecDepth 20000 in
set_option maxHeartbeats 8000000 in
theorem fmerges_walk (cs : List Value) (st : Int × List Spn) (xs : List Value) (x : Spn) (d : Int) (W : World) (h0 : rState.rd W (fun b => b < W.heap.size) cs st) (h1 : rSpn.rd W (fun b => b < W.heap.size) xs x) (hd0 : -9223372036854775808 ≤ d) (hd1 : d ≤ 9223372036854775807) :
    Calls Try.prog 3 #[.agg cs.toArray, .agg xs.toArray, .int .i64 d] W fun e W' => e = .returned (.bool true) ∧ Below W.heap.size W W' := by
  obtain ⟨a, n, c, rfl, hz, hL⟩ := rState_rd h0
  obtain ⟨z, l⟩ := st
  simp only at hz hL
  have HL : Hid (l.length = n) := (rList_len hL).1
  have HLB : Hid (l.length ≤ 8796093021952) := by unfold Hid; rw [HL.out]; have h : n * 16 ≤ 140737488351232 := (rList_len hL).2.2.2; omega
  have HZI : Hid (In64 z) := hz
  obtain ⟨rfl, hx2⟩ := rSpn_rd.1 h1
  have HX : Hid (In2 x) := hx2
  rw [show (spn2 x).toArray = #[.int .i64 x.1, .int .i64 x.2] from rfl]
  rw [show ([.int .i64 z, .slice a n c] : List Value).toArray = #[.int .i64 z, .slice a n c] from rfl]
  obtain ⟨w0, hw0, V0, b0, z0⟩ := boxedRow W 24 [.int .i64 z, .slice a n c]
  obtain ⟨w1, hw1, V1, b1, z1⟩ := boxedRow w0 26 [.int .i64 x.1, .int .i64 x.2]
  rw [z0] at V1
  have Rs_1 : Hid (Row w1 W.heap.size 24 [.int .i64 z, .slice a n c]) := V0.below b1
  have Rx_1 : Hid (Row w1 (W.heap.size + 1) 26 [.int .i64 x.1, .int .i64 x.2]) := V1
  have B_1 : Hid (Below W.heap.size W w1) := on b0 b1
  have Ls_1 : Hid (rSpns.rd w1 (fun b => b < W.heap.size) [.slice a n c] (l)) := Rep.below hL B_1.out
  clear V0 V1 b0 b1 z1 h0 h1 hL hz hx2
  go_enter Try.func3, Try.ntmps3
  go_wp2_with fail
  refine (alive6_u _).mono ?_
  rintro e w2 ⟨rfl, b2⟩
  have Rs_2 : Hid (Row w2 (W.heap.size) 24 [.int .i64 z, .slice a n c]) := Rs_1.out.below b2
  have Rx_2 : Hid (Row w2 (W.heap.size + 1) 26 [.int .i64 x.1, .int .i64 x.2]) := Rx_1.out.below b2
  have Ls_2 : Hid (rSpns.rd w2 (fun b => b < W.heap.size) [.slice a n c] (l)) := Rep.below Ls_1.out b2
  have B_2 : Hid (Below W.heap.size W w2) := on B_1.out b2
  clear Rs_1 Rx_1 Ls_1
  clear b2
  have SK_2 : Hid (∀ {w' : World}, Below w2.heap.size w2 w' → w'.cell? ⟨W.heap.size, 0, none⟩ = some (.int .i64 z) ∧ w'.cell? ⟨W.heap.size, 1, none⟩ = some (.slice a n c) ∧ w'.cell? ⟨W.heap.size + 1, 0, none⟩ = some (.int .i64 x.1) ∧ w'.cell? ⟨W.heap.size + 1, 1, none⟩ = some (.int .i64 x.2)) := fun b => ⟨(Rs_2.out.below b).two.1, (Rs_2.out.below b).two.2, (Rx_2.out.below b).two.1, (Rx_2.out.below b).two.2⟩
  obtain ⟨qs0, qs1⟩ := Rs_2.out.two
  obtain ⟨qx0, qx1⟩ := Rx_2.out.two
  go_wp2_with (go_at_call 8; refine (num6_u _ _).mono ?_; rintro e w99 ⟨rfl, rfl⟩)
  go_cut [7, 8] (fun t er wx => ∃ vb av cv, t = .pointer (some ⟨vb, 0, none⟩) ∧ er = .int .i64 (Fr.freeE z l x) ∧ Hid (Row wx vb 28 [.int .i64 (Fr.freeZ z l x), .slice av (Fr.freeL z l x).length cv]) ∧ Hid (rSpns.rd wx (fun b => w2.heap.size ≤ b) [.slice av (Fr.freeL z l x).length cv] (Fr.freeL z l x)) ∧ Hid (Below w2.heap.size w2 wx))
  case first =>
    refine wp_region_held_drew (S := (fun w' : World => w'.cell? ⟨W.heap.size, 0, none⟩ = some (.int .i64 z) ∧ w'.cell? ⟨W.heap.size, 1, none⟩ = some (.slice a n c) ∧ w'.cell? ⟨W.heap.size + 1, 0, none⟩ = some (.int .i64 x.1) ∧ w'.cell? ⟨W.heap.size + 1, 1, none⟩ = some (.int .i64 x.2))) (by kernel_rfl) (SK_2.out (Below.refl _ _).drew) (fun hHeld => ?_)
    refine wpAnyH_takeL (i := 0) (v := ?_) rfl rfl (by kernel_rfl) (by kernel_rfl) (by kernel_rfl) (fun _ _ _ h => h) (Or.inl ⟨by rfl, ?_⟩) (by assumption) ?_
    rotate_left
    · intro w hSw
      try dsimp only at hSw
      go_simp
      all_goals with_reducible rfl
    simp only [List.set_cons_zero, List.set_cons_succ]
    refine wpAnyH_takeL (i := 2) (v := ?_) rfl rfl (by kernel_rfl) (by kernel_rfl) (by kernel_rfl) (fun _ _ _ h => h) (Or.inl ⟨by rfl, ?_⟩) (by assumption) ?_
    rotate_left
    · intro w hSw
      try dsimp only at hSw
      go_simp
      all_goals with_reducible rfl
    simp only [List.set_cons_zero, List.set_cons_succ]
    refine wpAnyH_ready (rs := [1, 7]) (by kernel_rfl) (by simp) ?_
    refine AllReadyH.cons rfl (fun K hK => ?_) ?_
    · go_simp
      go_at_call 7
      refine Calls.mono (of_u _ _ z a n c (l) (Rep.below Ls_2.out ((Below.refl _ _).drew))) ?_
      rintro e wB ⟨vB, rfl, hoB, bB⟩
      have BB : Hid (Below w2.heap.size w2 wB) := below_drew_pre0 bB
      obtain ⟨aB, cB, hvB, -, -⟩ := hoB.slice
      subst hvB
      have LB : Hid (rSpns.rd wB (fun b => w2.drew.heap.size ≤ b) [.slice aB (l).length cB] (l)) := hoB.rd HLB.out
      clear hoB bB
      go_simp
      refine hK.out _ _ ?_ (fun hHeld => ?_)
      · try dsimp only
        exact SK_2.out BB.out
      clear hK K
      refine wpAnyH_ready (rs := [3, 7]) (by kernel_rfl) (by simp) ?_
      refine AllReadyH.cons rfl (fun K hK => ?_) ?_
      · go_simp
        go_at_call 6
        refine Calls.mono (freeFree_u _ _ z _ _ _ l LB.out x HX.out) ?_
        rintro e wC ⟨vC, rfl, hoC, bC⟩
        have BC : Hid (Below w2.heap.size w2 wC) := on BB.out bC
        obtain ⟨aC, cC, hvC, -, -⟩ := hoC.slice
        subst hvC
        have OC : Hid (OwnS _ _ _ _ _) := hoC
        clear hoC bC
        go_simp
        refine hK.out _ _ ?_ (fun hHeld => ?_)
        · try dsimp only
          exact SK_2.out BC.out
        clear hK K
        refine wpAnyH_takeL (i := 4) (v := ?_) rfl rfl (by kernel_rfl) (by kernel_rfl) (by kernel_rfl) (fun _ _ _ h => h) (Or.inl ⟨by rfl, ?_⟩) (by assumption) ?_
        rotate_left
        · intro w hSw
          try dsimp only at hSw
          go_simp
          all_goals with_reducible rfl
        simp only [List.set_cons_zero, List.set_cons_succ]
        refine wpAnyH_takeL (i := 5) (v := ?_) rfl rfl (by kernel_rfl) (by kernel_rfl) (by kernel_rfl) (fun _ _ _ h => h) (Or.inl ⟨by rfl, ?_⟩) (by assumption) ?_
        rotate_left
        · intro w hSw
          try dsimp only at hSw
          go_simp
          all_goals with_reducible rfl
        simp only [List.set_cons_zero, List.set_cons_succ]
        refine wpAnyH_takeL (i := 6) (v := ?_) rfl rfl (by kernel_rfl) (by kernel_rfl) (by kernel_rfl) (fun _ _ _ h => h) (Or.inl ⟨by rfl, ?_⟩) (by assumption) ?_
        rotate_left
        · intro w hSw
          try dsimp only at hSw
          go_simp
          all_goals with_reducible rfl
        simp only [List.set_cons_zero, List.set_cons_succ]
        refine wpAnyH_ready (rs := [7]) (by kernel_rfl) (by simp) ?_
        refine AllReadyH.cons rfl (fun K hK => ?_) ?_
        · go_simp
          refine hK.out _ _ ?_ (fun hHeld => ?_)
          · try dsimp only
            exact SK_2.out (below_alloc0 BC.out _)
          clear hK K
          refine wpAnyH_ready (rs := [8]) (by kernel_rfl) (by simp) ?_
          refine AllReadyH.cons rfl (fun K hK => ?_) ?_
          · go_simp
            refine hK.out _ _ ?_ (fun hHeld => ?_)
            · try dsimp only
              exact SK_2.out (below_alloc0 BC.out _)
            clear hK K
            refine wpAnyH_takeL (i := 9) (v := ?_) rfl rfl (by kernel_rfl) (by kernel_rfl) (by kernel_rfl) (fun _ _ _ h => h) (Or.inl ⟨by rfl, ?_⟩) (by assumption) ?_
            rotate_left
            · intro w hSw
              try dsimp only at hSw
              go_simp
              all_goals with_reducible rfl
            simp only [List.set_cons_zero, List.set_cons_succ]
            refine wpAnyH_done (by kernel_rfl) ?_ _
            clear hHeld
            go_wp2_with fail
            go_meet
            exact ⟨wC.heap.size, aC, cC, rfl, rfl, row_new _ _ _, Rep.below ((OC.out.mono BB.out.size).rd (by have := Fr.freeL_len z l x; omega)) ((Below.refl _ wC).alloc (Nat.le_refl _) _), below_alloc0 BC.out _⟩
          exact AllReadyH.nil
        exact AllReadyH.nil
      refine AllReadyH.cons rfl (fun K hK => ?_) ?_
      · have BZ : Hid (Below w2.heap.size w2 (wB.alloc (.cells #[.int .i64 0, .slice none 0 0] 28))) := below_alloc0 BB.out _
        have VZB : Hid (Row (wB.alloc (.cells #[.int .i64 0, .slice none 0 0] 28)) wB.heap.size 28 [.int .i64 0, .slice none 0 0]) := row_new wB _ _
        have LB2 : Hid _ := Rep.below LB.out ((Below.refl _ wB).alloc (Nat.le_refl _) (.cells #[.int .i64 0, .slice none 0 0] 28))
        obtain ⟨wZ, hwZ⟩ : ∃ wZ, wZ = wB.alloc (.cells #[.int .i64 0, .slice none 0 0] 28) := ⟨_, rfl⟩
        rw [← hwZ] at BZ VZB LB2
        have HZB : Hid (w2.heap.size ≤ wB.heap.size) := BB.out.size
        go_simp
        rw [← hwZ]
        clear hwZ
        refine hK.out _ _ ?_ (fun hHeld => ?_)
        · try dsimp only
          exact SK_2.out BZ.out
        clear hK K
        refine wpAnyH_ready (rs := [3]) (by kernel_rfl) (by simp) ?_
        refine AllReadyH.cons rfl (fun K hK => ?_) ?_
        · go_simp
          go_at_call 6
          refine Calls.mono (freeFree_u _ _ z _ _ _ l LB2.out x HX.out) ?_
          rintro e wC ⟨vC, rfl, hoC, bC⟩
          have BC : Hid (Below w2.heap.size w2 wC) := on BZ.out bC
          obtain ⟨aC, cC, hvC, -, -⟩ := hoC.slice
          subst hvC
          have OC : Hid (OwnS _ _ _ _ _) := hoC
          have VC : Hid (Row wC wB.heap.size 28 [.int .i64 0, .slice none 0 0]) := VZB.out.below bC
          have hlt : Hid (wB.heap.size < wZ.heap.size) := VZB.out.lt
          obtain ⟨g0, g1⟩ := VC.out.two
          have g2 := VC.out.frozen 0
          have g3 := VC.out.frozen 1
          clear hoC bC
          go_simp
          refine hK.out _ _ ?_ (fun hHeld => ?_)
          · try dsimp only
            exact SK_2.out BC.out
          clear hK K
          refine wpAnyH_takeL (i := 4) (v := ?_) rfl rfl (by kernel_rfl) (by kernel_rfl) (by kernel_rfl) (fun _ _ _ h => h) (Or.inl ⟨by rfl, ?_⟩) (by assumption) ?_
          rotate_left
          · intro w hSw
            try dsimp only at hSw
            go_simp
            all_goals with_reducible rfl
          simp only [List.set_cons_zero, List.set_cons_succ]
          refine wpAnyH_takeL (i := 5) (v := ?_) rfl rfl (by kernel_rfl) (by kernel_rfl) (by kernel_rfl) (fun _ _ _ h => h) (Or.inl ⟨by rfl, ?_⟩) (by assumption) ?_
          rotate_left
          · intro w hSw
            try dsimp only at hSw
            go_simp
            all_goals with_reducible rfl
          simp only [List.set_cons_zero, List.set_cons_succ]
          refine wpAnyH_takeL (i := 6) (v := ?_) rfl rfl (by kernel_rfl) (by kernel_rfl) (by kernel_rfl) (fun _ _ _ h => h) (Or.inl ⟨by rfl, ?_⟩) (by assumption) ?_
          rotate_left
          · intro w hSw
            try dsimp only at hSw
            go_simp
            all_goals with_reducible rfl
          simp only [List.set_cons_zero, List.set_cons_succ]
          refine wpAnyH_ready (rs := [8]) (by kernel_rfl) (by simp) ?_
          refine AllReadyH.cons rfl (fun K hK => ?_) ?_
          · go_simp
            refine hK.out _ _ ?_ (fun hHeld => ?_)
            · try dsimp only
              exact SK_2.out ((BC.out.setCell (p := ⟨wB.heap.size, 0, none⟩) HZB.out _).setCell (p := ⟨wB.heap.size, 1, none⟩) HZB.out _)
            clear hK K
            refine wpAnyH_takeL (i := 9) (v := ?_) rfl rfl (by kernel_rfl) (by kernel_rfl) (by kernel_rfl) (fun _ _ _ h => h) (Or.inl ⟨by rfl, ?_⟩) (by assumption) ?_
            rotate_left
            · intro w hSw
              try dsimp only at hSw
              go_simp
              all_goals with_reducible rfl
            simp only [List.set_cons_zero, List.set_cons_succ]
            refine wpAnyH_done (by kernel_rfl) ?_ _
            clear hHeld
            go_wp2_with fail
            go_meet
            obtain ⟨w9, hw9, V9, K9⟩ := VC.out.whole2 (.int .i64 (Fr.freeZ z l x)) (.slice aC (Fr.freeL z l x).length cC)
            rw [hw9]
            exact ⟨wB.heap.size, aC, cC, rfl, rfl, V9, ((OC.out.keptL K9 hlt.out).mono BZ.out.size).rd (by have := Fr.freeL_len z l x; omega), Kept.belowOf BC.out K9 HZB.out⟩
          exact AllReadyH.nil
        exact AllReadyH.nil
      exact AllReadyH.nil
    refine AllReadyH.cons rfl (fun K hK => ?_) ?_
    · have BZ : Hid (Below w2.heap.size w2 (w2.alloc (.cells #[.int .i64 0, .slice none 0 0] 28)).drew) := ((Below.refl _ w2).alloc (Nat.le_refl _) _).drew
      have VZ : Hid (Row (w2.alloc (.cells #[.int .i64 0, .slice none 0 0] 28)).drew w2.heap.size 28 [.int .i64 0, .slice none 0 0]) := (row_new w2 _ _).keep rfl
      obtain ⟨wZ, hwZ⟩ : ∃ wZ, wZ = (w2.alloc (.cells #[.int .i64 0, .slice none 0 0] 28)).drew := ⟨_, rfl⟩
      rw [← hwZ] at BZ VZ
      go_simp
      rw [← hwZ]
      clear hwZ
      refine hK.out _ _ ?_ (fun hHeld => ?_)
      · try dsimp only
        exact SK_2.out BZ.out
      clear hK K
      refine wpAnyH_ready (rs := [1]) (by kernel_rfl) (by simp) ?_
      refine AllReadyH.cons rfl (fun K hK => ?_) ?_
      · go_simp
        go_at_call 7
        refine Calls.mono (of_u _ _ z a n c (l) (Rep.below Ls_2.out (BZ.out))) ?_
        rintro e wB ⟨vB, rfl, hoB, bB⟩
        have BB : Hid (Below w2.heap.size w2 wB) := on BZ.out bB
        obtain ⟨aB, cB, hvB, -, -⟩ := hoB.slice
        subst hvB
        have VZB : Hid (Row wB w2.heap.size 28 [.int .i64 0, .slice none 0 0]) := VZ.out.below bB
        have LB : Hid (rSpns.rd wB (fun b => wZ.heap.size ≤ b) [.slice aB (l).length cB] (l)) := hoB.rd HLB.out
        clear hoB bB
        go_simp
        refine hK.out _ _ ?_ (fun hHeld => ?_)
        · try dsimp only
          exact SK_2.out BB.out
        clear hK K
        refine wpAnyH_ready (rs := [3]) (by kernel_rfl) (by simp) ?_
        refine AllReadyH.cons rfl (fun K hK => ?_) ?_
        · go_simp
          go_at_call 6
          refine Calls.mono (freeFree_u _ _ z _ _ _ l LB.out x HX.out) ?_
          rintro e wC ⟨vC, rfl, hoC, bC⟩
          have BC : Hid (Below w2.heap.size w2 wC) := on BB.out bC
          obtain ⟨aC, cC, hvC, -, -⟩ := hoC.slice
          subst hvC
          have OC : Hid (OwnS _ _ _ _ _) := hoC
          have VC : Hid (Row wC w2.heap.size 28 [.int .i64 0, .slice none 0 0]) := VZB.out.below bC
          have hlt : Hid (w2.heap.size < wB.heap.size) := VZB.out.lt
          obtain ⟨g0, g1⟩ := VC.out.two
          have g2 := VC.out.frozen 0
          have g3 := VC.out.frozen 1
          clear hoC bC
          go_simp
          refine hK.out _ _ ?_ (fun hHeld => ?_)
          · try dsimp only
            exact SK_2.out BC.out
          clear hK K
          refine wpAnyH_takeL (i := 4) (v := ?_) rfl rfl (by kernel_rfl) (by kernel_rfl) (by kernel_rfl) (fun _ _ _ h => h) (Or.inl ⟨by rfl, ?_⟩) (by assumption) ?_
          rotate_left
          · intro w hSw
            try dsimp only at hSw
            go_simp
            all_goals with_reducible rfl
          simp only [List.set_cons_zero, List.set_cons_succ]
          refine wpAnyH_takeL (i := 5) (v := ?_) rfl rfl (by kernel_rfl) (by kernel_rfl) (by kernel_rfl) (fun _ _ _ h => h) (Or.inl ⟨by rfl, ?_⟩) (by assumption) ?_
          rotate_left
          · intro w hSw
            try dsimp only at hSw
            go_simp
            all_goals with_reducible rfl
          simp only [List.set_cons_zero, List.set_cons_succ]
          refine wpAnyH_takeL (i := 6) (v := ?_) rfl rfl (by kernel_rfl) (by kernel_rfl) (by kernel_rfl) (fun _ _ _ h => h) (Or.inl ⟨by rfl, ?_⟩) (by assumption) ?_
          rotate_left
          · intro w hSw
            try dsimp only at hSw
            go_simp
            all_goals with_reducible rfl
          simp only [List.set_cons_zero, List.set_cons_succ]
          refine wpAnyH_ready (rs := [8]) (by kernel_rfl) (by simp) ?_
          refine AllReadyH.cons rfl (fun K hK => ?_) ?_
          · go_simp
            refine hK.out _ _ ?_ (fun hHeld => ?_)
            · try dsimp only
              exact SK_2.out ((BC.out.setCell (p := ⟨w2.heap.size, 0, none⟩) (Nat.le_refl _) _).setCell (p := ⟨w2.heap.size, 1, none⟩) (Nat.le_refl _) _)
            clear hK K
            refine wpAnyH_takeL (i := 9) (v := ?_) rfl rfl (by kernel_rfl) (by kernel_rfl) (by kernel_rfl) (fun _ _ _ h => h) (Or.inl ⟨by rfl, ?_⟩) (by assumption) ?_
            rotate_left
            · intro w hSw
              try dsimp only at hSw
              go_simp
              all_goals with_reducible rfl
            simp only [List.set_cons_zero, List.set_cons_succ]
            refine wpAnyH_done (by kernel_rfl) ?_ _
            clear hHeld
            go_wp2_with fail
            go_meet
            obtain ⟨w9, hw9, V9, K9⟩ := VC.out.whole2 (.int .i64 (Fr.freeZ z l x)) (.slice aC (Fr.freeL z l x).length cC)
            rw [hw9]
            exact ⟨w2.heap.size, aC, cC, rfl, rfl, V9, ((OC.out.keptL K9 hlt.out).mono BB.out.size).rd (by have := Fr.freeL_len z l x; omega), Kept.belowOf BC.out K9 (Nat.le_refl _)⟩
          exact AllReadyH.nil
        exact AllReadyH.nil
      exact AllReadyH.nil
    exact AllReadyH.nil
  case rest =>
    obtain ⟨vbf, af, cf, rfl, rfl, Rf_3, Lf_3, bc3⟩ := hcut
    obtain ⟨w3, hw3⟩ : ∃ w3, w3 = wc := ⟨_, rfl⟩
    subst hw3
    clear SK_2
    have Rs_3 : Hid (Row w3 (W.heap.size) 24 [.int .i64 z, .slice a n c]) := Rs_2.out.below bc3.out
    have Rx_3 : Hid (Row w3 (W.heap.size + 1) 26 [.int .i64 x.1, .int .i64 x.2]) := Rx_2.out.below bc3.out
    have Ls_3 : Hid (rSpns.rd w3 (fun b => b < W.heap.size) [.slice a n c] (l)) := Rep.below Ls_2.out bc3.out
    have B_3 : Hid (Below W.heap.size W w3) := on B_2.out bc3.out
    clear qs0 qs1 qx0 qx1
    clear Rs_2 Rx_2 Ls_2
    clear bc3
    by_cases hE : Fr.freeE z l x = 0
    · obtain ⟨u1, u2, -⟩ := Fr.freeE_zero_said hE
      rw [u1, u2] at Rf_3
      rw [u1] at Lf_3
      obtain ⟨hOk, hIn, -, -⟩ := Fr.freeE_zero.1 hE
      have hx1 := hIn.2.1
      have hx3 := hIn.2.2.1
      have hx4 := hIn.2.2.2
      have hzh := hOk.high
      rw [hE]
      have HE : Hid _ := hE
      clear u1 u2 hE hOk hIn
      by_cases h2 : x.2 < 2
      · obtain ⟨qx0, qx1⟩ := Rx_3.out.two
        go_wp2_with (go_at_call 8; refine (num6_u _ _).mono ?_; rintro e w99 ⟨rfl, rfl⟩)
        go_ret
        exact ⟨rfl, B_3.out⟩
      by_cases h3 : 1000 < n
      · obtain ⟨qx0, qx1⟩ := Rx_3.out.two
        obtain ⟨qs0, qs1⟩ := Rs_3.out.two
        go_wp2_with (go_at_call 8; refine (num6_u _ _).mono ?_; rintro e w99 ⟨rfl, rfl⟩)
        go_ret
        exact ⟨rfl, B_3.out⟩
      have ht1 := Int.tmod_lt_of_pos d (show (0 : Int) < x.2 - 1 by omega)
      have ht2 := Int.lt_tmod_of_pos d (show (0 : Int) < x.2 - 1 by omega)
      obtain ⟨T, hT⟩ : ∃ T, d.tmod (x.2 - 1) = T := ⟨_, rfl⟩
      rw [hT] at ht1 ht2
      obtain ⟨U, hU, hU0, hU1⟩ : ∃ U, (T + x.2 - 1).tmod (x.2 - 1) = U ∧ 0 ≤ U ∧ U < x.2 - 1 := ⟨_, rfl, Int.tmod_nonneg _ (by omega), Int.tmod_lt_of_pos _ (by omega)⟩
      have hd : ¬ x.2 - 1 = 0 := by omega
      have hdb : (x.2 - 1 == 0) = false := beq_eq_false_iff_ne.2 hd
      have w1' : IntKind.i64.wrap (x.2 - 1) = x.2 - 1 := by rw [IntKind.wrap_i64]; omega
      have w2' : IntKind.i64.wrap (d.tmod (x.2 - 1)) = T := by rw [hT, IntKind.wrap_i64]; omega
      have w3' : IntKind.i64.wrap (T + x.2) = T + x.2 := by rw [IntKind.wrap_i64]; omega
      have w4' : IntKind.i64.wrap (T + x.2 - 1) = T + x.2 - 1 := by rw [IntKind.wrap_i64]; omega
      have w5' : IntKind.i64.wrap ((T + x.2 - 1).tmod (x.2 - 1)) = U := by rw [hU, IntKind.wrap_i64]; omega
      have w6' : IntKind.i64.wrap (1 + U) = 1 + U := by rw [IntKind.wrap_i64]; omega
      obtain ⟨qx0, qx1⟩ := Rx_3.out.two
      obtain ⟨qs0, qs1⟩ := Rs_3.out.two
      go_wp2_with (go_at_call 8; refine (num6_u _ _).mono ?_; rintro e w99 ⟨rfl, rfl⟩)
      go_quiet (fail)
      obtain ⟨w4, hs4⟩ : ∃ w4, w4 = w3.drewN nq := ⟨_, rfl⟩
      rw [← hs4]
      have b4 : Below w3.heap.size w3 w4 := by rw [hs4]; exact same_drewN (Below.refl _ _) _
      have Rs_4 : Hid (Row w4 (W.heap.size) 24 [.int .i64 z, .slice a n c]) := Rs_3.out.below b4
      have Rx_4 : Hid (Row w4 (W.heap.size + 1) 26 [.int .i64 x.1, .int .i64 x.2]) := Rx_3.out.below b4
      have Rf_4 : Hid (Row w4 (vbf) 28 [.int .i64 (z), .slice af (Fr.withR x false l).length cf]) := Rf_3.out.below b4
      have Ls_4 : Hid (rSpns.rd w4 (fun b => b < W.heap.size) [.slice a n c] (l)) := Rep.below Ls_3.out b4
      have Lf_4 : Hid (rSpns.rd w4 (fun b => w2.heap.size ≤ b) [.slice af (Fr.withR x false l).length cf] (Fr.withR x false l)) := Rep.below Lf_3.out b4
      have B_4 : Hid (Below W.heap.size W w4) := on B_3.out b4
      clear qx0 qx1 qs0 qs1
      clear Rs_3 Rx_3 Rf_3 Ls_3 Lf_3
      clear b4 hs4
      obtain ⟨kk, hK⟩ : ∃ kk, 1 + U = kk := ⟨_, rfl⟩
      rw [hK]
      have hK1 : 1 ≤ kk := by omega
      have hK2 : kk < x.2 := by omega
      have HS : Hid _ := Fr.merges_said HE.out (show l.length ≤ 1000 by rw [HL.out]; omega) hK1 hK2
      clear ht1 ht2 hT hU hd hdb w1' w2' w3' w4' w5' w6' hK hU0 hU1
      have wa : IntKind.i64.wrap (x.1 + kk) = x.1 + kk := by rw [IntKind.wrap_i64]; omega
      have wb : IntKind.i64.wrap (x.2 - kk) = x.2 - kk := by rw [IntKind.wrap_i64]; omega
      have HX1 : Hid (In2 (x.1 + kk, x.2 - kk)) := by unfold Hid In2 In64; simp only; omega
      have HX2 : Hid (In2 (x.1, kk)) := by unfold Hid In2 In64; simp only; omega
      have SK_4 : Hid (∀ {w' : World}, Below w4.heap.size w4 w' → w'.cell? ⟨W.heap.size, 0, none⟩ = some (.int .i64 z) ∧ w'.cell? ⟨W.heap.size, 1, none⟩ = some (.slice a n c) ∧ w'.cell? ⟨W.heap.size + 1, 0, none⟩ = some (.int .i64 x.1) ∧ w'.cell? ⟨W.heap.size + 1, 1, none⟩ = some (.int .i64 x.2)) := fun b => ⟨(Rs_4.out.below b).two.1, (Rs_4.out.below b).two.2, (Rx_4.out.below b).two.1, (Rx_4.out.below b).two.2⟩
      obtain ⟨qs0, qs1⟩ := Rs_4.out.two
      obtain ⟨qx0, qx1⟩ := Rx_4.out.two
      go_wp2_with (go_at_call 8; refine (num6_u _ _).mono ?_; rintro e w99 ⟨rfl, rfl⟩)
      go_cut [9, 10] (fun t er wx => ∃ vb av cv, t = .pointer (some ⟨vb, 0, none⟩) ∧ er = .int .i64 (Fr.freeE z l (x.1 + kk, x.2 - kk)) ∧ Hid (Row wx vb 28 [.int .i64 (Fr.freeZ z l (x.1 + kk, x.2 - kk)), .slice av (Fr.freeL z l (x.1 + kk, x.2 - kk)).length cv]) ∧ Hid (rSpns.rd wx (fun b => w4.heap.size ≤ b) [.slice av (Fr.freeL z l (x.1 + kk, x.2 - kk)).length cv] (Fr.freeL z l (x.1 + kk, x.2 - kk))) ∧ Hid (Below w4.heap.size w4 wx))
      case first =>
        refine wp_region_held_drew (S := (fun w' : World => w'.cell? ⟨W.heap.size, 0, none⟩ = some (.int .i64 z) ∧ w'.cell? ⟨W.heap.size, 1, none⟩ = some (.slice a n c) ∧ w'.cell? ⟨W.heap.size + 1, 0, none⟩ = some (.int .i64 x.1) ∧ w'.cell? ⟨W.heap.size + 1, 1, none⟩ = some (.int .i64 x.2))) (by kernel_rfl) (SK_4.out (Below.refl _ _).drew) (fun hHeld => ?_)
        refine wpAnyH_takeL (i := 0) (v := ?_) rfl rfl (by kernel_rfl) (by kernel_rfl) (by kernel_rfl) (fun _ _ _ h => h) (Or.inl ⟨by rfl, ?_⟩) (by assumption) ?_
        rotate_left
        · intro w hSw
          try dsimp only at hSw
          go_simp
          all_goals with_reducible rfl
        simp only [List.set_cons_zero, List.set_cons_succ]
        refine wpAnyH_takeL (i := 2) (v := ?_) rfl rfl (by kernel_rfl) (by kernel_rfl) (by kernel_rfl) (fun _ _ _ h => h) (Or.inl ⟨by rfl, ?_⟩) (by assumption) ?_
        rotate_left
        · intro w hSw
          try dsimp only at hSw
          go_simp
          all_goals with_reducible rfl
        simp only [List.set_cons_zero, List.set_cons_succ]
        refine wpAnyH_takeL (i := 3) (v := ?_) rfl rfl (by kernel_rfl) (by kernel_rfl) (by kernel_rfl) (fun _ _ _ h => h) (Or.inl ⟨by rfl, ?_⟩) (by assumption) ?_
        rotate_left
        · intro w hSw
          try dsimp only at hSw
          go_simp
          all_goals with_reducible rfl
        simp only [List.set_cons_zero, List.set_cons_succ]
        refine wpAnyH_takeL (i := 4) (v := ?_) rfl rfl (by kernel_rfl) (by kernel_rfl) (by kernel_rfl) (fun _ _ _ h => h) (Or.inl ⟨by rfl, ?_⟩) (by assumption) ?_
        rotate_left
        · intro w hSw
          try dsimp only at hSw
          go_simp
          all_goals with_reducible rfl
        simp only [List.set_cons_zero, List.set_cons_succ]
        refine wpAnyH_takeL (i := 5) (v := ?_) rfl rfl (by kernel_rfl) (by kernel_rfl) (by kernel_rfl) (fun _ _ _ h => h) (Or.inl ⟨by rfl, ?_⟩) (by assumption) ?_
        rotate_left
        · intro w hSw
          try dsimp only at hSw
          go_simp
          all_goals with_reducible rfl
        simp only [List.set_cons_zero, List.set_cons_succ]
        refine wpAnyH_takeL (i := 6) (v := ?_) rfl rfl (by kernel_rfl) (by kernel_rfl) (by kernel_rfl) (fun _ _ _ h => h) (Or.inl ⟨by rfl, ?_⟩) (by assumption) ?_
        rotate_left
        · intro w hSw
          try dsimp only at hSw
          go_simp
          all_goals with_reducible rfl
        simp only [List.set_cons_zero, List.set_cons_succ]
        refine wpAnyH_takeL (i := 7) (v := ?_) rfl rfl (by kernel_rfl) (by kernel_rfl) (by kernel_rfl) (fun _ _ _ h => h) (Or.inl ⟨by rfl, ?_⟩) (by assumption) ?_
        rotate_left
        · intro w hSw
          try dsimp only at hSw
          go_simp
          all_goals with_reducible rfl
        simp only [List.set_cons_zero, List.set_cons_succ]
        refine wpAnyH_takeL (i := 8) (v := ?_) rfl rfl (by kernel_rfl) (by kernel_rfl) (by kernel_rfl) (fun _ _ _ h => h) (Or.inl ⟨by rfl, ?_⟩) (by assumption) ?_
        rotate_left
        · intro w hSw
          try dsimp only at hSw
          go_simp
          all_goals with_reducible rfl
        simp only [List.set_cons_zero, List.set_cons_succ]
        refine wpAnyH_takeL (i := 9) (v := ?_) rfl rfl (by kernel_rfl) (by kernel_rfl) (by kernel_rfl) (fun _ _ _ h => h) (Or.inl ⟨by rfl, ?_⟩) (by assumption) ?_
        rotate_left
        · intro w hSw
          try dsimp only at hSw
          go_simp
          all_goals with_reducible rfl
        simp only [List.set_cons_zero, List.set_cons_succ]
        refine wpAnyH_takeL (i := 10) (v := ?_) rfl rfl (by kernel_rfl) (by kernel_rfl) (by kernel_rfl) (fun _ _ _ h => h) (Or.inl ⟨by rfl, ?_⟩) (by assumption) ?_
        rotate_left
        · intro w hSw
          try dsimp only at hSw
          go_simp
          all_goals with_reducible rfl
        simp only [List.set_cons_zero, List.set_cons_succ]
        refine wpAnyH_ready (rs := [1, 15]) (by kernel_rfl) (by simp) ?_
        refine AllReadyH.cons rfl (fun K hK => ?_) ?_
        · go_simp
          go_at_call 7
          refine Calls.mono (of_u _ _ z a n c (l) (Rep.below Ls_4.out ((Below.refl _ _).drew))) ?_
          rintro e wB ⟨vB, rfl, hoB, bB⟩
          have BB : Hid (Below w4.heap.size w4 wB) := below_drew_pre0 bB
          obtain ⟨aB, cB, hvB, -, -⟩ := hoB.slice
          subst hvB
          have LB : Hid (rSpns.rd wB (fun b => w4.drew.heap.size ≤ b) [.slice aB (l).length cB] (l)) := hoB.rd HLB.out
          clear hoB bB
          go_simp
          refine hK.out _ _ ?_ (fun hHeld => ?_)
          · try dsimp only
            exact SK_4.out BB.out
          clear hK K
          refine wpAnyH_ready (rs := [11, 15]) (by kernel_rfl) (by simp) ?_
          refine AllReadyH.cons rfl (fun K hK => ?_) ?_
          · go_simp
            go_at_call 6
            refine Calls.mono (freeFree_u _ _ z _ _ _ l LB.out (x.1 + kk, x.2 - kk) HX1.out) ?_
            rintro e wC ⟨vC, rfl, hoC, bC⟩
            have BC : Hid (Below w4.heap.size w4 wC) := on BB.out bC
            obtain ⟨aC, cC, hvC, -, -⟩ := hoC.slice
            subst hvC
            have OC : Hid (OwnS _ _ _ _ _) := hoC
            clear hoC bC
            go_simp
            refine hK.out _ _ ?_ (fun hHeld => ?_)
            · try dsimp only
              exact SK_4.out BC.out
            clear hK K
            refine wpAnyH_takeL (i := 12) (v := ?_) rfl rfl (by kernel_rfl) (by kernel_rfl) (by kernel_rfl) (fun _ _ _ h => h) (Or.inl ⟨by rfl, ?_⟩) (by assumption) ?_
            rotate_left
            · intro w hSw
              try dsimp only at hSw
              go_simp
              all_goals with_reducible rfl
            simp only [List.set_cons_zero, List.set_cons_succ]
            refine wpAnyH_takeL (i := 13) (v := ?_) rfl rfl (by kernel_rfl) (by kernel_rfl) (by kernel_rfl) (fun _ _ _ h => h) (Or.inl ⟨by rfl, ?_⟩) (by assumption) ?_
            rotate_left
            · intro w hSw
              try dsimp only at hSw
              go_simp
              all_goals with_reducible rfl
            simp only [List.set_cons_zero, List.set_cons_succ]
            refine wpAnyH_takeL (i := 14) (v := ?_) rfl rfl (by kernel_rfl) (by kernel_rfl) (by kernel_rfl) (fun _ _ _ h => h) (Or.inl ⟨by rfl, ?_⟩) (by assumption) ?_
            rotate_left
            · intro w hSw
              try dsimp only at hSw
              go_simp
              all_goals with_reducible rfl
            simp only [List.set_cons_zero, List.set_cons_succ]
            refine wpAnyH_ready (rs := [15]) (by kernel_rfl) (by simp) ?_
            refine AllReadyH.cons rfl (fun K hK => ?_) ?_
            · go_simp
              refine hK.out _ _ ?_ (fun hHeld => ?_)
              · try dsimp only
                exact SK_4.out (below_alloc0 BC.out _)
              clear hK K
              refine wpAnyH_ready (rs := [16]) (by kernel_rfl) (by simp) ?_
              refine AllReadyH.cons rfl (fun K hK => ?_) ?_
              · go_simp
                refine hK.out _ _ ?_ (fun hHeld => ?_)
                · try dsimp only
                  exact SK_4.out (below_alloc0 BC.out _)
                clear hK K
                refine wpAnyH_takeL (i := 17) (v := ?_) rfl rfl (by kernel_rfl) (by kernel_rfl) (by kernel_rfl) (fun _ _ _ h => h) (Or.inl ⟨by rfl, ?_⟩) (by assumption) ?_
                rotate_left
                · intro w hSw
                  try dsimp only at hSw
                  go_simp
                  all_goals with_reducible rfl
                simp only [List.set_cons_zero, List.set_cons_succ]
                refine wpAnyH_done (by kernel_rfl) ?_ _
                clear hHeld
                go_wp2_with fail
                go_meet
                exact ⟨wC.heap.size, aC, cC, rfl, rfl, row_new _ _ _, Rep.below ((OC.out.mono BB.out.size).rd (by have := Fr.freeL_len z l (x.1 + kk, x.2 - kk); omega)) ((Below.refl _ wC).alloc (Nat.le_refl _) _), below_alloc0 BC.out _⟩
              exact AllReadyH.nil
            exact AllReadyH.nil
          refine AllReadyH.cons rfl (fun K hK => ?_) ?_
          · have BZ : Hid (Below w4.heap.size w4 (wB.alloc (.cells #[.int .i64 0, .slice none 0 0] 28))) := below_alloc0 BB.out _
            have VZB : Hid (Row (wB.alloc (.cells #[.int .i64 0, .slice none 0 0] 28)) wB.heap.size 28 [.int .i64 0, .slice none 0 0]) := row_new wB _ _
            have LB2 : Hid _ := Rep.below LB.out ((Below.refl _ wB).alloc (Nat.le_refl _) (.cells #[.int .i64 0, .slice none 0 0] 28))
            obtain ⟨wZ, hwZ⟩ : ∃ wZ, wZ = wB.alloc (.cells #[.int .i64 0, .slice none 0 0] 28) := ⟨_, rfl⟩
            rw [← hwZ] at BZ VZB LB2
            have HZB : Hid (w4.heap.size ≤ wB.heap.size) := BB.out.size
            go_simp
            rw [← hwZ]
            clear hwZ
            refine hK.out _ _ ?_ (fun hHeld => ?_)
            · try dsimp only
              exact SK_4.out BZ.out
            clear hK K
            refine wpAnyH_ready (rs := [11]) (by kernel_rfl) (by simp) ?_
            refine AllReadyH.cons rfl (fun K hK => ?_) ?_
            · go_simp
              go_at_call 6
              refine Calls.mono (freeFree_u _ _ z _ _ _ l LB2.out (x.1 + kk, x.2 - kk) HX1.out) ?_
              rintro e wC ⟨vC, rfl, hoC, bC⟩
              have BC : Hid (Below w4.heap.size w4 wC) := on BZ.out bC
              obtain ⟨aC, cC, hvC, -, -⟩ := hoC.slice
              subst hvC
              have OC : Hid (OwnS _ _ _ _ _) := hoC
              have VC : Hid (Row wC wB.heap.size 28 [.int .i64 0, .slice none 0 0]) := VZB.out.below bC
              have hlt : Hid (wB.heap.size < wZ.heap.size) := VZB.out.lt
              obtain ⟨g0, g1⟩ := VC.out.two
              have g2 := VC.out.frozen 0
              have g3 := VC.out.frozen 1
              clear hoC bC
              go_simp
              refine hK.out _ _ ?_ (fun hHeld => ?_)
              · try dsimp only
                exact SK_4.out BC.out
              clear hK K
              refine wpAnyH_takeL (i := 12) (v := ?_) rfl rfl (by kernel_rfl) (by kernel_rfl) (by kernel_rfl) (fun _ _ _ h => h) (Or.inl ⟨by rfl, ?_⟩) (by assumption) ?_
              rotate_left
              · intro w hSw
                try dsimp only at hSw
                go_simp
                all_goals with_reducible rfl
              simp only [List.set_cons_zero, List.set_cons_succ]
              refine wpAnyH_takeL (i := 13) (v := ?_) rfl rfl (by kernel_rfl) (by kernel_rfl) (by kernel_rfl) (fun _ _ _ h => h) (Or.inl ⟨by rfl, ?_⟩) (by assumption) ?_
              rotate_left
              · intro w hSw
                try dsimp only at hSw
                go_simp
                all_goals with_reducible rfl
              simp only [List.set_cons_zero, List.set_cons_succ]
              refine wpAnyH_takeL (i := 14) (v := ?_) rfl rfl (by kernel_rfl) (by kernel_rfl) (by kernel_rfl) (fun _ _ _ h => h) (Or.inl ⟨by rfl, ?_⟩) (by assumption) ?_
              rotate_left
              · intro w hSw
                try dsimp only at hSw
                go_simp
                all_goals with_reducible rfl
              simp only [List.set_cons_zero, List.set_cons_succ]
              refine wpAnyH_ready (rs := [16]) (by kernel_rfl) (by simp) ?_
              refine AllReadyH.cons rfl (fun K hK => ?_) ?_
              · go_simp
                refine hK.out _ _ ?_ (fun hHeld => ?_)
                · try dsimp only
                  exact SK_4.out ((BC.out.setCell (p := ⟨wB.heap.size, 0, none⟩) HZB.out _).setCell (p := ⟨wB.heap.size, 1, none⟩) HZB.out _)
                clear hK K
                refine wpAnyH_takeL (i := 17) (v := ?_) rfl rfl (by kernel_rfl) (by kernel_rfl) (by kernel_rfl) (fun _ _ _ h => h) (Or.inl ⟨by rfl, ?_⟩) (by assumption) ?_
                rotate_left
                · intro w hSw
                  try dsimp only at hSw
                  go_simp
                  all_goals with_reducible rfl
                simp only [List.set_cons_zero, List.set_cons_succ]
                refine wpAnyH_done (by kernel_rfl) ?_ _
                clear hHeld
                go_wp2_with fail
                go_meet
                obtain ⟨w9, hw9, V9, K9⟩ := VC.out.whole2 (.int .i64 (Fr.freeZ z l (x.1 + kk, x.2 - kk))) (.slice aC (Fr.freeL z l (x.1 + kk, x.2 - kk)).length cC)
                rw [hw9]
                exact ⟨wB.heap.size, aC, cC, rfl, rfl, V9, ((OC.out.keptL K9 hlt.out).mono BZ.out.size).rd (by have := Fr.freeL_len z l (x.1 + kk, x.2 - kk); omega), Kept.belowOf BC.out K9 HZB.out⟩
              exact AllReadyH.nil
            exact AllReadyH.nil
          exact AllReadyH.nil
        refine AllReadyH.cons rfl (fun K hK => ?_) ?_
        · have BZ : Hid (Below w4.heap.size w4 (w4.alloc (.cells #[.int .i64 0, .slice none 0 0] 28)).drew) := ((Below.refl _ w4).alloc (Nat.le_refl _) _).drew
          have VZ : Hid (Row (w4.alloc (.cells #[.int .i64 0, .slice none 0 0] 28)).drew w4.heap.size 28 [.int .i64 0, .slice none 0 0]) := (row_new w4 _ _).keep rfl
          obtain ⟨wZ, hwZ⟩ : ∃ wZ, wZ = (w4.alloc (.cells #[.int .i64 0, .slice none 0 0] 28)).drew := ⟨_, rfl⟩
          rw [← hwZ] at BZ VZ
          go_simp
          rw [← hwZ]
          clear hwZ
          refine hK.out _ _ ?_ (fun hHeld => ?_)
          · try dsimp only
            exact SK_4.out BZ.out
          clear hK K
          refine wpAnyH_ready (rs := [1]) (by kernel_rfl) (by simp) ?_
          refine AllReadyH.cons rfl (fun K hK => ?_) ?_
          · go_simp
            go_at_call 7
            refine Calls.mono (of_u _ _ z a n c (l) (Rep.below Ls_4.out (BZ.out))) ?_
            rintro e wB ⟨vB, rfl, hoB, bB⟩
            have BB : Hid (Below w4.heap.size w4 wB) := on BZ.out bB
            obtain ⟨aB, cB, hvB, -, -⟩ := hoB.slice
            subst hvB
            have VZB : Hid (Row wB w4.heap.size 28 [.int .i64 0, .slice none 0 0]) := VZ.out.below bB
            have LB : Hid (rSpns.rd wB (fun b => wZ.heap.size ≤ b) [.slice aB (l).length cB] (l)) := hoB.rd HLB.out
            clear hoB bB
            go_simp
            refine hK.out _ _ ?_ (fun hHeld => ?_)
            · try dsimp only
              exact SK_4.out BB.out
            clear hK K
            refine wpAnyH_ready (rs := [11]) (by kernel_rfl) (by simp) ?_
            refine AllReadyH.cons rfl (fun K hK => ?_) ?_
            · go_simp
              go_at_call 6
              refine Calls.mono (freeFree_u _ _ z _ _ _ l LB.out (x.1 + kk, x.2 - kk) HX1.out) ?_
              rintro e wC ⟨vC, rfl, hoC, bC⟩
              have BC : Hid (Below w4.heap.size w4 wC) := on BB.out bC
              obtain ⟨aC, cC, hvC, -, -⟩ := hoC.slice
              subst hvC
              have OC : Hid (OwnS _ _ _ _ _) := hoC
              have VC : Hid (Row wC w4.heap.size 28 [.int .i64 0, .slice none 0 0]) := VZB.out.below bC
              have hlt : Hid (w4.heap.size < wB.heap.size) := VZB.out.lt
              obtain ⟨g0, g1⟩ := VC.out.two
              have g2 := VC.out.frozen 0
              have g3 := VC.out.frozen 1
              clear hoC bC
              go_simp
              refine hK.out _ _ ?_ (fun hHeld => ?_)
              · try dsimp only
                exact SK_4.out BC.out
              clear hK K
              refine wpAnyH_takeL (i := 12) (v := ?_) rfl rfl (by kernel_rfl) (by kernel_rfl) (by kernel_rfl) (fun _ _ _ h => h) (Or.inl ⟨by rfl, ?_⟩) (by assumption) ?_
              rotate_left
              · intro w hSw
                try dsimp only at hSw
                go_simp
                all_goals with_reducible rfl
              simp only [List.set_cons_zero, List.set_cons_succ]
              refine wpAnyH_takeL (i := 13) (v := ?_) rfl rfl (by kernel_rfl) (by kernel_rfl) (by kernel_rfl) (fun _ _ _ h => h) (Or.inl ⟨by rfl, ?_⟩) (by assumption) ?_
              rotate_left
              · intro w hSw
                try dsimp only at hSw
                go_simp
                all_goals with_reducible rfl
              simp only [List.set_cons_zero, List.set_cons_succ]
              refine wpAnyH_takeL (i := 14) (v := ?_) rfl rfl (by kernel_rfl) (by kernel_rfl) (by kernel_rfl) (fun _ _ _ h => h) (Or.inl ⟨by rfl, ?_⟩) (by assumption) ?_
              rotate_left
              · intro w hSw
                try dsimp only at hSw
                go_simp
                all_goals with_reducible rfl
              simp only [List.set_cons_zero, List.set_cons_succ]
              refine wpAnyH_ready (rs := [16]) (by kernel_rfl) (by simp) ?_
              refine AllReadyH.cons rfl (fun K hK => ?_) ?_
              · go_simp
                refine hK.out _ _ ?_ (fun hHeld => ?_)
                · try dsimp only
                  exact SK_4.out ((BC.out.setCell (p := ⟨w4.heap.size, 0, none⟩) (Nat.le_refl _) _).setCell (p := ⟨w4.heap.size, 1, none⟩) (Nat.le_refl _) _)
                clear hK K
                refine wpAnyH_takeL (i := 17) (v := ?_) rfl rfl (by kernel_rfl) (by kernel_rfl) (by kernel_rfl) (fun _ _ _ h => h) (Or.inl ⟨by rfl, ?_⟩) (by assumption) ?_
                rotate_left
                · intro w hSw
                  try dsimp only at hSw
                  go_simp
                  all_goals with_reducible rfl
                simp only [List.set_cons_zero, List.set_cons_succ]
                refine wpAnyH_done (by kernel_rfl) ?_ _
                clear hHeld
                go_wp2_with fail
                go_meet
                obtain ⟨w9, hw9, V9, K9⟩ := VC.out.whole2 (.int .i64 (Fr.freeZ z l (x.1 + kk, x.2 - kk))) (.slice aC (Fr.freeL z l (x.1 + kk, x.2 - kk)).length cC)
                rw [hw9]
                exact ⟨w4.heap.size, aC, cC, rfl, rfl, V9, ((OC.out.keptL K9 hlt.out).mono BB.out.size).rd (by have := Fr.freeL_len z l (x.1 + kk, x.2 - kk); omega), Kept.belowOf BC.out K9 (Nat.le_refl _)⟩
              exact AllReadyH.nil
            exact AllReadyH.nil
          exact AllReadyH.nil
        exact AllReadyH.nil
      case rest =>
        obtain ⟨vbg, ag, cg, rfl, rfl, Rg_5, Lg_5, bc5⟩ := hcut
        obtain ⟨w5, hw5⟩ : ∃ w5, w5 = wc := ⟨_, rfl⟩
        subst hw5
        clear SK_4
        have Rs_5 : Hid (Row w5 (W.heap.size) 24 [.int .i64 z, .slice a n c]) := Rs_4.out.below bc5.out
        have Rx_5 : Hid (Row w5 (W.heap.size + 1) 26 [.int .i64 x.1, .int .i64 x.2]) := Rx_4.out.below bc5.out
        have Rf_5 : Hid (Row w5 (vbf) 28 [.int .i64 (z), .slice af (Fr.withR x false l).length cf]) := Rf_4.out.below bc5.out
        have Ls_5 : Hid (rSpns.rd w5 (fun b => b < W.heap.size) [.slice a n c] (l)) := Rep.below Ls_4.out bc5.out
        have Lf_5 : Hid (rSpns.rd w5 (fun b => w2.heap.size ≤ b) [.slice af (Fr.withR x false l).length cf] (Fr.withR x false l)) := Rep.below Lf_4.out bc5.out
        have B_5 : Hid (Below W.heap.size W w5) := on B_4.out bc5.out
        clear qs0 qs1 qx0 qx1
        clear Rs_4 Rx_4 Rf_4 Ls_4 Lf_4
        clear bc5
        obtain ⟨g1, g2, g3, g4, g5, g6⟩ := HS.out
        rw [g2, g3] at Rg_5
        rw [g2] at Lg_5
        rw [g1]
        have G4 : Hid _ := g4
        have G5 : Hid _ := g5
        have G6 : Hid _ := g6
        clear g1 g2 g3 g4 g5 g6
        obtain ⟨qg0, qg1⟩ := Rg_5.out.two
        obtain ⟨qx0, qx1⟩ := Rx_5.out.two
        go_wp2_with (go_at_call 8; refine (num6_u _ _).mono ?_; rintro e w99 ⟨rfl, rfl⟩)
        refine (freeFree_u _ _ z _ _ _ (Fr.withR (x.1 + kk, x.2 - kk) false l) Lg_5.out (x.1, kk) HX2.out).mono ?_
        rintro e w6 ⟨v6, rfl, ho6, b6⟩
        rw [G5.out] at ho6
        rw [G4.out, G6.out]
        obtain ⟨ah, ch, hv6, -, -⟩ := ho6.slice
        subst hv6
        have Lh_6 : Hid (rSpns.rd w6 (fun b => w5.heap.size ≤ b) [.slice ah (Fr.withR x false l).length ch] (Fr.withR x false l)) := ho6.rd (by have := (Fr.freeE_zero.1 HE.out).2.2.2; omega)
        have Rs_6 : Hid (Row w6 (W.heap.size) 24 [.int .i64 z, .slice a n c]) := Rs_5.out.below b6
        have Rx_6 : Hid (Row w6 (W.heap.size + 1) 26 [.int .i64 x.1, .int .i64 x.2]) := Rx_5.out.below b6
        have Rf_6 : Hid (Row w6 (vbf) 28 [.int .i64 (z), .slice af (Fr.withR x false l).length cf]) := Rf_5.out.below b6
        have Rg_6 : Hid (Row w6 (vbg) 28 [.int .i64 (z), .slice ag (Fr.withR (x.1 + kk, x.2 - kk) false l).length cg]) := Rg_5.out.below b6
        have Ls_6 : Hid (rSpns.rd w6 (fun b => b < W.heap.size) [.slice a n c] (l)) := Rep.below Ls_5.out b6
        have Lf_6 : Hid (rSpns.rd w6 (fun b => w2.heap.size ≤ b) [.slice af (Fr.withR x false l).length cf] (Fr.withR x false l)) := Rep.below Lf_5.out b6
        have Lg_6 : Hid (rSpns.rd w6 (fun b => w4.heap.size ≤ b) [.slice ag (Fr.withR (x.1 + kk, x.2 - kk) false l).length cg] (Fr.withR (x.1 + kk, x.2 - kk) false l)) := Rep.below Lg_5.out b6
        have B_6 : Hid (Below W.heap.size W w6) := on B_5.out b6
        clear qg0 qg1 qx0 qx1
        clear Rs_5 Rx_5 Rf_5 Rg_5 Ls_5 Lf_5 Lg_5
        clear ho6 b6
        obtain ⟨w7, hw7, V7, b7, z7⟩ := boxedRow w6 28 [.int .i64 (z), .slice ah (Fr.withR x false l).length ch]
        have Rh_7 : Hid (Row w7 w6.heap.size 28 [.int .i64 (z), .slice ah (Fr.withR x false l).length ch]) := V7
        have Rs_7 : Hid (Row w7 (W.heap.size) 24 [.int .i64 z, .slice a n c]) := Rs_6.out.below b7
        have Rx_7 : Hid (Row w7 (W.heap.size + 1) 26 [.int .i64 x.1, .int .i64 x.2]) := Rx_6.out.below b7
        have Rf_7 : Hid (Row w7 (vbf) 28 [.int .i64 (z), .slice af (Fr.withR x false l).length cf]) := Rf_6.out.below b7
        have Rg_7 : Hid (Row w7 (vbg) 28 [.int .i64 (z), .slice ag (Fr.withR (x.1 + kk, x.2 - kk) false l).length cg]) := Rg_6.out.below b7
        have Ls_7 : Hid (rSpns.rd w7 (fun b => b < W.heap.size) [.slice a n c] (l)) := Rep.below Ls_6.out b7
        have Lf_7 : Hid (rSpns.rd w7 (fun b => w2.heap.size ≤ b) [.slice af (Fr.withR x false l).length cf] (Fr.withR x false l)) := Rep.below Lf_6.out b7
        have Lg_7 : Hid (rSpns.rd w7 (fun b => w4.heap.size ≤ b) [.slice ag (Fr.withR (x.1 + kk, x.2 - kk) false l).length cg] (Fr.withR (x.1 + kk, x.2 - kk) false l)) := Rep.below Lg_6.out b7
        have Lh_7 : Hid (rSpns.rd w7 (fun b => w5.heap.size ≤ b) [.slice ah (Fr.withR x false l).length ch] (Fr.withR x false l)) := Rep.below Lh_6.out b7
        have B_7 : Hid (Below W.heap.size W w7) := on B_6.out b7
        clear Rs_6 Rx_6 Rf_6 Rg_6 Ls_6 Lf_6 Lg_6 Lh_6
        clear V7 b7 z7
        have hzz : (z == z) = true := beq_self_eq_true z
        obtain ⟨qh0, qh1⟩ := Rh_7.out.two
        obtain ⟨qf0, qf1⟩ := Rf_7.out.two
        go_wp2_with (go_at_call 8; refine (num6_u _ _).mono ?_; rintro e w99 ⟨rfl, rfl⟩)
        refine (sameSpns_u _ _ _ _ _ _ _ _ _ (Fr.withR x false l) (Fr.withR x false l) Lf_7.out Lh_7.out).mono ?_
        rintro e w8 ⟨rfl, b8⟩
        have Rs_8 : Hid (Row w8 (W.heap.size) 24 [.int .i64 z, .slice a n c]) := Rs_7.out.below b8
        have Rx_8 : Hid (Row w8 (W.heap.size + 1) 26 [.int .i64 x.1, .int .i64 x.2]) := Rx_7.out.below b8
        have Rf_8 : Hid (Row w8 (vbf) 28 [.int .i64 (z), .slice af (Fr.withR x false l).length cf]) := Rf_7.out.below b8
        have Rg_8 : Hid (Row w8 (vbg) 28 [.int .i64 (z), .slice ag (Fr.withR (x.1 + kk, x.2 - kk) false l).length cg]) := Rg_7.out.below b8
        have Rh_8 : Hid (Row w8 (w6.heap.size) 28 [.int .i64 (z), .slice ah (Fr.withR x false l).length ch]) := Rh_7.out.below b8
        have Ls_8 : Hid (rSpns.rd w8 (fun b => b < W.heap.size) [.slice a n c] (l)) := Rep.below Ls_7.out b8
        have Lf_8 : Hid (rSpns.rd w8 (fun b => w2.heap.size ≤ b) [.slice af (Fr.withR x false l).length cf] (Fr.withR x false l)) := Rep.below Lf_7.out b8
        have Lg_8 : Hid (rSpns.rd w8 (fun b => w4.heap.size ≤ b) [.slice ag (Fr.withR (x.1 + kk, x.2 - kk) false l).length cg] (Fr.withR (x.1 + kk, x.2 - kk) false l)) := Rep.below Lg_7.out b8
        have Lh_8 : Hid (rSpns.rd w8 (fun b => w5.heap.size ≤ b) [.slice ah (Fr.withR x false l).length ch] (Fr.withR x false l)) := Rep.below Lh_7.out b8
        have B_8 : Hid (Below W.heap.size W w8) := on B_7.out b8
        clear qh0 qh1 qf0 qf1
        clear Rs_7 Rx_7 Rf_7 Rg_7 Rh_7 Ls_7 Lf_7 Lg_7 Lh_7
        clear b8
        rw [decide_eq_true rfl]
        go_wp2_with (go_at_call 8; refine (num6_u _ _).mono ?_; rintro e w99 ⟨rfl, rfl⟩)
        go_ret
        exact ⟨rfl, B_8.out⟩
    · have u1 : Fr.freeL z l x = [] := if_neg hE
      rw [u1] at Rf_3
      obtain ⟨FE, hFE⟩ : ∃ FE, Fr.freeE z l x = FE := ⟨_, rfl⟩
      rw [hFE] at hE ⊢
      have hF0 : (FE == 0) = false := beq_eq_false_iff_ne.2 hE
      clear u1 hFE
      obtain ⟨qf0, qf1⟩ := Rf_3.out.two
      go_wp2_with (go_at_call 8; refine (num6_u _ _).mono ?_; rintro e w99 ⟨rfl, rfl⟩)
      go_ret
      exact ⟨rfl, B_3.out⟩

set_option maxRecDepth 100000 in
theorem fmerges_lifted (os : Os) (started : os.Started) (H : Type) (enc : TypeId × Value → H) :
    ReturnsInHanded {} Try.checked os 3 .any (Rows.freeMergesSpec.pre6 enc Try.prog Try.f3 Rows.freeMergesRow.domain false) (Rows.freeMergesSpec.post enc Try.prog Try.f3 false true false false) := by
  refine returnsInHanded_of_change_sized (C := Try.checked) own started (by kernel_rfl) Try.func3
    (ChangeSpec.witness6 (enc := enc) (C := Try.checked) false ⟨#[], #[.agg #[.int .i64 0, .slice none 0 0], .agg #[.int .i64 0, .int .i64 0], .int .i64 0], []⟩ 8 (by kernel_rfl) (by kernel_rfl) (by kernel_rfl) (by kernel_rfl)) ?_
  intro W base args ds gs before hval0 hW _ hsz0 _
  have hsz : (DataW.weightsEach Try.prog (Try.f3.params.toList ++ Rows.freeMergesSpec.plain.varTypes Try.prog) (ds ++ gs)).all (· ≤ reachBytes) = true := hsz0
  clear hsz0
  have hval : ∀ (j : Nat) t v, Try.f3.params[j]? = some t → args[j]? = some v → Value.okWide Try.prog W .any base t v := hval0
  have hW' := hW
  obtain ⟨p, q, hA0, hV, rfl, hfz, hnd⟩ := hW
  have hA : DataW.TrodAll enc Try.prog W 0 (fun _ => true) true Try.f3.params.toList args.toList ds p := hA0
  rw [Try.params3] at hA hval hsz
  obtain ⟨v0, vs0, d0, ds0, p0, q0, hargs, rfl, rfl, h0, r0⟩ := trodAll_cons hA
  obtain ⟨v1, vs1, d1, ds1, p1, q1, rfl, rfl, rfl, h1, r1⟩ := trodAll_cons r0
  obtain ⟨v2, vs2, d2, ds2, p2, q2, rfl, rfl, rfl, h2, r2⟩ := trodAll_cons r1
  obtain ⟨rfl, rfl, rfl⟩ := trodAll_nil r2
  obtain rfl : args = #[v0, v1, v2] := by cases args; simp_all
  obtain ⟨rfl, rfl⟩ := trodVars_none hV
  obtain ⟨c0, rfl, -⟩ := okWide_struct Try.underlying24 (hval 0 24 v0 rfl rfl)
  have k0 := h0
  have lt0 : ∀ x ∈ p0, x.block < W.heap.size := by obtain ⟨m, hm⟩ := k0; exact DataW.trod_lt m _ _ _ hm
  obtain ⟨x0, hx0⟩ := opens_state.arg h0 hsz (j := 0) rfl rfl
  obtain ⟨c1, rfl, -⟩ := okWide_struct Try.underlying26 (hval 1 26 v1 rfl rfl)
  have k1 := h1
  have lt1 : ∀ x ∈ p1, x.block < W.heap.size := by obtain ⟨m, hm⟩ := k1; exact DataW.trod_lt m _ _ _ hm
  obtain ⟨x1, hx1⟩ := opens_span.arg h1 hsz (j := 1) rfl rfl
  obtain ⟨a2, rfl, rfl, rfl, w2⟩ := open_int Try.underlying3 (hval 2 3 v2 rfl rfl) h2
  have i2 := bounds_i64 w2
  clear hA0 hval0
  refine (fmerges_walk c0.toList x0 c1.toList x1 a2 W hx0 hx1 (by omega) (by omega)).mono fun e W' ⟨he, bel⟩ => ?_
  subst he
  exact ⟨_, rfl, _, _, _, [], _, [], hW', trodAll_mk1 (shut_bool Try.underlying4 _), (trodAll_cons_mk (Below.trod laidOut (by kernel_rfl) (of_decide_eq_true (by kernel_rfl)) k0 bel lt0) (trodAll_cons_mk (Below.trod laidOut (by kernel_rfl) (of_decide_eq_true (by kernel_rfl)) k1 bel lt1) (trodAll_cons_mk (shut_int Try.underlying3 w2) trodAll_mk0))), rfl, bel.frame _, fun h => by cases h⟩

theorem freeMerges_holds : Rows.FreeMergesSaid :=
  OpenClaim.holds_of_wide 3 Try.f3 rfl rfl rfl rfl rfl rfl rfl ⟨rfl, rfl, rfl, rfl, rfl⟩ rfl rfl rfl rfl rfl (by kernel_rfl) Try.func3 (by kernel_rfl)
    (of_decide_eq_true (by kernel_rfl)) (by unfold Func.isWrapper; first | (rw [if_pos (by decide +kernel)]; kernel_rfl) | (rw [if_neg (by decide +kernel)]; exact ⟨rfl, rfl⟩))
    (fun os started H enc _ => fmerges_lifted os started H enc)

end Go.Proofs.Ytbbjbajdoekheab
