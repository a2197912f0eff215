/-
  The pages that follow share nothing with what was handed in. Conditions: none.
-/
import Derived.Test.YtgbbkmdfangmmaaGreatB19
import Derived.Test.YtgbbkmdfangmmaaGreatB20
namespace Go.Proofs.YtgbbkmdfangmmaaGreat
set_option maxRecDepth 20000
open Go.ChangeShapes Go.WideShapes Go.ChangeAt Go.RowKit
set_option linter.unusedVariables false
set_option maxRecDepth 20000 in
set_option maxHeartbeats 8000000 in
theorem town_walk (cs : List Value) (s : Pgs) (root : Int) (ds : List Value) (x : Itm) (W : World) (h0 : rSectors.rd W (fun b => b < W.heap.size) cs s) (hr0 : -9223372036854775808 ≤ root) (hr1 : root ≤ 9223372036854775807) (h2 : rItm.rd W (fun b => b < W.heap.size) ds x) :
    Calls Tryz.prog 8 #[.agg cs.toArray, .int .i64 root, .agg ds.toArray] W fun e W' => e = .returned (.bool true) ∧ Below W.heap.size W W' := by
  obtain ⟨a, n, c, rfl, hn, hn5⟩ := rPages_rd h0
  have HN : Hid (s.length = n) := hn
  have HN5 : Hid (n ≤ 5864062014634) := hn5
  have HR0 : Hid (-9223372036854775808 ≤ root) := hr0
  have HR1 : Hid (root ≤ 9223372036854775807) := hr1
  rw [show ([.slice a n c] : List Value).toArray = #[.slice a n c] from rfl]
  obtain rfl := rItm_rd.1 h2
  rw [show (itm2 x).toArray = #[.int .u64 (x.1.toNat : Int), .int .u64 (x.2.toNat : Int)] from rfl]
  obtain ⟨w0, hw0, V0, b0, z0⟩ := boxedRow W 24 [.slice a n c]
  obtain ⟨w1, hw1, V1, b1, z1⟩ := boxedRow w0 29 [.int .u64 (x.1.toNat : Int), .int .u64 (x.2.toNat : Int)]
  rw [z0] at V1
  have Rs_1 : Hid (Row w1 (W.heap.size) 24 [.slice a n c]) := V0.below b1
  have Rx_1 : Hid (Row w1 (W.heap.size + 1) 29 [.int .u64 (x.1.toNat : Int), .int .u64 (x.2.toNat : Int)]) := V1
  have B_1 : Hid (Below W.heap.size W w1) := on b0 b1
  have Ss_1 : Hid (rSectors.rd w1 (fun b => b < W.heap.size) [.slice a n c] (s)) := Rep.below h0 B_1.out
  clear V0 V1 b0 b1 z1 h0 h2 hn hn5 hr0 hr1
  go_enter Tryz.func8, Tryz.ntmps8
  go_wp2_with fail
  go_at_call 23
  refine Calls.mono (alive8_u _) ?_
  rintro e w2 ⟨rfl, b2⟩
  have Rs_2 : Hid (Row w2 (W.heap.size) 24 [.slice a n c]) := Rs_1.out.below (b2)
  have Rx_2 : Hid (Row w2 (W.heap.size + 1) 29 [.int .u64 (x.1.toNat : Int), .int .u64 (x.2.toNat : Int)]) := Rx_1.out.below (b2)
  have Ss_2 : Hid (rSectors.rd w2 (fun b => b < W.heap.size) [.slice a n c] (s)) := Rep.below Ss_1.out (b2)
  have B_2 : Hid (Below W.heap.size W w2) := on B_1.out (b2)
  clear Rs_1 Rx_1 Ss_1
  clear b2
  have HAW0 : Hid (W.heap.size ≤ w2.heap.size) := B_2.out.size
  have qs0 := Rs_2.out.cell (j := 0) rfl
  go_wp2_with (go_at_call 17; refine (num8_u _ _).mono ?_; rintro e w99 ⟨rfl, rfl⟩)
  go_at_call 9
  refine Calls.mono (of8F_u _ _ s a n c Ss_2.out) ?_
  rintro e w3 ⟨ao, co, rfl, h3, b3⟩
  have Fo_3 : Hid (rFrees.rd w3 (fun b => w2.heap.size ≤ b ∧ b < w3.heap.size) [.slice ao n co] (s)) := rFrees.weaken h3 (fun b hb hl => ⟨hb, hl⟩)
  have Rs_3 : Hid (Row w3 (W.heap.size) 24 [.slice a n c]) := Rs_2.out.below (b3)
  have Rx_3 : Hid (Row w3 (W.heap.size + 1) 29 [.int .u64 (x.1.toNat : Int), .int .u64 (x.2.toNat : Int)]) := Rx_2.out.below (b3)
  have Ss_3 : Hid (rSectors.rd w3 (fun b => b < W.heap.size) [.slice a n c] (s)) := Rep.below Ss_2.out (b3)
  have B_3 : Hid (Below W.heap.size W w3) := on B_2.out (b3)
  clear qs0
  clear Rs_2 Rx_2 Ss_2
  clear h3 b3
  obtain ⟨w4, hw4, V4, b4, z4⟩ := boxedRow w3 26 [.slice ao n co]
  have Ro_4 : Hid (Row w4 (w3.heap.size) 26 [.slice ao n co]) := V4
  have Rs_4 : Hid (Row w4 (W.heap.size) 24 [.slice a n c]) := Rs_3.out.below (b4)
  have Rx_4 : Hid (Row w4 (W.heap.size + 1) 29 [.int .u64 (x.1.toNat : Int), .int .u64 (x.2.toNat : Int)]) := Rx_3.out.below (b4)
  have Ss_4 : Hid (rSectors.rd w4 (fun b => b < W.heap.size) [.slice a n c] (s)) := Rep.below Ss_3.out (b4)
  have Fo_4 : Hid (rFrees.rd w4 (fun b => w2.heap.size ≤ b ∧ b < w3.heap.size) [.slice ao n co] (s)) := Rep.below Fo_3.out (b4)
  have B_4 : Hid (Below W.heap.size W w4) := on B_3.out (b4)
  clear Rs_3 Rx_3 Ss_3 Fo_3
  clear V4 b4 z4
  have HOB : Hid (w3.heap.size ≤ w4.heap.size) := by have h := Ro_4.out.lt; unfold Hid; omega
  have SZ_4 : Hid (w4.heap.size ≤ w4.heap.size) := Nat.le_refl _
  have qo0 := Ro_4.out.cell (j := 0) rfl
  obtain ⟨qx0, qx1⟩ := Rx_4.out.two
  go_wp2_with (go_at_call 17; refine (num8_u _ _).mono ?_; rintro e w99 ⟨rfl, rfl⟩)
  go_at_call 24
  refine Calls.mono (put8_u _ _ s root x _ _ _ (frees_sectors Fo_4.out) HR0.out HR1.out) ?_
  rintro e w5 ⟨ap, np, cp, rfl, h5, b5⟩
  have Sp_5 : Hid (rSectors.rd w5 (fun b => w4.heap.size ≤ b) [.slice ap np cp] (Tr.putS x s root)) := h5
  have Rs_5 : Hid (Row w5 (W.heap.size) 24 [.slice a n c]) := Rs_4.out.below (b5)
  have Rx_5 : Hid (Row w5 (W.heap.size + 1) 29 [.int .u64 (x.1.toNat : Int), .int .u64 (x.2.toNat : Int)]) := Rx_4.out.below (b5)
  have Ss_5 : Hid (rSectors.rd w5 (fun b => b < W.heap.size) [.slice a n c] (s)) := Rep.below Ss_4.out (b5)
  have Fo_5 : Hid (rFrees.rd w5 (fun b => w2.heap.size ≤ b ∧ b < w3.heap.size) [.slice ao n co] (s)) := Rep.below Fo_4.out (b5)
  have Ro_5 : Hid (Row w5 (w3.heap.size) 26 [.slice ao n co]) := Ro_4.out.below (b5)
  have B_5 : Hid (Below W.heap.size W w5) := on B_4.out (b5)
  have SZ_5 : Hid (w4.heap.size ≤ w5.heap.size) := Nat.le_trans SZ_4.out (b5).size
  clear qo0 qx0 qx1
  clear Rs_4 Rx_4 Ss_4 Fo_4 Ro_4
  clear h5 b5
  obtain ⟨w6, hw6, V6, b6, z6⟩ := boxedRow w5 26 [.slice ap np cp]
  have Rp_6 : Hid (Row w6 (w5.heap.size) 26 [.slice ap np cp]) := V6
  have Rs_6 : Hid (Row w6 (W.heap.size) 24 [.slice a n c]) := Rs_5.out.below (b6)
  have Rx_6 : Hid (Row w6 (W.heap.size + 1) 29 [.int .u64 (x.1.toNat : Int), .int .u64 (x.2.toNat : Int)]) := Rx_5.out.below (b6)
  have Ss_6 : Hid (rSectors.rd w6 (fun b => b < W.heap.size) [.slice a n c] (s)) := Rep.below Ss_5.out (b6)
  have Fo_6 : Hid (rFrees.rd w6 (fun b => w2.heap.size ≤ b ∧ b < w3.heap.size) [.slice ao n co] (s)) := Rep.below Fo_5.out (b6)
  have Ro_6 : Hid (Row w6 (w3.heap.size) 26 [.slice ao n co]) := Ro_5.out.below (b6)
  have Sp_6 : Hid (rSectors.rd w6 (fun b => w4.heap.size ≤ b) [.slice ap np cp] (Tr.putS x s root)) := Rep.below Sp_5.out (b6)
  have B_6 : Hid (Below W.heap.size W w6) := on B_5.out (b6)
  have SZ_6 : Hid (w4.heap.size ≤ w6.heap.size) := Nat.le_trans SZ_5.out (b6).size
  clear Rs_5 Rx_5 Ss_5 Fo_5 Ro_5 Sp_5
  clear V6 b6 z6
  have HOp : Hid (w3.heap.size ≤ w4.heap.size) := HOB.out
  have HAW : Hid (W.heap.size ≤ w2.heap.size) := HAW0.out
  have HOq : Hid (w3.heap.size ≤ w6.heap.size) := Nat.le_trans HOB.out SZ_6.out
  have SK_6 : Hid (∀ {w' : World}, Below w6.heap.size w6 w' → w'.cell? ⟨W.heap.size, 0, none⟩ = some (.slice a n c) ∧ w'.cell? ⟨W.heap.size + 1, 0, none⟩ = some (.int .u64 (x.1.toNat : Int)) ∧ w'.cell? ⟨W.heap.size + 1, 1, none⟩ = some (.int .u64 (x.2.toNat : Int))) := fun b => ⟨(Rs_6.out.below b).cell (j := 0) rfl, (Rx_6.out.below b).cell (j := 0) rfl, (Rx_6.out.below b).cell (j := 1) rfl⟩
  go_wp2_with (go_at_call 17; refine (num8_u _ _).mono ?_; rintro e w99 ⟨rfl, rfl⟩)
  go_cut [11, 12, 13] (fun t pp er wx => ∃ vb av mv cv, t = .pointer (some ⟨vb, 0, none⟩) ∧ pp = .int .i64 (Tr.putQ x s root) ∧ er = .int .i64 (Tr.putE x s root) ∧ Hid (Row wx vb 26 [.slice av mv cv]) ∧ Hid (rSectors.rd wx (fun b => w6.heap.size ≤ b) [.slice av mv cv] (Tr.putS x s root)) ∧ Hid (Below w6.heap.size w6 wx))
  case first =>
    refine wp_region_held_drew (S := (fun w' : World => w'.cell? ⟨W.heap.size, 0, none⟩ = some (.slice a n c) ∧ w'.cell? ⟨W.heap.size + 1, 0, none⟩ = some (.int .u64 (x.1.toNat : Int)) ∧ w'.cell? ⟨W.heap.size + 1, 1, none⟩ = some (.int .u64 (x.2.toNat : Int)))) (by kernel_rfl) (SK_6.out (Below.refl _ _).drew) (fun hHeld => ?_)
    refine wpAnyH_takeL (i := 0) (v := ?_) rfl rfl (by kernel_rfl) (by kernel_rfl) (by kernel_rfl) (fun _ _ _ h => h) (Or.inl ⟨by rfl, ?_⟩) (by assumption) ?_
    rotate_left
    · intro w hSw
      try dsimp only at hSw
      go_simp
      all_goals with_reducible rfl
    simp only [List.set_cons_zero, List.set_cons_succ]
    refine wpAnyH_takeL (i := 2) (v := ?_) rfl rfl (by kernel_rfl) (by kernel_rfl) (by kernel_rfl) (fun _ _ _ h => h) (Or.inl ⟨by rfl, ?_⟩) (by assumption) ?_
    rotate_left
    · intro w hSw
      try dsimp only at hSw
      go_simp
      all_goals with_reducible rfl
    simp only [List.set_cons_zero, List.set_cons_succ]
    refine wpAnyH_takeL (i := 3) (v := ?_) rfl rfl (by kernel_rfl) (by kernel_rfl) (by kernel_rfl) (fun _ _ _ h => h) (Or.inl ⟨by rfl, ?_⟩) (by assumption) ?_
    rotate_left
    · intro w hSw
      try dsimp only at hSw
      go_simp
      all_goals with_reducible rfl
    simp only [List.set_cons_zero, List.set_cons_succ]
    refine wpAnyH_ready (rs := [1, 9]) (by kernel_rfl) (by simp) ?_
    refine AllReadyH.cons rfl (fun K hK => ?_) ?_
    · go_simp
      go_at_call 9
      refine Calls.mono (of8_u _ _ s a n c (Rep.below Ss_6.out ((Below.refl _ _).drew))) ?_
      rintro e wB ⟨aB, cB, rfl, hoB, bB⟩
      have BB : Hid (Below w6.heap.size w6 wB) := below_drew_pre0 bB
      have LB : Hid (rSectors.rd wB (fun b => w6.drew.heap.size ≤ b) [.slice aB n cB] (s)) := hoB
      clear hoB bB
      go_simp
      refine hK.out _ _ ?_ (fun hHeld => ?_)
      · try dsimp only
        exact SK_6.out BB.out
      clear hK K
      refine wpAnyH_ready (rs := [4, 9]) (by kernel_rfl) (by simp) ?_
      refine AllReadyH.cons rfl (fun K hK => ?_) ?_
      · go_simp
        go_at_call 24
        refine Calls.mono (put8_u _ _ s root x _ _ _ LB.out HR0.out HR1.out) ?_
        rintro e wC ⟨aC, mC, cC, rfl, hoC, bC⟩
        have BC : Hid (Below w6.heap.size w6 wC) := on BB.out bC
        have OC : Hid _ := hoC
        clear hoC bC
        go_simp
        refine hK.out _ _ ?_ (fun hHeld => ?_)
        · try dsimp only
          exact SK_6.out BC.out
        clear hK K
        refine wpAnyH_takeL (i := 5) (v := ?_) rfl rfl (by kernel_rfl) (by kernel_rfl) (by kernel_rfl) (fun _ _ _ h => h) (Or.inl ⟨by rfl, ?_⟩) (by assumption) ?_
        rotate_left
        · intro w hSw
          try dsimp only at hSw
          go_simp
          all_goals with_reducible rfl
        simp only [List.set_cons_zero, List.set_cons_succ]
        refine wpAnyH_takeL (i := 6) (v := ?_) rfl rfl (by kernel_rfl) (by kernel_rfl) (by kernel_rfl) (fun _ _ _ h => h) (Or.inl ⟨by rfl, ?_⟩) (by assumption) ?_
        rotate_left
        · intro w hSw
          try dsimp only at hSw
          go_simp
          all_goals with_reducible rfl
        simp only [List.set_cons_zero, List.set_cons_succ]
        refine wpAnyH_takeL (i := 7) (v := ?_) rfl rfl (by kernel_rfl) (by kernel_rfl) (by kernel_rfl) (fun _ _ _ h => h) (Or.inl ⟨by rfl, ?_⟩) (by assumption) ?_
        rotate_left
        · intro w hSw
          try dsimp only at hSw
          go_simp
          all_goals with_reducible rfl
        simp only [List.set_cons_zero, List.set_cons_succ]
        refine wpAnyH_takeL (i := 8) (v := ?_) rfl rfl (by kernel_rfl) (by kernel_rfl) (by kernel_rfl) (fun _ _ _ h => h) (Or.inl ⟨by rfl, ?_⟩) (by assumption) ?_
        rotate_left
        · intro w hSw
          try dsimp only at hSw
          go_simp
          all_goals with_reducible rfl
        simp only [List.set_cons_zero, List.set_cons_succ]
        refine wpAnyH_ready (rs := [9]) (by kernel_rfl) (by simp) ?_
        refine AllReadyH.cons rfl (fun K hK => ?_) ?_
        · go_simp
          refine hK.out _ _ ?_ (fun hHeld => ?_)
          · try dsimp only
            exact SK_6.out (below_alloc0 BC.out _)
          clear hK K
          refine wpAnyH_ready (rs := [10]) (by kernel_rfl) (by simp) ?_
          refine AllReadyH.cons rfl (fun K hK => ?_) ?_
          · go_simp
            refine hK.out _ _ ?_ (fun hHeld => ?_)
            · try dsimp only
              exact SK_6.out (below_alloc0 BC.out _)
            clear hK K
            refine wpAnyH_takeL (i := 11) (v := ?_) rfl rfl (by kernel_rfl) (by kernel_rfl) (by kernel_rfl) (fun _ _ _ h => h) (Or.inl ⟨by rfl, ?_⟩) (by assumption) ?_
            rotate_left
            · intro w hSw
              try dsimp only at hSw
              go_simp
              all_goals with_reducible rfl
            simp only [List.set_cons_zero, List.set_cons_succ]
            refine wpAnyH_takeL (i := 12) (v := ?_) rfl rfl (by kernel_rfl) (by kernel_rfl) (by kernel_rfl) (fun _ _ _ h => h) (Or.inl ⟨by rfl, ?_⟩) (by assumption) ?_
            rotate_left
            · intro w hSw
              try dsimp only at hSw
              go_simp
              all_goals with_reducible rfl
            simp only [List.set_cons_zero, List.set_cons_succ]
            refine wpAnyH_done (by kernel_rfl) ?_ _
            clear hHeld
            go_wp2_with fail
            go_meet
            exact ⟨wC.heap.size, aC, mC, cC, rfl, rfl, rfl, row_new _ _ _, Rep.below (rSectors.weaken OC.out (fun b hb _ => Nat.le_trans BB.out.size hb)) ((Below.refl _ wC).alloc (Nat.le_refl _) _), below_alloc0 BC.out _⟩
          exact AllReadyH.nil
        exact AllReadyH.nil
      refine AllReadyH.cons rfl (fun K hK => ?_) ?_
      · have BZ : Hid (Below w6.heap.size w6 (wB.alloc (.cells #[.slice none 0 0] 26))) := below_alloc0 BB.out _
        have VZB : Hid (Row (wB.alloc (.cells #[.slice none 0 0] 26)) wB.heap.size 26 [.slice none 0 0]) := row_new wB _ _
        have LB2 : Hid _ := Rep.below LB.out ((Below.refl _ wB).alloc (Nat.le_refl _) (.cells #[.slice none 0 0] 26))
        obtain ⟨wZ, hwZ⟩ : ∃ wZ, wZ = wB.alloc (.cells #[.slice none 0 0] 26) := ⟨_, rfl⟩
        rw [← hwZ] at BZ VZB LB2
        have HZB : Hid (w6.heap.size ≤ wB.heap.size) := BB.out.size
        go_simp
        rw [← hwZ]
        clear hwZ
        refine hK.out _ _ ?_ (fun hHeld => ?_)
        · try dsimp only
          exact SK_6.out BZ.out
        clear hK K
        refine wpAnyH_ready (rs := [4]) (by kernel_rfl) (by simp) ?_
        refine AllReadyH.cons rfl (fun K hK => ?_) ?_
        · go_simp
          go_at_call 24
          refine Calls.mono (put8_u _ _ s root x _ _ _ LB2.out HR0.out HR1.out) ?_
          rintro e wC ⟨aC, mC, cC, rfl, hoC, bC⟩
          have BC : Hid (Below w6.heap.size w6 wC) := on BZ.out bC
          have OC : Hid _ := hoC
          have VC : Hid (Row wC wB.heap.size 26 [.slice none 0 0]) := VZB.out.below bC
          have hlt : Hid (wB.heap.size < wZ.heap.size) := VZB.out.lt
          have g0 := VC.out.cell (j := 0) rfl
          have g2 := VC.out.frozen 0
          clear hoC bC
          go_simp
          refine hK.out _ _ ?_ (fun hHeld => ?_)
          · try dsimp only
            exact SK_6.out BC.out
          clear hK K
          refine wpAnyH_takeL (i := 5) (v := ?_) rfl rfl (by kernel_rfl) (by kernel_rfl) (by kernel_rfl) (fun _ _ _ h => h) (Or.inl ⟨by rfl, ?_⟩) (by assumption) ?_
          rotate_left
          · intro w hSw
            try dsimp only at hSw
            go_simp
            all_goals with_reducible rfl
          simp only [List.set_cons_zero, List.set_cons_succ]
          refine wpAnyH_takeL (i := 6) (v := ?_) rfl rfl (by kernel_rfl) (by kernel_rfl) (by kernel_rfl) (fun _ _ _ h => h) (Or.inl ⟨by rfl, ?_⟩) (by assumption) ?_
          rotate_left
          · intro w hSw
            try dsimp only at hSw
            go_simp
            all_goals with_reducible rfl
          simp only [List.set_cons_zero, List.set_cons_succ]
          refine wpAnyH_takeL (i := 7) (v := ?_) rfl rfl (by kernel_rfl) (by kernel_rfl) (by kernel_rfl) (fun _ _ _ h => h) (Or.inl ⟨by rfl, ?_⟩) (by assumption) ?_
          rotate_left
          · intro w hSw
            try dsimp only at hSw
            go_simp
            all_goals with_reducible rfl
          simp only [List.set_cons_zero, List.set_cons_succ]
          refine wpAnyH_takeL (i := 8) (v := ?_) rfl rfl (by kernel_rfl) (by kernel_rfl) (by kernel_rfl) (fun _ _ _ h => h) (Or.inl ⟨by rfl, ?_⟩) (by assumption) ?_
          rotate_left
          · intro w hSw
            try dsimp only at hSw
            go_simp
            all_goals with_reducible rfl
          simp only [List.set_cons_zero, List.set_cons_succ]
          refine wpAnyH_ready (rs := [10]) (by kernel_rfl) (by simp) ?_
          refine AllReadyH.cons rfl (fun K hK => ?_) ?_
          · go_simp
            refine hK.out _ _ ?_ (fun hHeld => ?_)
            · try dsimp only
              exact SK_6.out (BC.out.setCell (p := ⟨wB.heap.size, 0, none⟩) HZB.out _)
            clear hK K
            refine wpAnyH_takeL (i := 11) (v := ?_) rfl rfl (by kernel_rfl) (by kernel_rfl) (by kernel_rfl) (fun _ _ _ h => h) (Or.inl ⟨by rfl, ?_⟩) (by assumption) ?_
            rotate_left
            · intro w hSw
              try dsimp only at hSw
              go_simp
              all_goals with_reducible rfl
            simp only [List.set_cons_zero, List.set_cons_succ]
            refine wpAnyH_takeL (i := 12) (v := ?_) rfl rfl (by kernel_rfl) (by kernel_rfl) (by kernel_rfl) (fun _ _ _ h => h) (Or.inl ⟨by rfl, ?_⟩) (by assumption) ?_
            rotate_left
            · intro w hSw
              try dsimp only at hSw
              go_simp
              all_goals with_reducible rfl
            simp only [List.set_cons_zero, List.set_cons_succ]
            refine wpAnyH_done (by kernel_rfl) ?_ _
            clear hHeld
            go_wp2_with fail
            go_meet
            have K9 : Kept (· ≠ wB.heap.size) wC (wC.setCell ⟨wB.heap.size, 0, none⟩ (.slice aC mC cC)) := (Kept.refl _ wC).setCell (p := ⟨wB.heap.size, 0, none⟩) (fun h => h rfl) _
            exact ⟨wB.heap.size, aC, mC, cC, rfl, rfl, rfl, VC.out.set 0 _, rSectors.weaken (Rep.kept OC.out K9 (fun b hb _ => by have h1 : wZ.heap.size ≤ b := hb; have h2 := hlt.out; show b ≠ wB.heap.size; omega)) (fun b hb _ => Nat.le_trans BZ.out.size hb), Kept.belowOf BC.out K9 HZB.out⟩
          exact AllReadyH.nil
        exact AllReadyH.nil
      exact AllReadyH.nil
    refine AllReadyH.cons rfl (fun K hK => ?_) ?_
    · have BZ : Hid (Below w6.heap.size w6 (w6.alloc (.cells #[.slice none 0 0] 26)).drew) := ((Below.refl _ w6).alloc (Nat.le_refl _) _).drew
      have VZ : Hid (Row (w6.alloc (.cells #[.slice none 0 0] 26)).drew w6.heap.size 26 [.slice none 0 0]) := (row_new w6 _ _).keep rfl
      obtain ⟨wZ, hwZ⟩ : ∃ wZ, wZ = (w6.alloc (.cells #[.slice none 0 0] 26)).drew := ⟨_, rfl⟩
      rw [← hwZ] at BZ VZ
      go_simp
      rw [← hwZ]
      clear hwZ
      refine hK.out _ _ ?_ (fun hHeld => ?_)
      · try dsimp only
        exact SK_6.out BZ.out
      clear hK K
      refine wpAnyH_ready (rs := [1]) (by kernel_rfl) (by simp) ?_
      refine AllReadyH.cons rfl (fun K hK => ?_) ?_
      · go_simp
        go_at_call 9
        refine Calls.mono (of8_u _ _ s a n c (Rep.below Ss_6.out (BZ.out))) ?_
        rintro e wB ⟨aB, cB, rfl, hoB, bB⟩
        have BB : Hid (Below w6.heap.size w6 wB) := on BZ.out bB
        have VZB : Hid (Row wB w6.heap.size 26 [.slice none 0 0]) := VZ.out.below bB
        have LB : Hid (rSectors.rd wB (fun b => wZ.heap.size ≤ b) [.slice aB n cB] (s)) := hoB
        clear hoB bB
        go_simp
        refine hK.out _ _ ?_ (fun hHeld => ?_)
        · try dsimp only
          exact SK_6.out BB.out
        clear hK K
        refine wpAnyH_ready (rs := [4]) (by kernel_rfl) (by simp) ?_
        refine AllReadyH.cons rfl (fun K hK => ?_) ?_
        · go_simp
          go_at_call 24
          refine Calls.mono (put8_u _ _ s root x _ _ _ LB.out HR0.out HR1.out) ?_
          rintro e wC ⟨aC, mC, cC, rfl, hoC, bC⟩
          have BC : Hid (Below w6.heap.size w6 wC) := on BB.out bC
          have OC : Hid _ := hoC
          have VC : Hid (Row wC w6.heap.size 26 [.slice none 0 0]) := VZB.out.below bC
          have hlt : Hid (w6.heap.size < wB.heap.size) := VZB.out.lt
          have g0 := VC.out.cell (j := 0) rfl
          have g2 := VC.out.frozen 0
          clear hoC bC
          go_simp
          refine hK.out _ _ ?_ (fun hHeld => ?_)
          · try dsimp only
            exact SK_6.out BC.out
          clear hK K
          refine wpAnyH_takeL (i := 5) (v := ?_) rfl rfl (by kernel_rfl) (by kernel_rfl) (by kernel_rfl) (fun _ _ _ h => h) (Or.inl ⟨by rfl, ?_⟩) (by assumption) ?_
          rotate_left
          · intro w hSw
            try dsimp only at hSw
            go_simp
            all_goals with_reducible rfl
          simp only [List.set_cons_zero, List.set_cons_succ]
          refine wpAnyH_takeL (i := 6) (v := ?_) rfl rfl (by kernel_rfl) (by kernel_rfl) (by kernel_rfl) (fun _ _ _ h => h) (Or.inl ⟨by rfl, ?_⟩) (by assumption) ?_
          rotate_left
          · intro w hSw
            try dsimp only at hSw
            go_simp
            all_goals with_reducible rfl
          simp only [List.set_cons_zero, List.set_cons_succ]
          refine wpAnyH_takeL (i := 7) (v := ?_) rfl rfl (by kernel_rfl) (by kernel_rfl) (by kernel_rfl) (fun _ _ _ h => h) (Or.inl ⟨by rfl, ?_⟩) (by assumption) ?_
          rotate_left
          · intro w hSw
            try dsimp only at hSw
            go_simp
            all_goals with_reducible rfl
          simp only [List.set_cons_zero, List.set_cons_succ]
          refine wpAnyH_takeL (i := 8) (v := ?_) rfl rfl (by kernel_rfl) (by kernel_rfl) (by kernel_rfl) (fun _ _ _ h => h) (Or.inl ⟨by rfl, ?_⟩) (by assumption) ?_
          rotate_left
          · intro w hSw
            try dsimp only at hSw
            go_simp
            all_goals with_reducible rfl
          simp only [List.set_cons_zero, List.set_cons_succ]
          refine wpAnyH_ready (rs := [10]) (by kernel_rfl) (by simp) ?_
          refine AllReadyH.cons rfl (fun K hK => ?_) ?_
          · go_simp
            refine hK.out _ _ ?_ (fun hHeld => ?_)
            · try dsimp only
              exact SK_6.out (BC.out.setCell (p := ⟨w6.heap.size, 0, none⟩) (Nat.le_refl _) _)
            clear hK K
            refine wpAnyH_takeL (i := 11) (v := ?_) rfl rfl (by kernel_rfl) (by kernel_rfl) (by kernel_rfl) (fun _ _ _ h => h) (Or.inl ⟨by rfl, ?_⟩) (by assumption) ?_
            rotate_left
            · intro w hSw
              try dsimp only at hSw
              go_simp
              all_goals with_reducible rfl
            simp only [List.set_cons_zero, List.set_cons_succ]
            refine wpAnyH_takeL (i := 12) (v := ?_) rfl rfl (by kernel_rfl) (by kernel_rfl) (by kernel_rfl) (fun _ _ _ h => h) (Or.inl ⟨by rfl, ?_⟩) (by assumption) ?_
            rotate_left
            · intro w hSw
              try dsimp only at hSw
              go_simp
              all_goals with_reducible rfl
            simp only [List.set_cons_zero, List.set_cons_succ]
            refine wpAnyH_done (by kernel_rfl) ?_ _
            clear hHeld
            go_wp2_with fail
            go_meet
            have K9 : Kept (· ≠ w6.heap.size) wC (wC.setCell ⟨w6.heap.size, 0, none⟩ (.slice aC mC cC)) := (Kept.refl _ wC).setCell (p := ⟨w6.heap.size, 0, none⟩) (fun h => h rfl) _
            exact ⟨w6.heap.size, aC, mC, cC, rfl, rfl, rfl, VC.out.set 0 _, rSectors.weaken (Rep.kept OC.out K9 (fun b hb _ => by have h1 : wB.heap.size ≤ b := hb; have h2 := hlt.out; show b ≠ w6.heap.size; omega)) (fun b hb _ => Nat.le_trans BB.out.size hb), Kept.belowOf BC.out K9 (Nat.le_refl _)⟩
          exact AllReadyH.nil
        exact AllReadyH.nil
      exact AllReadyH.nil
    exact AllReadyH.nil
  case rest =>
    obtain ⟨vbq, aq, nq, cq, rfl, rfl, rfl, Rq_7, Sq_7, bc7⟩ := hcut
    obtain ⟨w7, hw7⟩ : ∃ w7, w7 = wc := ⟨_, rfl⟩
    subst hw7
    clear SK_6
    have Rs_7 : Hid (Row w7 (W.heap.size) 24 [.slice a n c]) := Rs_6.out.below (bc7.out)
    have Rx_7 : Hid (Row w7 (W.heap.size + 1) 29 [.int .u64 (x.1.toNat : Int), .int .u64 (x.2.toNat : Int)]) := Rx_6.out.below (bc7.out)
    have Ss_7 : Hid (rSectors.rd w7 (fun b => b < W.heap.size) [.slice a n c] (s)) := Rep.below Ss_6.out (bc7.out)
    have Fo_7 : Hid (rFrees.rd w7 (fun b => w2.heap.size ≤ b ∧ b < w3.heap.size) [.slice ao n co] (s)) := Rep.below Fo_6.out (bc7.out)
    have Ro_7 : Hid (Row w7 (w3.heap.size) 26 [.slice ao n co]) := Ro_6.out.below (bc7.out)
    have Sp_7 : Hid (rSectors.rd w7 (fun b => w4.heap.size ≤ b) [.slice ap np cp] (Tr.putS x s root)) := Rep.below Sp_6.out (bc7.out)
    have Rp_7 : Hid (Row w7 (w5.heap.size) 26 [.slice ap np cp]) := Rp_6.out.below (bc7.out)
    have B_7 : Hid (Below W.heap.size W w7) := on B_6.out (bc7.out)
    have SZ_7 : Hid (w4.heap.size ≤ w7.heap.size) := Nat.le_trans SZ_6.out (bc7.out).size
    clear Rs_6 Rx_6 Ss_6 Fo_6 Ro_6 Sp_6 Rp_6
    clear bc7
    have qo0 := Ro_7.out.cell (j := 0) rfl
    go_wp2_with (go_at_call 17; refine (num8_u _ _).mono ?_; rintro e w99 ⟨rfl, rfl⟩)
    go_at_call 32
    refine Calls.mono (spoilList_s _ (fun b => w2.heap.size ≤ b ∧ b < w3.heap.size) ao n co HN5.out (octsAll_of Fo_7.out)) ?_
    rintro e wS ⟨rfl, spS⟩
    have SpS : Hid (rSectors.rd wS (fun b => w4.heap.size ≤ b) [.slice ap np cp] (Tr.putS x s root)) := Rep.kept Sp_7.out spS.kept (fun b hb _ h => by have h1 := h.2; have h2 := HOp.out; have h3 : w4.heap.size ≤ b := hb; omega)
    have cp := spS.other _ _ (Rp_7.out.cell (j := 0) rfl) (fun n e => by cases e)
    have SqS : Hid (rSectors.rd wS (fun b => w6.heap.size ≤ b) [.slice aq nq cq] (Tr.putS x s root)) := Rep.kept Sq_7.out spS.kept (fun b hb _ h => by have h1 := h.2; have h2 := HOq.out; have h3 : w6.heap.size ≤ b := hb; omega)
    have cq := spS.other _ _ (Rq_7.out.cell (j := 0) rfl) (fun n e => by cases e)
    have BS : Hid (Below W.heap.size W wS) := Below.trans B_7.out ⟨spS.os, spS.tape, spS.output, by rw [spS.size]; exact Nat.le_refl _, fun b hb => spS.block b (fun h => by have h1 := h.1; have h2 := HAW.out; omega)⟩
    have eE : (Tr.putE x s root == Tr.putE x s root) = true := beq_self_eq_true _
    have eQ : (Tr.putQ x s root == Tr.putQ x s root) = true := beq_self_eq_true _
    have eS : (Tr.putS x s root == Tr.putS x s root) = true := beq_self_eq_true _
    clear spS Sp_7 Sq_7
    go_wp2_with fail
    go_at_call 22
    refine Calls.mono (sameList_r _ _ _ _ _ _ _ _ _ _ _ SpS.out SqS.out) ?_
    rintro e wT ⟨rfl, bT⟩
    rw [eS]
    go_wp2
    go_ret
    exact ⟨rfl, on BS.out bT⟩
set_option maxRecDepth 100000 in
theorem town_lifted (os : Os) (started : os.Started) (H : Type) (enc : TypeId × Value → H) :
    ReturnsInHanded {} Tryz.checked os 8 .any (Rows.treeOwnSpec.pre6 enc Tryz.prog Tryz.f8 Rows.treeOwnRow.domain false) (Rows.treeOwnSpec.post enc Tryz.prog Tryz.f8 false true false false) := by
  refine returnsInHanded_of_change_sized (C := Tryz.checked) own started (by kernel_rfl) Tryz.func8
    (ChangeSpec.witness6 (enc := enc) (C := Tryz.checked) false ⟨#[], #[.agg #[.slice none 0 0], .int .i64 0, .agg #[.int .u64 0, .int .u64 0]], []⟩ 8 (by kernel_rfl) (by kernel_rfl) (by kernel_rfl) (by kernel_rfl)) ?_
  intro W base args ds gs before hval0 hW _ hsz0 _
  have hsz : (DataW.weightsEach Tryz.prog (Tryz.f8.params.toList ++ Rows.treeOwnSpec.plain.varTypes Tryz.prog) (ds ++ gs)).all (· ≤ reachBytes) = true := hsz0
  clear hsz0
  have hval : ∀ (j : Nat) t v, Tryz.f8.params[j]? = some t → args[j]? = some v → Value.okWide Tryz.prog W .any base t v := hval0
  have hW' := hW
  obtain ⟨p, q, hA0, hV, rfl, hfz, hnd⟩ := hW
  have hA : DataW.TrodAll enc Tryz.prog W 0 (fun _ => true) true Tryz.f8.params.toList args.toList ds p := hA0
  rw [Tryz.params8] at hA hval hsz
  obtain ⟨v0, vs0, d0, ds0, p0, q0, hargs, rfl, rfl, h0, r0⟩ := trodAll_cons hA
  obtain ⟨v1, vs1, d1, ds1, p1, q1, rfl, rfl, rfl, h1, r1⟩ := trodAll_cons r0
  obtain ⟨v2, vs2, d2, ds2, p2, q2, rfl, rfl, rfl, h2, r2⟩ := trodAll_cons r1
  obtain ⟨rfl, rfl, rfl⟩ := trodAll_nil r2
  obtain rfl : args = #[v0, v1, v2] := by cases args; simp_all
  obtain ⟨rfl, rfl⟩ := trodVars_none hV
  obtain ⟨c0, rfl, -⟩ := okWide_struct Tryz.underlying24 (hval 0 24 v0 rfl rfl)
  have k0 := h0
  have lt0 : ∀ x ∈ p0, x.block < W.heap.size := by obtain ⟨m, hm⟩ := k0; exact DataW.trod_lt m _ _ _ hm
  obtain ⟨x0, hx0⟩ := opens_pages.arg h0 hsz (j := 0) rfl rfl
  obtain ⟨a1, rfl, rfl, rfl, w1⟩ := open_int Tryz.underlying3 (hval 1 3 v1 rfl rfl) h1
  have i1 := bounds_i64 w1
  obtain ⟨c2, rfl, -⟩ := okWide_struct Tryz.underlying29 (hval 2 29 v2 rfl rfl)
  have k2 := h2
  have lt2 : ∀ x ∈ p2, x.block < W.heap.size := by obtain ⟨m, hm⟩ := k2; exact DataW.trod_lt m _ _ _ hm
  obtain ⟨x2, hx2⟩ := opens_item.arg h2 hsz (j := 2) rfl rfl
  clear hA0 hval0
  refine (town_walk c0.toList x0 a1 c2.toList x2 W hx0 (by omega) (by omega) hx2).mono fun e W' ⟨he, bel⟩ => ?_
  subst he
  exact ⟨_, rfl, _, _, _, [], _, [], hW', trodAll_mk1 (shut_bool Tryz.underlying4 _), (trodAll_cons_mk (Below.trod laidOut (by kernel_rfl) (of_decide_eq_true (by kernel_rfl)) k0 bel lt0) (trodAll_cons_mk (shut_int Tryz.underlying3 w1) (trodAll_cons_mk (Below.trod laidOut (by kernel_rfl) (of_decide_eq_true (by kernel_rfl)) k2 bel lt2) trodAll_mk0))), rfl, bel.frame _, fun h => by cases h⟩
theorem treeOwn_holds : Rows.TreeOwnSaid :=
  OpenClaim.holds_of_wide 8 Tryz.f8 rfl rfl rfl rfl rfl rfl rfl ⟨rfl, rfl, rfl, rfl, rfl⟩ rfl rfl rfl rfl rfl (by kernel_rfl) Tryz.func8 (by kernel_rfl)
    (of_decide_eq_true (by kernel_rfl)) (by unfold Func.isWrapper; first | (rw [if_pos (by decide +kernel)]; kernel_rfl) | (rw [if_neg (by decide +kernel)]; exact ⟨rfl, rfl⟩))
    (fun os started H enc _ => town_lifted os started H enc)
end Go.Proofs.YtgbbkmdfangmmaaGreat
