/-
  Each reference into sectors leads back: that sector of that owner stands there, at whatever maps and sectors. Conditions: none.
-/
import Derived.Test.YtinlgoljaiolnaaNBox
namespace Go.Proofs.Ytinlgoljaiolnaa
open Go.ChangeShapes Go.WideShapes Go.ChangeAt Go.RowKit
set_option linter.unusedVariables false

set_option maxRecDepth 20000 in
set_option maxHeartbeats 8000000 in
theorem lwho_walk (a : Option Addr) (n c : Nat) (M : List Mpr) (cs : List Value) (x : Spn) (W : World) (h0 : rMps.rd W (fun b => b < W.heap.size) [.slice a n c] M) (h1 : rSpn.rd W (fun b => b < W.heap.size) cs x) :
    Calls Try.prog 7 #[.slice a n c, .agg cs.toArray] W fun e W' => e = .returned (.bool true) ∧ Below W.heap.size W W' := by
  have HL : Hid (M.length = n) := (rList_len h0).1
  obtain ⟨rfl, hx2⟩ := rSpn_rd.1 h1
  obtain ⟨w0, hw0, V0, b0, z0⟩ := boxedRow W 24 [.int .i64 x.1, .int .i64 x.2]
  have HM0 : Hid (rMps.rd w0 (fun b => b < W.heap.size) [.slice a n c] M) := Rep.below h0 b0
  have HV0 : Hid (Row w0 W.heap.size 24 [.int .i64 x.1, .int .i64 x.2]) := V0
  have B0 : Hid (Below W.heap.size W w0) := b0
  have HX : Hid (In2 x) := hx2
  rw [show (spn2 x).toArray = #[.int .i64 x.1, .int .i64 x.2] from rfl]
  have HMW : Hid (rMps.rd W (fun b => b < W.heap.size) [.slice a n c] M) := h0
  clear V0 b0 z0 h1 hx2 h0
  go_enter Try.func7, Try.ntmps7
  go_wp2_with fail
  refine (alive9_u _).mono ?_
  rintro e w1 ⟨rfl, b1⟩
  have HM1 : Hid (rMps.rd w1 (fun b => b < W.heap.size) [.slice a n c] M) := Rep.below HM0.out b1
  have HV1 : Hid (Row w1 W.heap.size 24 [.int .i64 x.1, .int .i64 x.2]) := HV0.out.below b1
  have B1 : Hid (Below W.heap.size W w1) := on B0.out b1
  obtain ⟨s0, s1⟩ : w1.cell? ⟨W.heap.size, 0, none⟩ = some (.int .i64 x.1) ∧ w1.cell? ⟨W.heap.size, 1, none⟩ = some (.int .i64 x.2) := HV1.out.two9
  clear b1 HM0 HV0
  go_wp2_with fail
  refine wp_region_held_drew (S := (fun w' : World => w'.cell? ⟨W.heap.size, 0, none⟩ = some (.int .i64 x.1) ∧ w'.cell? ⟨W.heap.size, 1, none⟩ = some (.int .i64 x.2))) (by kernel_rfl) (⟨s0, s1⟩) (fun hHeld => ?_)
  refine wpAnyH_takeL (i := 0) (v := ?_) rfl rfl (by kernel_rfl) (by kernel_rfl) (by kernel_rfl) (fun _ _ _ h => h) (Or.inl ⟨by rfl, ?_⟩) (by assumption) ?_
  rotate_left
  · intro w hSw
    try dsimp only at hSw
    go_simp
    all_goals with_reducible rfl
  simp only [List.set_cons_zero, List.set_cons_succ]
  refine wpAnyH_takeL (i := 2) (v := ?_) rfl rfl (by kernel_rfl) (by kernel_rfl) (by kernel_rfl) (fun _ _ _ h => h) (Or.inl ⟨by rfl, ?_⟩) (by assumption) ?_
  rotate_left
  · intro w hSw
    try dsimp only at hSw
    go_simp
    all_goals with_reducible rfl
  simp only [List.set_cons_zero, List.set_cons_succ]
  refine wpAnyH_ready (rs := [1]) (by kernel_rfl) (by simp) ?_
  refine AllReadyH.cons rfl (fun K hK => ?_) ?_
  · go_simp
    go_at_call 9
    refine Calls.mono (of9_d _ _ (fun b hb => Nat.lt_of_lt_of_le hb B1.out.size) _ _ _ M HM1.out) ?_
    rintro e w2 ⟨a2, c2, rfl, hr2, b2⟩
    have HM2 : Hid (rMps.rd w2 (fun b => w1.heap.size ≤ b) [.slice a2 n c2] M) := hr2
    have HV2 : Hid (Row w2 W.heap.size 24 [.int .i64 x.1, .int .i64 x.2]) := HV1.out.below b2
    have B2 : Hid (Below W.heap.size W w2) := on B1.out b2
    have S2 := HV2.out.two9
    clear hr2 b2
    go_simp
    refine hK.out _ _ ?_ (fun hHeld => ?_)
    · try dsimp only
      first | exact S3 | exact S2
    clear hK K
    refine wpAnyH_ready (rs := [3]) (by kernel_rfl) (by simp) ?_
    refine AllReadyH.cons rfl (fun K hK => ?_) ?_
    · go_simp
      go_at_call 14
      refine Calls.mono (refsWho_u _ _ _ _ _ M HM2.out x HX.out) ?_
      rintro e w3 ⟨v3, rfl, ho3, b3⟩
      obtain ⟨a3, c3, rfl, -, -⟩ := ho3.slice
      have HO3 : Hid (OwnR 63 w3 w2.heap.size _ _) := ho3
      have HV3 : Hid (Row w3 W.heap.size 24 [.int .i64 x.1, .int .i64 x.2]) := HV2.out.below b3
      have B3 : Hid (Below W.heap.size W w3) := on B2.out b3
      have S3 := HV3.out.two9
      clear ho3 b3
      go_simp
      refine hK.out _ _ ?_ (fun hHeld => ?_)
      · try dsimp only
        first | exact S3 | exact S2
      clear hK K
      refine wpAnyH_takeL (i := 4) (v := ?_) rfl rfl (by kernel_rfl) (by kernel_rfl) (by kernel_rfl) (fun _ _ _ h => h) (Or.inl ⟨by rfl, ?_⟩) (by assumption) ?_
      rotate_left
      · intro w hSw
        try dsimp only at hSw
        go_simp
        all_goals with_reducible rfl
      simp only [List.set_cons_zero, List.set_cons_succ]
      refine wpAnyH_takeL (i := 5) (v := ?_) rfl rfl (by kernel_rfl) (by kernel_rfl) (by kernel_rfl) (fun _ _ _ h => h) (Or.inl ⟨by rfl, ?_⟩) (by assumption) ?_
      rotate_left
      · intro w hSw
        try dsimp only at hSw
        go_simp
        all_goals with_reducible rfl
      simp only [List.set_cons_zero, List.set_cons_succ]
      refine wpAnyH_takeL (i := 6) (v := ?_) rfl rfl (by kernel_rfl) (by kernel_rfl) (by kernel_rfl) (fun _ _ _ h => h) (Or.inl ⟨by rfl, ?_⟩) (by assumption) ?_
      rotate_left
      · intro w hSw
        try dsimp only at hSw
        go_simp
        all_goals with_reducible rfl
      simp only [List.set_cons_zero, List.set_cons_succ]
      refine wpAnyH_takeL (i := 7) (v := ?_) rfl rfl (by kernel_rfl) (by kernel_rfl) (by kernel_rfl) (fun _ _ _ h => h) (Or.inl ⟨by rfl, ?_⟩) (by assumption) ?_
      rotate_left
      · intro w hSw
        try dsimp only at hSw
        go_simp
        all_goals with_reducible rfl
      simp only [List.set_cons_zero, List.set_cons_succ]
      refine wpAnyH_takeL (i := 8) (v := ?_) rfl rfl (by kernel_rfl) (by kernel_rfl) (by kernel_rfl) (fun _ _ _ h => h) (Or.inl ⟨by rfl, ?_⟩) (by assumption) ?_
      rotate_left
      · intro w hSw
        try dsimp only at hSw
        go_simp
        all_goals with_reducible rfl
      simp only [List.set_cons_zero, List.set_cons_succ]
      refine wpAnyH_done (by kernel_rfl) ?_ _
      clear s0 s1 S2 S3 HM2 HV2 HM1 HV1
      by_cases hE : Rf.whoE x M = 0
      · obtain ⟨hC, hx0, hx1⟩ := Rf.whoE_zero.1 hE
        have HC : Hid (Rf.checkM M = 0) := hC
        have HLow : Hid (∀ r ∈ Rf.whoR x M, Rf.Low r) := Rf.who_low hC
        have HLead : Hid (∀ r ∈ Rf.whoR x M, (∃ k, ∃ hk : k < M.length, M[k].1 = r.2.2.1 ∧ Ex.at_ M[k].2 r.2.2.2 = r.1) ∧ x.1 ≤ r.1 ∧ r.1 + r.2.1 ≤ x.1 + x.2) := Rf.who_leads hC
        have HAll : Hid (∀ o ∈ M, -1 < o.1 ∧ 0 ≤ o.1 ∧ o.1 ≤ 255 ∧ Ex.Ok o.2) := (Rf.mays_all (Rf.checkM_zero.1 hC).2).1
        have HM3 : Hid (rMps.rd w3 (fun b => b < W.heap.size) [.slice a n c] M) := Rep.below HMW.out B3.out
        have hmw := Rf.who_few (x := x) hC
        rw [Rf.whoL_ok hE] at HO3 ⊢
        rw [hE]
        obtain ⟨m, hm⟩ : ∃ m, m = (Rf.whoR x M).length := ⟨_, rfl⟩
        have HML : Hid ((Rf.whoR x M).length = m) := hm.symm
        rw [← hm] at HO3 hmw ⊢
        have HR3 : Hid (rRfrs.rd w3 (fun b => w2.heap.size ≤ b) [.slice a3 m c3] (Rf.whoR x M)) := HO3.out.rd (by rw [HML.out]; omega)
        have hn9 : n ≤ 9 := by have := (Rf.checkM_zero.1 hC).1; rw [HL.out] at this; exact this
        have HX0 : Hid (x.2 ≤ 9223372036854775807) := by have := HX.out; unfold In2 In64 at this; exact this.2.2
        clear hE hC hm HO3
        go_wp2_with (go_at_call 21; refine (num9_u _ _).mono ?_; rintro e w9 ⟨rfl, rfl⟩)
        go_loopw [7] (fun i wr => ∃ k : Nat, k ≤ m ∧ i = .int .i64 k ∧ Below w3.heap.size w3 wr) (fun i _ => m - (intOf i).toNat)
        case atStart => exact ⟨0, Nat.zero_le _, rfl, Below.refl _ _⟩
        case round =>
          obtain ⟨i, hi, rfl, belo⟩ := hrel
          obtain ⟨wo, hwo⟩ : ∃ wo, wo = wr := ⟨_, rfl⟩
          rw [← hwo] at belo ⊢
          clear hwo
          have BO : Hid (Below W.heap.size W wo) := on B3.out belo
          by_cases him : i < m
          · have hil : i < (Rf.whoR x M).length := by rw [HML.out]; exact him
            have hRw := Rep.below HR3.out belo
            obtain ⟨h, hoff, rfl, -, hhl, hat⟩ := rRfrs_at hRw (by omega)
            obtain ⟨d0, d1, d2, d3, -⟩ := hat i hil
            have hlow := HLow.out _ (List.getElem_mem hil)
            obtain ⟨hlead, hl1, hl2⟩ := HLead.out _ (List.getElem_mem hil)
            have HLd : Hid _ := hlead
            obtain ⟨r, hr⟩ : ∃ r, r = (Rf.whoR x M)[i] := ⟨_, rfl⟩
            rw [← hr] at d0 d1 d2 d3 hlow HLd hl1 hl2
            have HMo : Hid (rMps.rd wo (fun b => b < W.heap.size) [.slice a n c] M) := Rep.below HM3.out belo
            have HVo : Hid (Row wo W.heap.size 24 [.int .i64 x.1, .int .i64 x.2]) := HV3.out.below belo
            have HDo : Hid (h < wo.heap.size ∧ wo.cell? ⟨h, hoff + i * 4, none⟩ = some (.int .i64 r.1) ∧ wo.cell? ⟨h, hoff + i * 4 + 1, none⟩ = some (.int .i64 r.2.1) ∧ wo.cell? ⟨h, hoff + i * 4 + 2, none⟩ = some (.int .i64 r.2.2.1) ∧ wo.cell? ⟨h, hoff + i * 4 + 3, none⟩ = some (.int .i64 r.2.2.2)) := ⟨hhl, d0, d1, d2, d3⟩
            have HLo : Hid (Rf.Low r) := hlow
            unfold Rf.Low at hlow
            obtain ⟨l1, l2, l3, -, -, l4, l5⟩ := hlow
            have himz : (i : Int) < (m : Int) := by omega
            clear hat hr hRw hlead d0 d1 d2 d3 hhl
            go_wp2
            go_loopw [8, 9] (fun s kk wr => ∃ (k : Nat) (b : Bool), k ≤ n ∧ kk = .int .i64 k ∧ s = .bool b ∧ Hid (b = true ↔ ∃ j, ∃ hj : j < M.length, j < k ∧ M[j].1 = r.2.2.1 ∧ Ex.at_ M[j].2 r.2.2.2 = r.1) ∧ Below wo.heap.size wo wr) (fun _ kk _ => n - (intOf kk).toNat)
            case atStart => exact ⟨0, false, Nat.zero_le _, rfl, rfl, ⟨(fun h => by cases h), (fun ⟨j, _, h, _⟩ => by omega)⟩, Below.refl _ _⟩
            case round =>
              obtain ⟨k, b, hk, rfl, rfl, HI, bel⟩ := hrel
              have BR : Hid (Below wo.heap.size wo wr) := bel
              obtain ⟨hhl, d0', d1', d2', d3'⟩ := HDo.out
              have d0 := (bel.cell (p := ⟨h, hoff + i * 4, none⟩) hhl).trans d0'
              have d1 := (bel.cell (p := ⟨h, hoff + i * 4 + 1, none⟩) hhl).trans d1'
              have d2 := (bel.cell (p := ⟨h, hoff + i * 4 + 2, none⟩) hhl).trans d2'
              have d3 := (bel.cell (p := ⟨h, hoff + i * 4 + 3, none⟩) hhl).trans d3'
              clear d0' d1' d2' d3'
              by_cases hkn : k < n
              · have hkM : k < M.length := by rw [HL.out]; exact hkn
                obtain ⟨g, off, rfl, -, hgl', hat⟩ := rMps_at HMo.out (by omega)
                obtain ⟨a1, n1, k1, c0', c1', hrx, hi64⟩ := hat k hkM
                have c0 := (bel.cell (p := ⟨g, off + k * 2, none⟩) hgl').trans c0'
                have c1 := (bel.cell (p := ⟨g, off + k * 2 + 1, none⟩) hgl').trans c1'
                have HOk : Hid (Ex.Ok M[k].2) := (HAll.out _ (List.getElem_mem hkM)).2.2.2
                have HSt : Hid ((∃ j, ∃ hj : j < M.length, j < k + 1 ∧ M[j].1 = r.2.2.1 ∧ Ex.at_ M[j].2 r.2.2.2 = r.1) ↔ (∃ j, ∃ hj : j < M.length, j < k ∧ M[j].1 = r.2.2.1 ∧ Ex.at_ M[j].2 r.2.2.2 = r.1) ∨ (M[k].1 = r.2.2.1 ∧ Ex.at_ M[k].2 r.2.2.2 = r.1)) := by
                  constructor
                  · rintro ⟨j, hj, h, hs⟩
                    by_cases e : j = k
                    · subst e; exact .inr hs
                    · exact .inl ⟨j, hj, by omega, hs⟩
                  · rintro (⟨j, hj, h, hs⟩ | hs)
                    · exact ⟨j, hj, by omega, hs⟩
                    · exact ⟨k, hkM, by omega, hs⟩
                have hgl : g < wr.heap.size := Nat.lt_of_lt_of_le hgl' bel.size
                have hhw : h < wr.heap.size := Nat.lt_of_lt_of_le hhl bel.size
                have HXd : Hid (rExts.rd wr.drew (fun b => b < W.heap.size) [.slice a1 n1 k1] M[k].2) := rExts.keep (Rep.below hrx bel) (fun _ _ _ => rfl)
                have hkz : (k : Int) < (n : Int) := by omega
                generalize hGO : M[k].1 = O at *
                generalize hGX : M[k].2 = X at *
                clear hGO hGX hat hrx hi64 bel c0' c1' hgl'
                cases b with
                | true =>
                  have HN2 : Hid (∃ j, ∃ hj : j < M.length, j < k + 1 ∧ M[j].1 = r.2.2.1 ∧ Ex.at_ M[j].2 r.2.2.2 = r.1) := HSt.out.2 (.inl (HI.out.1 rfl))
                  go_wp2_with fail
                  go_quiet (fail)
                  go_wp2
                  go_roundw
                  case rel => exact ⟨k + 1, true, by omega, by go_num, rfl, ⟨fun _ => HN2.out, fun _ => rfl⟩, same_drewN BR.out _⟩
                  case measure => simp [intOf]; omega
                | false =>
                  have HF : Hid (¬ ∃ j, ∃ hj : j < M.length, j < k ∧ M[j].1 = r.2.2.1 ∧ Ex.at_ M[j].2 r.2.2.2 = r.1) := fun h => by have := HI.out.2 h; cases this
                  by_cases e1 : O = r.2.2.1
                  · have e1' : decide (O = r.2.2.1) = true := decide_eq_true e1
                    have e1b : (O == r.2.2.1) = true := beq_iff_eq.2 e1
                    go_wp2_with fail
                    refine wp_region_held_drew (S := (fun w' : World => (w'.cell? ⟨g, off + k * 2, none⟩ = some (.int .i64 O) ∧ w'.cell? ⟨g, off + k * 2 + 1, none⟩ = some (.slice a1 n1 k1)) ∧ w'.cell? ⟨h, hoff + i * 4, none⟩ = some (.int .i64 r.1) ∧ w'.cell? ⟨h, hoff + i * 4 + 1, none⟩ = some (.int .i64 r.2.1) ∧ w'.cell? ⟨h, hoff + i * 4 + 2, none⟩ = some (.int .i64 r.2.2.1) ∧ w'.cell? ⟨h, hoff + i * 4 + 3, none⟩ = some (.int .i64 r.2.2.2))) (by kernel_rfl) (⟨⟨c0, c1⟩, d0, d1, d2, d3⟩) (fun hHeld => ?_)
                    refine wpAnyH_takeL (i := 0) (v := ?_) rfl rfl (by kernel_rfl) (by kernel_rfl) (by kernel_rfl) (fun _ _ _ h => h) (Or.inl ⟨by rfl, ?_⟩) (by assumption) ?_
                    rotate_left
                    · intro w hSw
                      try dsimp only at hSw
                      go_simp
                      all_goals with_reducible rfl
                    simp only [List.set_cons_zero, List.set_cons_succ]
                    refine wpAnyH_takeL (i := 1) (v := ?_) rfl rfl (by kernel_rfl) (by kernel_rfl) (by kernel_rfl) (fun _ _ _ h => h) (Or.inl ⟨by rfl, ?_⟩) (by assumption) ?_
                    rotate_left
                    · intro w hSw
                      try dsimp only at hSw
                      go_simp
                      all_goals with_reducible rfl
                    simp only [List.set_cons_zero, List.set_cons_succ]
                    refine wpAnyH_takeL (i := 2) (v := ?_) rfl rfl (by kernel_rfl) (by kernel_rfl) (by kernel_rfl) (fun _ _ _ h => h) (Or.inl ⟨by rfl, ?_⟩) (by assumption) ?_
                    rotate_left
                    · intro w hSw
                      try dsimp only at hSw
                      go_simp
                      all_goals with_reducible rfl
                    simp only [List.set_cons_zero, List.set_cons_succ]
                    refine wpAnyH_takeL (i := 3) (v := ?_) rfl rfl (by kernel_rfl) (by kernel_rfl) (by kernel_rfl) (fun _ _ _ h => h) (Or.inl ⟨by rfl, ?_⟩) (by assumption) ?_
                    rotate_left
                    · intro w hSw
                      try dsimp only at hSw
                      go_simp
                      all_goals with_reducible rfl
                    simp only [List.set_cons_zero, List.set_cons_succ]
                    refine wpAnyH_takeL (i := 4) (v := ?_) rfl rfl (by kernel_rfl) (by kernel_rfl) (by kernel_rfl) (fun _ _ _ h => h) (Or.inl ⟨by rfl, ?_⟩) (by assumption) ?_
                    rotate_left
                    · intro w hSw
                      try dsimp only at hSw
                      go_simp
                      all_goals with_reducible rfl
                    simp only [List.set_cons_zero, List.set_cons_succ]
                    refine wpAnyH_takeL (i := 5) (v := ?_) rfl rfl (by kernel_rfl) (by kernel_rfl) (by kernel_rfl) (fun _ _ _ h => h) (Or.inl ⟨by rfl, ?_⟩) (by assumption) ?_
                    rotate_left
                    · intro w hSw
                      try dsimp only at hSw
                      go_simp
                      all_goals with_reducible rfl
                    simp only [List.set_cons_zero, List.set_cons_succ]
                    refine wpAnyH_takeL (i := 6) (v := ?_) rfl rfl (by kernel_rfl) (by kernel_rfl) (by kernel_rfl) (fun _ _ _ h => h) (Or.inl ⟨by rfl, ?_⟩) (by assumption) ?_
                    rotate_left
                    · intro w hSw
                      try dsimp only at hSw
                      go_simp
                      all_goals with_reducible rfl
                    simp only [List.set_cons_zero, List.set_cons_succ]
                    refine wpAnyH_takeL (i := 7) (v := ?_) rfl rfl (by kernel_rfl) (by kernel_rfl) (by kernel_rfl) (fun _ _ _ h => h) (Or.inl ⟨by rfl, ?_⟩) (by assumption) ?_
                    rotate_left
                    · intro w hSw
                      try dsimp only at hSw
                      go_simp
                      all_goals with_reducible rfl
                    simp only [List.set_cons_zero, List.set_cons_succ]
                    refine wpAnyH_takeL (i := 8) (v := ?_) rfl rfl (by kernel_rfl) (by kernel_rfl) (by kernel_rfl) (fun _ _ _ h => h) (Or.inl ⟨by rfl, ?_⟩) (by assumption) ?_
                    rotate_left
                    · intro w hSw
                      try dsimp only at hSw
                      go_simp
                      all_goals with_reducible rfl
                    simp only [List.set_cons_zero, List.set_cons_succ]
                    refine wpAnyH_takeL (i := 9) (v := ?_) rfl rfl (by kernel_rfl) (by kernel_rfl) (by kernel_rfl) (fun _ _ _ h => h) (Or.inl ⟨by rfl, ?_⟩) (by assumption) ?_
                    rotate_left
                    · intro w hSw
                      try dsimp only at hSw
                      go_simp
                      all_goals with_reducible rfl
                    simp only [List.set_cons_zero, List.set_cons_succ]
                    refine wpAnyH_takeL (i := 10) (v := ?_) rfl rfl (by kernel_rfl) (by kernel_rfl) (by kernel_rfl) (fun _ _ _ h => h) (Or.inl ⟨by rfl, ?_⟩) (by assumption) ?_
                    rotate_left
                    · intro w hSw
                      try dsimp only at hSw
                      go_simp
                      all_goals with_reducible rfl
                    simp only [List.set_cons_zero, List.set_cons_succ]
                    refine wpAnyH_takeL (i := 11) (v := ?_) rfl rfl (by kernel_rfl) (by kernel_rfl) (by kernel_rfl) (fun _ _ _ h => h) (Or.inl ⟨by rfl, ?_⟩) (by assumption) ?_
                    rotate_left
                    · intro w hSw
                      try dsimp only at hSw
                      go_simp
                      all_goals with_reducible rfl
                    simp only [List.set_cons_zero, List.set_cons_succ]
                    refine wpAnyH_takeL (i := 12) (v := ?_) rfl rfl (by kernel_rfl) (by kernel_rfl) (by kernel_rfl) (fun _ _ _ h => h) (Or.inl ⟨by rfl, ?_⟩) (by assumption) ?_
                    rotate_left
                    · intro w hSw
                      try dsimp only at hSw
                      go_simp
                      all_goals with_reducible rfl
                    simp only [List.set_cons_zero, List.set_cons_succ]
                    refine wpAnyH_takeL (i := 13) (v := ?_) rfl rfl (by kernel_rfl) (by kernel_rfl) (by kernel_rfl) (fun _ _ _ h => h) (Or.inl ⟨by rfl, ?_⟩) (by assumption) ?_
                    rotate_left
                    · intro w hSw
                      try dsimp only at hSw
                      go_simp
                      all_goals with_reducible rfl
                    simp only [List.set_cons_zero, List.set_cons_succ]
                    refine wpAnyH_takeL (i := 14) (v := ?_) rfl rfl (by kernel_rfl) (by kernel_rfl) (by kernel_rfl) (fun _ _ _ h => h) (Or.inl ⟨by rfl, ?_⟩) (by assumption) ?_
                    rotate_left
                    · intro w hSw
                      try dsimp only at hSw
                      go_simp
                      all_goals with_reducible rfl
                    simp only [List.set_cons_zero, List.set_cons_succ]
                    refine wpAnyH_takeL (i := 15) (v := ?_) rfl rfl (by kernel_rfl) (by kernel_rfl) (by kernel_rfl) (fun _ _ _ h => h) (Or.inl ⟨by rfl, ?_⟩) (by assumption) ?_
                    rotate_left
                    · intro w hSw
                      try dsimp only at hSw
                      go_simp
                      all_goals with_reducible rfl
                    simp only [List.set_cons_zero, List.set_cons_succ]
                    refine wpAnyH_takeL (i := 16) (v := ?_) rfl rfl (by kernel_rfl) (by kernel_rfl) (by kernel_rfl) (fun _ _ _ h => h) (Or.inl ⟨by rfl, ?_⟩) (by assumption) ?_
                    rotate_left
                    · intro w hSw
                      try dsimp only at hSw
                      go_simp
                      all_goals with_reducible rfl
                    simp only [List.set_cons_zero, List.set_cons_succ]
                    refine wpAnyH_takeL (i := 17) (v := ?_) rfl rfl (by kernel_rfl) (by kernel_rfl) (by kernel_rfl) (fun _ _ _ h => h) (Or.inl ⟨by rfl, ?_⟩) (by assumption) ?_
                    rotate_left
                    · intro w hSw
                      try dsimp only at hSw
                      go_simp
                      all_goals with_reducible rfl
                    simp only [List.set_cons_zero, List.set_cons_succ]
                    refine wpAnyH_takeL (i := 18) (v := ?_) rfl rfl (by kernel_rfl) (by kernel_rfl) (by kernel_rfl) (fun _ _ _ h => h) (Or.inl ⟨by rfl, ?_⟩) (by assumption) ?_
                    rotate_left
                    · intro w hSw
                      try dsimp only at hSw
                      go_simp
                      all_goals with_reducible rfl
                    simp only [List.set_cons_zero, List.set_cons_succ]
                    refine wpAnyH_takeL (i := 19) (v := ?_) rfl rfl (by kernel_rfl) (by kernel_rfl) (by kernel_rfl) (fun _ _ _ h => h) (Or.inl ⟨by rfl, ?_⟩) (by assumption) ?_
                    rotate_left
                    · intro w hSw
                      try dsimp only at hSw
                      go_simp
                      all_goals with_reducible rfl
                    simp only [List.set_cons_zero, List.set_cons_succ]
                    refine wpAnyH_takeL (i := 20) (v := ?_) rfl rfl (by kernel_rfl) (by kernel_rfl) (by kernel_rfl) (fun _ _ _ h => h) (Or.inl ⟨by rfl, ?_⟩) (by assumption) ?_
                    rotate_left
                    · intro w hSw
                      try dsimp only at hSw
                      go_simp
                      all_goals with_reducible rfl
                    simp only [List.set_cons_zero, List.set_cons_succ]
                    refine wpAnyH_takeL (i := 21) (v := ?_) rfl rfl (by kernel_rfl) (by kernel_rfl) (by kernel_rfl) (fun _ _ _ h => h) (Or.inl ⟨by rfl, ?_⟩) (by assumption) ?_
                    rotate_left
                    · intro w hSw
                      try dsimp only at hSw
                      go_simp
                      all_goals with_reducible rfl
                    simp only [List.set_cons_zero, List.set_cons_succ]
                    refine wpAnyH_takeL (i := 22) (v := ?_) rfl rfl (by kernel_rfl) (by kernel_rfl) (by kernel_rfl) (fun _ _ _ h => h) (Or.inl ⟨by rfl, ?_⟩) (by assumption) ?_
                    rotate_left
                    · intro w hSw
                      try dsimp only at hSw
                      go_simp
                      all_goals with_reducible rfl
                    simp only [List.set_cons_zero, List.set_cons_succ]
                    refine wpAnyH_takeL (i := 23) (v := ?_) rfl rfl (by kernel_rfl) (by kernel_rfl) (by kernel_rfl) (fun _ _ _ h => h) (Or.inl ⟨by rfl, ?_⟩) (by assumption) ?_
                    rotate_left
                    · intro w hSw
                      try dsimp only at hSw
                      go_simp
                      all_goals with_reducible rfl
                    simp only [List.set_cons_zero, List.set_cons_succ]
                    refine wpAnyH_takeL (i := 25) (v := ?_) rfl rfl (by kernel_rfl) (by kernel_rfl) (by kernel_rfl) (fun _ _ _ h => h) (Or.inl ⟨by rfl, ?_⟩) (by assumption) ?_
                    rotate_left
                    · intro w hSw
                      try dsimp only at hSw
                      go_simp
                      all_goals with_reducible rfl
                    simp only [List.set_cons_zero, List.set_cons_succ]
                    refine wpAnyH_takeL (i := 26) (v := ?_) rfl rfl (by kernel_rfl) (by kernel_rfl) (by kernel_rfl) (fun _ _ _ h => h) (Or.inl ⟨by rfl, ?_⟩) (by assumption) ?_
                    rotate_left
                    · intro w hSw
                      try dsimp only at hSw
                      go_simp
                      all_goals with_reducible rfl
                    simp only [List.set_cons_zero, List.set_cons_succ]
                    refine wpAnyH_takeL (i := 27) (v := ?_) rfl rfl (by kernel_rfl) (by kernel_rfl) (by kernel_rfl) (fun _ _ _ h => h) (Or.inl ⟨by rfl, ?_⟩) (by assumption) ?_
                    rotate_left
                    · intro w hSw
                      try dsimp only at hSw
                      go_simp
                      all_goals with_reducible rfl
                    simp only [List.set_cons_zero, List.set_cons_succ]
                    refine wpAnyH_takeL (i := 28) (v := ?_) rfl rfl (by kernel_rfl) (by kernel_rfl) (by kernel_rfl) (fun _ _ _ h => h) (Or.inl ⟨by rfl, ?_⟩) (by assumption) ?_
                    rotate_left
                    · intro w hSw
                      try dsimp only at hSw
                      go_simp
                      all_goals with_reducible rfl
                    simp only [List.set_cons_zero, List.set_cons_succ]
                    refine wpAnyH_takeL (i := 29) (v := ?_) rfl rfl (by kernel_rfl) (by kernel_rfl) (by kernel_rfl) (fun _ _ _ h => h) (Or.inl ⟨by rfl, ?_⟩) (by assumption) ?_
                    rotate_left
                    · intro w hSw
                      try dsimp only at hSw
                      go_simp
                      all_goals with_reducible rfl
                    simp only [List.set_cons_zero, List.set_cons_succ]
                    refine wpAnyH_ready (rs := [24]) (by kernel_rfl) (by simp) ?_
                    refine AllReadyH.cons rfl (fun K hK => ?_) ?_
                    · go_simp
                      go_at_call 29
                      refine Calls.mono (refAt_u _ _ _ _ _ X HXd.out HOk.out.2.1 r.2.2.2 (by omega) (by omega)) ?_
                      rintro e w5 ⟨rfl, bd5⟩
                      have b5 : Below wr.heap.size wr w5 := below_drew_pre bd5
                      have S1 := And.intro (And.intro ((b5.cell (p := ⟨g, off + k * 2, none⟩) hgl).trans c0) ((b5.cell (p := ⟨g, off + k * 2 + 1, none⟩) hgl).trans c1)) (And.intro ((b5.cell (p := ⟨h, hoff + i * 4, none⟩) hhw).trans d0) (And.intro ((b5.cell (p := ⟨h, hoff + i * 4 + 1, none⟩) hhw).trans d1) (And.intro ((b5.cell (p := ⟨h, hoff + i * 4 + 2, none⟩) hhw).trans d2) ((b5.cell (p := ⟨h, hoff + i * 4 + 3, none⟩) hhw).trans d3))))
                      have B5 : Hid (Below wo.heap.size wo w5) := on BR.out b5
                      clear bd5 b5
                      go_simp
                      refine hK.out _ _ ?_ (fun hHeld => ?_)
                      · try dsimp only
                        exact S1
                      clear hK K
                      refine wpAnyH_takeL (i := 30) (v := ?_) rfl rfl (by kernel_rfl) (by kernel_rfl) (by kernel_rfl) (fun _ _ _ h => h) (Or.inl ⟨by rfl, ?_⟩) (by assumption) ?_
                      rotate_left
                      · intro w hSw
                        try dsimp only at hSw
                        go_simp
                        all_goals with_reducible rfl
                      simp only [List.set_cons_zero, List.set_cons_succ]
                      refine wpAnyH_takeL (i := 31) (v := ?_) rfl rfl (by kernel_rfl) (by kernel_rfl) (by kernel_rfl) (fun _ _ _ h => h) (Or.inl ⟨by rfl, ?_⟩) (by assumption) ?_
                      rotate_left
                      · intro w hSw
                        try dsimp only at hSw
                        go_simp
                        all_goals with_reducible rfl
                      simp only [List.set_cons_zero, List.set_cons_succ]
                      refine wpAnyH_takeL (i := 32) (v := ?_) rfl rfl (by kernel_rfl) (by kernel_rfl) (by kernel_rfl) (fun _ _ _ h => h) (Or.inl ⟨by rfl, ?_⟩) (by assumption) ?_
                      rotate_left
                      · intro w hSw
                        try dsimp only at hSw
                        go_simp
                        all_goals with_reducible rfl
                      simp only [List.set_cons_zero, List.set_cons_succ]
                      refine wpAnyH_takeL (i := 33) (v := ?_) rfl rfl (by kernel_rfl) (by kernel_rfl) (by kernel_rfl) (fun _ _ _ h => h) (Or.inl ⟨by rfl, ?_⟩) (by assumption) ?_
                      rotate_left
                      · intro w hSw
                        try dsimp only at hSw
                        go_simp
                        all_goals with_reducible rfl
                      simp only [List.set_cons_zero, List.set_cons_succ]
                      refine wpAnyH_done (by kernel_rfl) ?_ _
                      by_cases e2 : Ex.at_ X r.2.2.2 = r.1
                      · have e2b : (Ex.at_ X r.2.2.2 == r.1) = true := beq_iff_eq.2 e2
                        have HN2 : Hid (∃ j, ∃ hj : j < M.length, j < k + 1 ∧ M[j].1 = r.2.2.1 ∧ Ex.at_ M[j].2 r.2.2.2 = r.1) := HSt.out.2 (.inr ⟨e1, e2⟩)
                        rw [e2]
                        go_wp2
                        go_roundw
                        case rel => exact ⟨k + 1, true, by omega, by go_num, by simp, ⟨fun _ => HN2.out, fun _ => rfl⟩, B5.out⟩
                        case measure => simp [intOf]; omega
                      · have e2b : (Ex.at_ X r.2.2.2 == r.1) = false := beq_eq_false_iff_ne.2 e2
                        have HN2 : Hid (¬ (∃ j, ∃ hj : j < M.length, j < k + 1 ∧ M[j].1 = r.2.2.1 ∧ Ex.at_ M[j].2 r.2.2.2 = r.1)) := fun h => by
                          rcases HSt.out.1 h with h | h
                          · exact absurd h HF.out
                          · exact absurd h.2 e2
                        rw [e2b]
                        go_wp2
                        go_roundw
                        case rel => exact ⟨k + 1, false, by omega, by go_num, by simp, ⟨(fun h => by cases h), fun h => absurd h HN2.out⟩, B5.out⟩
                        case measure => simp [intOf]; omega
                    exact AllReadyH.nil
                  · have e1' : decide (O = r.2.2.1) = false := decide_eq_false e1
                    have e1b : (O == r.2.2.1) = false := beq_eq_false_iff_ne.2 e1
                    have HN2 : Hid (¬ (∃ j, ∃ hj : j < M.length, j < k + 1 ∧ M[j].1 = r.2.2.1 ∧ Ex.at_ M[j].2 r.2.2.2 = r.1)) := fun h => by
                      rcases HSt.out.1 h with h | h
                      · exact absurd h HF.out
                      · exact absurd h.1 e1
                    go_wp2_with fail
                    go_quiet (fail)
                    go_wp2
                    go_roundw
                    case rel => exact ⟨k + 1, false, by omega, by go_num, rfl, ⟨(fun h => by cases h), fun h => absurd h HN2.out⟩, same_drewN BR.out _⟩
                    case measure => simp [intOf]; omega
              · obtain rfl : n = k := by omega
                obtain rfl : b = true := HI.out.2 (by
                  obtain ⟨j, hj, h⟩ := HLd.out
                  exact ⟨j, hj, by rw [← HL.out]; exact hj, h⟩)
                obtain ⟨x0, x1⟩ := (HVo.out.below BR.out).two9
                have f1 : IntKind.i64.wrap (r.1 - x.1) = r.1 - x.1 := by rw [IntKind.wrap_i64]; omega
                have f2 : IntKind.i64.wrap (x.2 - r.2.1) = x.2 - r.2.1 := by rw [IntKind.wrap_i64]; have := HX0.out; omega
                have g1 : decide (r.2.1 < 1) = false := decide_eq_false (by omega)
                have g2 : decide (r.1 < x.1) = false := decide_eq_false (by omega)
                have g3 : decide (x.2 < r.2.1) = false := decide_eq_false (by omega)
                have g4 : decide (x.2 - r.2.1 < r.1 - x.1) = false := decide_eq_false (by omega)
                have BF : Hid (Below w3.heap.size w3 wr) := on belo BR.out
                clear bel
                go_wp2_with fail
                go_quiet (fail)
                go_wp2
                go_roundw
                case rel => exact ⟨i + 1, by omega, by go_num, same_drewN BF.out _⟩
                case measure => simp [intOf]; omega
          · obtain rfl : m = i := by omega
            clear belo
            go_wp2
            go_ret
            exact ⟨rfl, BO.out⟩
      · rw [Rf.whoL_no hE]
        obtain ⟨E, hEE⟩ : ∃ E, Rf.whoE x M = E := ⟨_, rfl⟩
        rw [hEE] at hE ⊢
        have hE0 : (E == 0) = false := beq_eq_false_iff_ne.2 hE
        clear hEE HO3
        go_wp2_with (go_at_call 21; refine (num9_u _ _).mono ?_; rintro e w9 ⟨rfl, rfl⟩)
        go_ret
        exact ⟨rfl, B3.out⟩
    exact AllReadyH.nil
  exact AllReadyH.nil

set_option maxRecDepth 100000 in
theorem lwho_lifted (os : Os) (started : os.Started) (H : Type) (enc : TypeId × Value → H) :
    ReturnsInHanded {} Try.checked os 7 .any (Rows.refsWhoSpec.pre6 enc Try.prog Try.f7 Rows.refsWhoRow.domain false) (Rows.refsWhoSpec.post enc Try.prog Try.f7 false true false false) := by
  refine returnsInHanded_of_change_sized (C := Try.checked) own started (by kernel_rfl) Try.func7
    (ChangeSpec.witness6 (enc := enc) (C := Try.checked) false ⟨#[], #[.slice none 0 0, .agg #[.int .i64 0, .int .i64 0]], []⟩ 8 (by kernel_rfl) (by kernel_rfl) (by kernel_rfl) (by kernel_rfl)) ?_
  intro W base args ds gs before hval0 hW _ hsz0 _
  have hsz : (DataW.weightsEach Try.prog (Try.f7.params.toList ++ Rows.refsWhoSpec.plain.varTypes Try.prog) (ds ++ gs)).all (· ≤ reachBytes) = true := hsz0
  clear hsz0
  have hval : ∀ (j : Nat) t v, Try.f7.params[j]? = some t → args[j]? = some v → Value.okWide Try.prog W .any base t v := hval0
  have hW' := hW
  obtain ⟨p, q, hA0, hV, rfl, hfz, hnd⟩ := hW
  have hA : DataW.TrodAll enc Try.prog W 0 (fun _ => true) true Try.f7.params.toList args.toList ds p := hA0
  rw [Try.params7] at hA hval hsz
  obtain ⟨v0, vs0, d0, ds0, p0, q0, hargs, rfl, rfl, h0, r0⟩ := trodAll_cons hA
  obtain ⟨v1, vs1, d1, ds1, p1, q1, rfl, rfl, rfl, h1, r1⟩ := trodAll_cons r0
  obtain ⟨rfl, rfl, rfl⟩ := trodAll_nil r1
  obtain rfl : args = #[v0, v1] := by cases args; simp_all
  obtain ⟨rfl, rfl⟩ := trodVars_none hV
  obtain ⟨a0, len0, cap0, rfl⟩ := okWide_slice Try.underlying22 (hval 0 22 v0 rfl rfl)
  have k0 := h0
  have lt0 : ∀ x ∈ p0, x.block < W.heap.size := by obtain ⟨m, hm⟩ := k0; exact DataW.trod_lt m _ _ _ hm
  obtain ⟨x0, hx0⟩ := opens_maps9.arg h0 hsz (j := 0) rfl rfl
  obtain ⟨c1, rfl, -⟩ := okWide_struct Try.underlying24 (hval 1 24 v1 rfl rfl)
  have k1 := h1
  have lt1 : ∀ x ∈ p1, x.block < W.heap.size := by obtain ⟨m, hm⟩ := k1; exact DataW.trod_lt m _ _ _ hm
  obtain ⟨x1, hx1⟩ := opens_span.arg h1 hsz (j := 1) rfl rfl
  clear hA0 hval0
  refine (lwho_walk a0 len0 cap0 x0 c1.toList x1 W hx0 hx1).mono fun e W' ⟨he, bel⟩ => ?_
  subst he
  exact ⟨_, rfl, _, _, _, [], _, [], hW', trodAll_mk1 (shut_bool Try.underlying4 _), (trodAll_cons_mk (Below.trod laidOut (by kernel_rfl) (of_decide_eq_true (by kernel_rfl)) k0 bel lt0) (trodAll_cons_mk (Below.trod laidOut (by kernel_rfl) (of_decide_eq_true (by kernel_rfl)) k1 bel lt1) trodAll_mk0)), rfl, bel.frame _, fun h => by cases h⟩

theorem refsWho_holds : Rows.RefsWhoSaid :=
  OpenClaim.holds_of_wide 7 Try.f7 rfl rfl rfl rfl rfl rfl rfl ⟨rfl, rfl, rfl, rfl, rfl⟩ rfl rfl rfl rfl rfl (by kernel_rfl) Try.func7 (by kernel_rfl)
    (of_decide_eq_true (by kernel_rfl)) (by unfold Func.isWrapper; first | (rw [if_pos (by decide +kernel)]; kernel_rfl) | (rw [if_neg (by decide +kernel)]; exact ⟨rfl, rfl⟩))
    (fun os started H enc _ => lwho_lifted os started H enc)

end Go.Proofs.Ytinlgoljaiolnaa
