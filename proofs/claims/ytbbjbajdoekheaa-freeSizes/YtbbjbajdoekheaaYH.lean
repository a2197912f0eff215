/-
  The landed free: Highest and Room, at whatever state. Conditions: those that each contract names.
-/
import Derived.Test.YtbbjbajdoekheaaYC
import Derived.Test.YtbbjbajdoekheaaFTot
namespace Go.Proofs.Ytbbjbajdoekheaa
open Go.RowKit
set_option linter.unusedVariables false

theorem results_three {Pr : Program} {fn : Func} {p q r : Tmp} (h : fn.results = #[.tmp p, .tmp q, .tmp r]) (tmps : Array Value) (w : World) : (results fn tmps).run Pr w = .ok (.tuple #[tmps.getD p undef, tmps.getD q undef, tmps.getD r undef]) w := by
  simp [results, h]

set_option maxRecDepth 20000 in
set_option maxHeartbeats 4000000 in
theorem freeHighest_u (w : World) (P : Nat → Prop) (z : Int) (a : Option Addr) (n c : Nat) (l : List Spn) (hL : rSpns.rd w P [.slice a n c] l) :
    Calls Try.prog 24 #[.agg #[.int .i64 z, .slice a n c]] w fun e w' => e = .returned (.tuple #[.int .i64 (Fr.highA z l), .int .i64 (Fr.checkE z l)]) ∧ Below w.heap.size w w' := by
  have HR : Hid _ := hL
  have HN : Hid (l.length = n) := (rList_len hL).1
  obtain ⟨w0, hw0, V0, b0, z0⟩ := boxedRow w 27 [.int .i64 z, .slice a n c]
  have HV0 : Hid (Row w0 w.heap.size 27 [.int .i64 z, .slice a n c]) := V0
  have B0 : Hid (Below w.heap.size w w0) := b0
  obtain ⟨d0, d1⟩ := HV0.out.two
  clear hL V0 b0 z0
  cases ho : Fr.okB z l
  · have HC : Hid (Fr.checkE z l = 9) := Fr.checkE_no ho
    have HE : Hid (Fr.highA z l = 0) := by unfold Hid Fr.highA; rw [ho]; rfl
    clear ho
    go_enter Try.func24, Try.ntmps24
    go_wp2_with fail
    refine (freeCheck_u _ P z a n c l (Rep.below HR.out B0.out) _ HC.out).mono ?_
    rintro e w2 ⟨rfl, b2⟩
    go_wp2
    go_ret2
    exact ⟨by rw [HE.out, HC.out]; rfl, on B0.out b2⟩
  have HC : Hid (Fr.checkE z l = 0) := Fr.checkE_ok ho
  have HO : Hid (Fr.Ok z l) := Fr.ok_iff.1 ho
  have HH : Hid (Fr.highA z l = Fr.high z l) := by unfold Hid Fr.highA; rw [ho]; rfl
  have hn : n ≤ 1024 := by have h := HO.out.len; rw [HN.out] at h; exact h
  clear ho
  rcases List.eq_nil_or_concat l with e | ⟨m, y, e⟩
  · subst e
    obtain rfl : n = 0 := by have h := HN.out; simp at h; omega
    have HE : Hid (Fr.highA z [] = z) := HH.out
    go_enter Try.func24, Try.ntmps24
    go_wp2_with fail
    refine (freeCheck_u _ P z a 0 c [] (Rep.below HR.out B0.out) _ HC.out).mono ?_
    rintro e w2 ⟨rfl, b2⟩
    have B2 : Hid (Below w.heap.size w w2) := on B0.out b2
    obtain ⟨f0, f1⟩ := (HV0.out.below b2).two
    clear b2 d0 d1
    go_wp2_with fail
    go_quiet (fail)
    go_wp2
    go_ret2
    exact ⟨by rw [HE.out, HC.out]; rfl, same_drewN B2.out nq⟩
  · rw [List.concat_eq_append] at e
    subst e
    obtain rfl : n = m.length + 1 := by have h := HN.out; simp at h; omega
    have hy := HO.out.mid y (by simp)
    unfold Fr.Mid at hy
    obtain ⟨m1, m2, m3⟩ := hy
    have HXE : Hid (In64 (y.1 + y.2)) := by unfold Hid In64; omega
    have ewy : IntKind.i64.wrap (y.1 + y.2) = y.1 + y.2 := by rw [IntKind.wrap_i64]; omega
    have hk1 : (m.length : Int) < ((m.length + 1 : Nat) : Int) := by omega
    have hk2 : (m.length : Int) < (m.length : Int) + 1 := by omega
    have hk3 : (0 : Int) ≤ (m.length : Int) := by omega
    have hm0 : decide ((m.length : Int) < 0) = false := decide_eq_false (by omega)
    obtain ⟨g, off, rfl, -, hgl, hat⟩ := rSpns_at (Rep.below HR.out B0.out) (by omega)
    have hml : m.length < (m ++ [y]).length := by simp
    obtain ⟨c0, c1, -⟩ := hat m.length hml
    rw [show (m ++ [y])[m.length] = y by simp] at c0 c1
    have SK : Hid (∀ {w' : World}, Below w0.heap.size w0 w' → w'.cell? ⟨w.heap.size, 0, none⟩ = some (.int .i64 z) ∧ w'.cell? ⟨w.heap.size, 1, none⟩ = some (.slice (some ⟨g, off, none⟩) (m.length + 1) c) ∧ w'.cell? ⟨g, off + m.length * 2, none⟩ = some (.int .i64 y.1) ∧ w'.cell? ⟨g, off + m.length * 2 + 1, none⟩ = some (.int .i64 y.2)) :=
      fun b => ⟨(HV0.out.below b).two.1, (HV0.out.below b).two.2, (b.cell (p := ⟨g, off + m.length * 2, none⟩) hgl).trans c0, (b.cell (p := ⟨g, off + m.length * 2 + 1, none⟩) hgl).trans c1⟩
    clear hat hml c0 c1 hgl
    by_cases hz : y.1 + y.2 = z
    · have HE : Hid (Fr.highA z (m ++ [y]) = y.1) := by unfold Hid; rw [HH.out, Fr.high_last, if_pos hz]
      have hb : (y.1 + y.2 == z) = true := beq_iff_eq.2 hz
      clear hz
      go_enter Try.func24, Try.ntmps24
      go_wp2_with fail
      refine (freeCheck_u _ P z _ _ c _ (Rep.below HR.out B0.out) _ HC.out).mono ?_
      rintro e w2 ⟨rfl, b2⟩
      have B2 : Hid (Below w0.heap.size w0 w2) := b2
      obtain ⟨f0, f1, f2, f3⟩ := SK.out b2
      clear b2 d0 d1
      go_wp2_with fail
      refine wp_region_held_drew (S := (fun w' : World => w'.cell? ⟨w.heap.size, 0, none⟩ = some (.int .i64 z) ∧ w'.cell? ⟨w.heap.size, 1, none⟩ = some (.slice (some ⟨g, off, none⟩) (m.length + 1) c) ∧ w'.cell? ⟨g, off + m.length * 2, none⟩ = some (.int .i64 y.1) ∧ w'.cell? ⟨g, off + m.length * 2 + 1, none⟩ = some (.int .i64 y.2))) (by kernel_rfl) (SK.out B2.out.drew) (fun hHeld => ?_)
      refine wpAnyH_takeL (i := 0) (v := ?_) rfl rfl (by kernel_rfl) (by kernel_rfl) (by kernel_rfl) (fun _ _ _ h => h) (Or.inl ⟨by rfl, ?_⟩) (by assumption) ?_
      rotate_left
      · intro w hSw
        try dsimp only at hSw
        go_simp
        all_goals with_reducible rfl
      simp only [List.set_cons_zero, List.set_cons_succ]
      refine wpAnyH_takeL (i := 1) (v := ?_) rfl rfl (by kernel_rfl) (by kernel_rfl) (by kernel_rfl) (fun _ _ _ h => h) (Or.inl ⟨by rfl, ?_⟩) (by assumption) ?_
      rotate_left
      · intro w hSw
        try dsimp only at hSw
        go_simp
        all_goals with_reducible rfl
      simp only [List.set_cons_zero, List.set_cons_succ]
      refine wpAnyH_takeL (i := 2) (v := ?_) rfl rfl (by kernel_rfl) (by kernel_rfl) (by kernel_rfl) (fun _ _ _ h => h) (Or.inl ⟨by rfl, ?_⟩) (by assumption) ?_
      rotate_left
      · intro w hSw
        try dsimp only at hSw
        go_simp
        all_goals with_reducible rfl
      simp only [List.set_cons_zero, List.set_cons_succ]
      refine wpAnyH_takeL (i := 3) (v := ?_) rfl rfl (by kernel_rfl) (by kernel_rfl) (by kernel_rfl) (fun _ _ _ h => h) (Or.inl ⟨by rfl, ?_⟩) (by assumption) ?_
      rotate_left
      · intro w hSw
        try dsimp only at hSw
        go_simp
        all_goals with_reducible rfl
      simp only [List.set_cons_zero, List.set_cons_succ]
      refine wpAnyH_takeL (i := 4) (v := ?_) rfl rfl (by kernel_rfl) (by kernel_rfl) (by kernel_rfl) (fun _ _ _ h => h) (Or.inl ⟨by rfl, ?_⟩) (by assumption) ?_
      rotate_left
      · intro w hSw
        try dsimp only at hSw
        go_simp
        all_goals with_reducible rfl
      simp only [List.set_cons_zero, List.set_cons_succ]
      refine wpAnyH_takeL (i := 5) (v := ?_) rfl rfl (by kernel_rfl) (by kernel_rfl) (by kernel_rfl) (fun _ _ _ h => h) (Or.inl ⟨by rfl, ?_⟩) (by assumption) ?_
      rotate_left
      · intro w hSw
        try dsimp only at hSw
        go_simp
        all_goals with_reducible rfl
      simp only [List.set_cons_zero, List.set_cons_succ]
      refine wpAnyH_takeL (i := 6) (v := ?_) rfl rfl (by kernel_rfl) (by kernel_rfl) (by kernel_rfl) (fun _ _ _ h => h) (Or.inl ⟨by rfl, ?_⟩) (by assumption) ?_
      rotate_left
      · intro w hSw
        try dsimp only at hSw
        go_simp
        all_goals with_reducible rfl
      simp only [List.set_cons_zero, List.set_cons_succ]
      refine wpAnyH_takeL (i := 7) (v := ?_) rfl rfl (by kernel_rfl) (by kernel_rfl) (by kernel_rfl) (fun _ _ _ h => h) (Or.inl ⟨by rfl, ?_⟩) (by assumption) ?_
      rotate_left
      · intro w hSw
        try dsimp only at hSw
        go_simp
        all_goals with_reducible rfl
      simp only [List.set_cons_zero, List.set_cons_succ]
      refine wpAnyH_takeL (i := 9) (v := ?_) rfl rfl (by kernel_rfl) (by kernel_rfl) (by kernel_rfl) (fun _ _ _ h => h) (Or.inl ⟨by rfl, ?_⟩) (by assumption) ?_
      rotate_left
      · intro w hSw
        try dsimp only at hSw
        go_simp
        all_goals with_reducible rfl
      simp only [List.set_cons_zero, List.set_cons_succ]
      refine wpAnyH_takeL (i := 10) (v := ?_) rfl rfl (by kernel_rfl) (by kernel_rfl) (by kernel_rfl) (fun _ _ _ h => h) (Or.inl ⟨by rfl, ?_⟩) (by assumption) ?_
      rotate_left
      · intro w hSw
        try dsimp only at hSw
        go_simp
        all_goals with_reducible rfl
      simp only [List.set_cons_zero, List.set_cons_succ]
      refine wpAnyH_ready (rs := [8]) (by kernel_rfl) (by simp) ?_
      refine AllReadyH.cons rfl (fun K hK => ?_) ?_
      · go_simp
        go_at_call 36
        refine Calls.mono (spanEnd_u _ y HXE.out) ?_
        rintro e w3 ⟨rfl, b3⟩
        have B3 : Hid (Below w0.heap.size w0 w3) := on B2.out (below_drew_pre0 b3)
        have SS := SK.out B3.out
        clear b3
        go_simp
        refine hK.out _ _ ?_ (fun hHeld => ?_)
        · try dsimp only
          exact SS
        clear hK K
        refine wpAnyH_takeL (i := 11) (v := ?_) rfl rfl (by kernel_rfl) (by kernel_rfl) (by kernel_rfl) (fun _ _ _ h => h) (Or.inl ⟨by rfl, ?_⟩) (by assumption) ?_
        rotate_left
        · intro w hSw
          try dsimp only at hSw
          go_simp
          all_goals with_reducible rfl
        simp only [List.set_cons_zero, List.set_cons_succ]
        refine wpAnyH_takeL (i := 12) (v := ?_) rfl rfl (by kernel_rfl) (by kernel_rfl) (by kernel_rfl) (fun _ _ _ h => h) (Or.inl ⟨by rfl, ?_⟩) (by assumption) ?_
        rotate_left
        · intro w hSw
          try dsimp only at hSw
          go_simp
          all_goals with_reducible rfl
        simp only [List.set_cons_zero, List.set_cons_succ]
        refine wpAnyH_done (by kernel_rfl) ?_ _
        clear hHeld SS
        obtain ⟨k0, k1, k2, k3⟩ := SK.out B3.out
        go_wp2
        go_ret2
        exact ⟨by rw [HE.out, HC.out]; rfl, on B0.out B3.out⟩
      exact AllReadyH.nil
    · have HE : Hid (Fr.highA z (m ++ [y]) = z) := by unfold Hid; rw [HH.out, Fr.high_last, if_neg hz]
      have hb : (y.1 + y.2 == z) = false := beq_eq_false_iff_ne.2 hz
      clear hz
      go_enter Try.func24, Try.ntmps24
      go_wp2_with fail
      refine (freeCheck_u _ P z _ _ c _ (Rep.below HR.out B0.out) _ HC.out).mono ?_
      rintro e w2 ⟨rfl, b2⟩
      have B2 : Hid (Below w0.heap.size w0 w2) := b2
      obtain ⟨f0, f1, f2, f3⟩ := SK.out b2
      clear b2 d0 d1
      go_wp2_with fail
      refine wp_region_held_drew (S := (fun w' : World => w'.cell? ⟨w.heap.size, 0, none⟩ = some (.int .i64 z) ∧ w'.cell? ⟨w.heap.size, 1, none⟩ = some (.slice (some ⟨g, off, none⟩) (m.length + 1) c) ∧ w'.cell? ⟨g, off + m.length * 2, none⟩ = some (.int .i64 y.1) ∧ w'.cell? ⟨g, off + m.length * 2 + 1, none⟩ = some (.int .i64 y.2))) (by kernel_rfl) (SK.out B2.out.drew) (fun hHeld => ?_)
      refine wpAnyH_takeL (i := 0) (v := ?_) rfl rfl (by kernel_rfl) (by kernel_rfl) (by kernel_rfl) (fun _ _ _ h => h) (Or.inl ⟨by rfl, ?_⟩) (by assumption) ?_
      rotate_left
      · intro w hSw
        try dsimp only at hSw
        go_simp
        all_goals with_reducible rfl
      simp only [List.set_cons_zero, List.set_cons_succ]
      refine wpAnyH_takeL (i := 1) (v := ?_) rfl rfl (by kernel_rfl) (by kernel_rfl) (by kernel_rfl) (fun _ _ _ h => h) (Or.inl ⟨by rfl, ?_⟩) (by assumption) ?_
      rotate_left
      · intro w hSw
        try dsimp only at hSw
        go_simp
        all_goals with_reducible rfl
      simp only [List.set_cons_zero, List.set_cons_succ]
      refine wpAnyH_takeL (i := 2) (v := ?_) rfl rfl (by kernel_rfl) (by kernel_rfl) (by kernel_rfl) (fun _ _ _ h => h) (Or.inl ⟨by rfl, ?_⟩) (by assumption) ?_
      rotate_left
      · intro w hSw
        try dsimp only at hSw
        go_simp
        all_goals with_reducible rfl
      simp only [List.set_cons_zero, List.set_cons_succ]
      refine wpAnyH_takeL (i := 3) (v := ?_) rfl rfl (by kernel_rfl) (by kernel_rfl) (by kernel_rfl) (fun _ _ _ h => h) (Or.inl ⟨by rfl, ?_⟩) (by assumption) ?_
      rotate_left
      · intro w hSw
        try dsimp only at hSw
        go_simp
        all_goals with_reducible rfl
      simp only [List.set_cons_zero, List.set_cons_succ]
      refine wpAnyH_takeL (i := 4) (v := ?_) rfl rfl (by kernel_rfl) (by kernel_rfl) (by kernel_rfl) (fun _ _ _ h => h) (Or.inl ⟨by rfl, ?_⟩) (by assumption) ?_
      rotate_left
      · intro w hSw
        try dsimp only at hSw
        go_simp
        all_goals with_reducible rfl
      simp only [List.set_cons_zero, List.set_cons_succ]
      refine wpAnyH_takeL (i := 5) (v := ?_) rfl rfl (by kernel_rfl) (by kernel_rfl) (by kernel_rfl) (fun _ _ _ h => h) (Or.inl ⟨by rfl, ?_⟩) (by assumption) ?_
      rotate_left
      · intro w hSw
        try dsimp only at hSw
        go_simp
        all_goals with_reducible rfl
      simp only [List.set_cons_zero, List.set_cons_succ]
      refine wpAnyH_takeL (i := 6) (v := ?_) rfl rfl (by kernel_rfl) (by kernel_rfl) (by kernel_rfl) (fun _ _ _ h => h) (Or.inl ⟨by rfl, ?_⟩) (by assumption) ?_
      rotate_left
      · intro w hSw
        try dsimp only at hSw
        go_simp
        all_goals with_reducible rfl
      simp only [List.set_cons_zero, List.set_cons_succ]
      refine wpAnyH_takeL (i := 7) (v := ?_) rfl rfl (by kernel_rfl) (by kernel_rfl) (by kernel_rfl) (fun _ _ _ h => h) (Or.inl ⟨by rfl, ?_⟩) (by assumption) ?_
      rotate_left
      · intro w hSw
        try dsimp only at hSw
        go_simp
        all_goals with_reducible rfl
      simp only [List.set_cons_zero, List.set_cons_succ]
      refine wpAnyH_takeL (i := 9) (v := ?_) rfl rfl (by kernel_rfl) (by kernel_rfl) (by kernel_rfl) (fun _ _ _ h => h) (Or.inl ⟨by rfl, ?_⟩) (by assumption) ?_
      rotate_left
      · intro w hSw
        try dsimp only at hSw
        go_simp
        all_goals with_reducible rfl
      simp only [List.set_cons_zero, List.set_cons_succ]
      refine wpAnyH_takeL (i := 10) (v := ?_) rfl rfl (by kernel_rfl) (by kernel_rfl) (by kernel_rfl) (fun _ _ _ h => h) (Or.inl ⟨by rfl, ?_⟩) (by assumption) ?_
      rotate_left
      · intro w hSw
        try dsimp only at hSw
        go_simp
        all_goals with_reducible rfl
      simp only [List.set_cons_zero, List.set_cons_succ]
      refine wpAnyH_ready (rs := [8]) (by kernel_rfl) (by simp) ?_
      refine AllReadyH.cons rfl (fun K hK => ?_) ?_
      · go_simp
        go_at_call 36
        refine Calls.mono (spanEnd_u _ y HXE.out) ?_
        rintro e w3 ⟨rfl, b3⟩
        have B3 : Hid (Below w0.heap.size w0 w3) := on B2.out (below_drew_pre0 b3)
        have SS := SK.out B3.out
        clear b3
        go_simp
        refine hK.out _ _ ?_ (fun hHeld => ?_)
        · try dsimp only
          exact SS
        clear hK K
        refine wpAnyH_takeL (i := 11) (v := ?_) rfl rfl (by kernel_rfl) (by kernel_rfl) (by kernel_rfl) (fun _ _ _ h => h) (Or.inl ⟨by rfl, ?_⟩) (by assumption) ?_
        rotate_left
        · intro w hSw
          try dsimp only at hSw
          go_simp
          all_goals with_reducible rfl
        simp only [List.set_cons_zero, List.set_cons_succ]
        refine wpAnyH_takeL (i := 12) (v := ?_) rfl rfl (by kernel_rfl) (by kernel_rfl) (by kernel_rfl) (fun _ _ _ h => h) (Or.inl ⟨by rfl, ?_⟩) (by assumption) ?_
        rotate_left
        · intro w hSw
          try dsimp only at hSw
          go_simp
          all_goals with_reducible rfl
        simp only [List.set_cons_zero, List.set_cons_succ]
        refine wpAnyH_done (by kernel_rfl) ?_ _
        clear hHeld SS
        obtain ⟨k0, k1, k2, k3⟩ := SK.out B3.out
        go_wp2
        go_ret2
        exact ⟨by rw [HE.out, HC.out]; rfl, on B0.out B3.out⟩
      exact AllReadyH.nil

set_option maxRecDepth 20000 in
set_option maxHeartbeats 4000000 in
theorem freeRoom_u (w : World) (P : Nat → Prop) (z : Int) (a : Option Addr) (n c : Nat) (l : List Spn) (hL : rSpns.rd w P [.slice a n c] l) :
    Calls Try.prog 26 #[.agg #[.int .i64 z, .slice a n c]] w fun e w' => e = .returned (.tuple #[.int .i64 (Fr.roomA z l), .int .i64 (Fr.roomB z l), .int .i64 (Fr.checkE z l)]) ∧ Below w.heap.size w w' := by
  have HR : Hid _ := hL
  have HN : Hid (l.length = n) := (rList_len hL).1
  obtain ⟨w0, hw0, V0, b0, z0⟩ := boxedRow w 27 [.int .i64 z, .slice a n c]
  have HV0 : Hid (Row w0 w.heap.size 27 [.int .i64 z, .slice a n c]) := V0
  have B0 : Hid (Below w.heap.size w w0) := b0
  obtain ⟨d0, d1⟩ := HV0.out.two
  clear hL V0 b0 z0
  cases ho : Fr.okB z l
  · have HC : Hid (Fr.checkE z l = 9) := Fr.checkE_no ho
    have HE : Hid (Fr.roomA z l = 0 ∧ Fr.roomB z l = 0) := by unfold Hid Fr.roomA Fr.roomB; rw [ho]; exact ⟨rfl, rfl⟩
    clear ho
    go_enter Try.func26, Try.ntmps26
    go_wp2_with fail
    refine (freeCheck_u _ P z a n c l (Rep.below HR.out B0.out) _ HC.out).mono ?_
    rintro e w2 ⟨rfl, b2⟩
    go_wp2
    refine bodyPost_ret (results_three rfl _ _) rfl ?_
    exact ⟨by rw [HE.out.1, HE.out.2, HC.out]; rfl, on B0.out b2⟩
  have HC : Hid (Fr.checkE z l = 0) := Fr.checkE_ok ho
  have HO : Hid (Fr.Ok z l) := Fr.ok_iff.1 ho
  have HH : Hid (Fr.roomA z l = Fr.total l ∧ Fr.roomB z l = Fr.longest l) := by unfold Hid Fr.roomA Fr.roomB; rw [ho]; exact ⟨rfl, rfl⟩
  have hn : n ≤ 1024 := by have h := HO.out.len; rw [HN.out] at h; exact h
  have hmx := max_fact 3
  clear ho
  go_enter Try.func26, Try.ntmps26
  go_wp2_with fail
  refine (freeCheck_u _ P z a n c l (Rep.below HR.out B0.out) _ HC.out).mono ?_
  rintro e w2 ⟨rfl, b2⟩
  have B2 : Hid (Below w0.heap.size w0 w2) := b2
  obtain ⟨f0, f1⟩ := (HV0.out.below b2).two
  clear b2 d0 d1
  go_wp2
  go_loopw [6, 7, 18] (fun p s i wr => ∃ (k : Nat) (A : Int), k ≤ n ∧ i = .int .i64 k ∧ p = .int .i64 A ∧ 0 ≤ A ∧ A ≤ 65536 * (k : Int) ∧ Hid (A = Fr.total (l.take k)) ∧ s = .int .i64 (Fr.longest (l.take k)) ∧ Below w0.heap.size w0 wr) (fun _ _ i _ => n - (intOf i).toNat)
  case atStart => exact ⟨0, 0, Nat.zero_le _, rfl, rfl, Int.le_refl _, by omega, rfl, rfl, B2.out⟩
  case round =>
    obtain ⟨k, A, hk, rfl, rfl, hA0, hA1, HA, rfl, bel⟩ := hrel
    have HB : Hid (Below w0.heap.size w0 wr) := bel
    obtain ⟨r0, r1⟩ := (HV0.out.below bel).two
    by_cases hlt : k < n
    · have hkl : k < l.length := by rw [HN.out]; exact hlt
      obtain ⟨g, off, rfl, -, hgl, hat⟩ := rSpns_at (Rep.below (Rep.below HR.out B0.out) bel) (by omega)
      obtain ⟨c0, c1, -⟩ := hat k hkl
      have hm := HO.out.mid l[k] (List.getElem_mem hkl)
      have HNx : Hid _ := Fr.total_next hkl
      have HNy : Hid _ := Fr.longest_next hkl
      obtain ⟨y, hX⟩ : ∃ y, y = l[k] := ⟨_, rfl⟩
      rw [← hX] at c0 c1 hm HNx HNy
      unfold Fr.Mid at hm
      obtain ⟨m1, m2, m3⟩ := hm
      have hkz : (k : Int) < (n : Int) := by omega
      have HN1 : Hid (A + y.2 = Fr.total (l.take (k + 1))) := by unfold Hid; rw [HNx.out, HA.out]
      have HN3 : Hid (0 ≤ A + y.2 ∧ A + y.2 ≤ 65536 * ((k + 1 : Nat) : Int)) := by unfold Hid; omega
      clear hX hat bel hgl HNx
      obtain ⟨w5, hw5, V5, b5, z5⟩ := boxedRow wr 26 [.int .i64 y.1, .int .i64 y.2]
      have B5 : Hid (Below w0.heap.size w0 w5) := on HB.out b5
      obtain ⟨x0, x1⟩ := V5.two
      clear V5 b5 z5
      go_wp2
      go_roundw
      case rel => exact ⟨k + 1, A + y.2, by omega, by go_num, rfl, HN3.out.1, HN3.out.2, HN1, by rw [HNy.out], B5.out⟩
      case measure => simp [intOf]; omega
    · obtain rfl : k = n := by omega
      have HT : Hid (l.take k = l) := List.take_of_length_le (by rw [HN.out]; exact Nat.le_refl _)
      go_wp2
      refine bodyPost_ret (results_three rfl _ _) rfl ?_
      exact ⟨by rw [HH.out.1, HH.out.2, HC.out, HA.out, HT.out]; rfl, on B0.out bel⟩

end Go.Proofs.Ytbbjbajdoekheaa
