/-
  The landed free: Best, at whatever state, number and line. Conditions: those that each contract names.
-/
import Derived.Test.YtbbjbajdoekheaaYC
import Derived.Test.YtbbjbajdoekheaaFBst
namespace Go.Proofs.Ytbbjbajdoekheaa
open Go.RowKit
set_option linter.unusedVariables false

set_option maxHeartbeats 1600000 in
theorem bestAsk_u (w : World) (A B : Nat) (len q sh : Int) (h0 : w.cell? ⟨A, 0, none⟩ = some (.int .i64 q)) (h1 : w.cell? ⟨B, 0, none⟩ = some (.int .i64 sh)) (r : Bool) (hr : (decide (q ≤ len) && (decide (sh = 0) || decide (len < sh))) = r) :
    Calls Try.prog 35 #[.int .i64 len, .pointer (some ⟨A, 0, none⟩), .pointer (some ⟨B, 0, none⟩)] w fun e w' => e = .returned (.bool r) ∧ w = w' := by
  by_cases h1' : q ≤ len
  · by_cases h2' : sh = 0
    · subst h2'
      have HF : Hid (r = true) := by unfold Hid; rw [← hr]; simp [h1']
      clear hr
      go_enter Try.func35, Try.ntmps35
      go_wp2
      go_ret
      exact ⟨by rw [HF.out]; rfl, rfl⟩
    · have hs : (sh == 0) = false := beq_eq_false_iff_ne.2 h2'
      by_cases h3' : len < sh
      · have HF : Hid (r = true) := by unfold Hid; rw [← hr]; simp [h1', h3']
        clear hr
        go_enter Try.func35, Try.ntmps35
        go_wp2
        go_ret
        exact ⟨by rw [HF.out]; rfl, rfl⟩
      · have HF : Hid (r = false) := by unfold Hid; rw [← hr]; simp [h2', h3']
        clear hr
        go_enter Try.func35, Try.ntmps35
        go_wp2
        go_ret
        exact ⟨by rw [HF.out]; rfl, rfl⟩
  · have HF : Hid (r = false) := by unfold Hid; rw [← hr]; simp [h1']
    clear hr
    go_enter Try.func35, Try.ntmps35
    go_wp2
    go_ret
    exact ⟨by rw [HF.out]; rfl, rfl⟩

set_option maxRecDepth 20000 in
set_option maxHeartbeats 4000000 in
theorem freeBest_u (w : World) (P : Nat → Prop) (z : Int) (a : Option Addr) (n c : Nat) (l : List Spn) (hL : rSpns.rd w P [.slice a n c] l) (q line : Int) (hq : q ≤ 9223372036854775807) (hl2 : line ≤ 9223372036854775807) :
    Calls Try.prog 10 #[.agg #[.int .i64 z, .slice a n c], .int .i64 q, .int .i64 line] w fun e w' => e = .returned (.tuple #[.int .i64 (Fr.bestA z l q line), .int .i64 (Fr.bestE z l q line)]) ∧ Below w.heap.size w w' := by
  have HR : Hid _ := hL
  have HN : Hid (l.length = n) := (rList_len hL).1
  obtain ⟨w0, hw0, V0, b0, z0⟩ := boxedRow w 27 [.int .i64 z, .slice a n c]
  obtain ⟨w1, hw1, V1, b1, z1⟩ := boxedRow w0 3 [.int .i64 q]
  rw [z0] at V1
  have HV0 : Hid (Row w1 w.heap.size 27 [.int .i64 z, .slice a n c]) := V0.below b1
  have HV1 : Hid (Row w1 (w.heap.size + 1) 3 [.int .i64 q]) := V1
  have B1 : Hid (Below w.heap.size w w1) := on b0 b1
  obtain ⟨d0, d1⟩ := HV0.out.two
  clear hL V0 V1 b0 b1 z1
  cases ho : Fr.okB z l
  · have HC : Hid (Fr.checkE z l = 9) := Fr.checkE_no ho
    have HE : Hid (Fr.bestE z l q line = 9 ∧ Fr.bestA z l q line = 0) := Fr.best_no ho
    clear ho
    go_enter Try.func10, Try.ntmps10
    go_wp2_with fail
    refine (freeCheck_u _ P z a n c l (Rep.below HR.out B1.out) _ HC.out).mono ?_
    rintro e w2 ⟨rfl, b2⟩
    go_wp2
    go_ret2
    exact ⟨by rw [HE.out.1, HE.out.2]; rfl, on B1.out b2⟩
  have HC : Hid (Fr.checkE z l = 0) := Fr.checkE_ok ho
  have HO : Hid (Fr.Ok z l) := Fr.ok_iff.1 ho
  have hn : n ≤ 1024 := by have h := HO.out.len; rw [HN.out] at h; exact h
  by_cases hr : ¬ (1 ≤ q ∧ 0 ≤ line)
  · have HE : Hid (Fr.bestE z l q line = 4 ∧ Fr.bestA z l q line = 0) := Fr.best_range ho hr
    clear ho
    by_cases h1 : q < 1
    · clear hr
      go_enter Try.func10, Try.ntmps10
      go_wp2_with fail
      refine (freeCheck_u _ P z a n c l (Rep.below HR.out B1.out) _ HC.out).mono ?_
      rintro e w2 ⟨rfl, b2⟩
      have f2 := (HV1.out.below b2).cell (j := 0) rfl
      go_wp2
      go_ret2
      exact ⟨by rw [HE.out.1, HE.out.2]; rfl, on B1.out b2⟩
    · have h2 : line < 0 := by omega
      clear hr
      go_enter Try.func10, Try.ntmps10
      go_wp2_with fail
      refine (freeCheck_u _ P z a n c l (Rep.below HR.out B1.out) _ HC.out).mono ?_
      rintro e w2 ⟨rfl, b2⟩
      have f2 := (HV1.out.below b2).cell (j := 0) rfl
      go_wp2
      go_ret2
      exact ⟨by rw [HE.out.1, HE.out.2]; rfl, on B1.out b2⟩
  have hr2 : 1 ≤ q ∧ 0 ≤ line := Decidable.not_not.1 hr
  obtain ⟨hq1, hline⟩ := hr2
  have HE : Hid _ := Fr.best_said ho hq1 hline
  have hmn := min_fact 3
  clear ho hr
  go_enter Try.func10, Try.ntmps10
  go_wp2_with fail
  refine (freeCheck_u _ P z a n c l (Rep.below HR.out B1.out) _ HC.out).mono ?_
  rintro e w2 ⟨rfl, b2⟩
  have f2 := (HV1.out.below b2).cell (j := 0) rfl
  obtain ⟨f0, f1⟩ := (HV0.out.below b2).two
  have HW1 : Hid (Row w2 (w.heap.size + 1) 3 [.int .i64 q]) := HV1.out.below b2
  have B2 : Hid (Below w.heap.size w w2) := on B1.out b2
  have HV : Hid (Row (w2.alloc (.cells #[.int .i64 0] 3)) w2.heap.size 3 [.int .i64 0]) := row_new _ _ _
  have HBa : Hid (Below w2.heap.size w2 (w2.alloc (.cells #[.int .i64 0] 3))) := (Below.refl _ _).alloc (Nat.le_refl _) _
  have k0 : (w2.alloc (.cells #[.int .i64 0] 3)).cell? ⟨w.heap.size, 1, none⟩ = some (.slice a n c) := (HBa.out.cell (p := ⟨w.heap.size, 1, none⟩) (Nat.lt_of_lt_of_le (Nat.lt_succ_self _) (Nat.le_of_lt HW1.out.lt))).trans f1
  clear b2
  go_wp2
  go_loopw [9, 30] (fun o i wr => ∃ (k : Nat) (b : Int × Int), k ≤ n ∧ i = .int .i64 k ∧ o = .int .i64 (Fr.bAt b) ∧ Hid (Fr.BInv q b ∧ (l.take k).foldl (Fr.better q line) (0, -1) = b) ∧ Hid (Row wr w2.heap.size 3 [.int .i64 (Fr.bSh b)]) ∧ Below w2.heap.size w2 wr) (fun _ i _ => n - (intOf i).toNat)
  case atStart => exact ⟨0, (0, -1), Nat.zero_le _, rfl, rfl, ⟨.inl ⟨by decide, rfl⟩, rfl⟩, HV, HBa.out⟩
  case round =>
    obtain ⟨k, b, hk, rfl, rfl, HI, HVs, bel⟩ := hrel
    by_cases hlt : k < n
    · have hkl : k < l.length := by rw [HN.out]; exact hlt
      obtain ⟨g, off, rfl, -, hgl, hat⟩ := rSpns_at (Rep.below (Rep.below HR.out B2.out) bel) (by omega)
      obtain ⟨c0, c1, -⟩ := hat k hkl
      have hm := HO.out.mid l[k] (List.getElem_mem hkl)
      have HNx : Hid _ := Fr.best_next (q := q) (line := line) hkl
      obtain ⟨y, hX⟩ : ∃ y, y = l[k] := ⟨_, rfl⟩
      rw [← hX] at c0 c1 hm HNx
      unfold Fr.Mid at hm
      obtain ⟨m1, m2, m3⟩ := hm
      have HXE : Hid (In64 (y.1 + y.2)) := by unfold Hid In64; omega
      have hkz : (k : Int) < (n : Int) := by omega
      obtain ⟨w5, hw5, V5, b5, z5⟩ := boxedRow wr 26 [.int .i64 y.1, .int .i64 y.2]
      have HV5 : Hid (Row w5.drew wr.heap.size 26 [.int .i64 y.1, .int .i64 y.2]) := V5.keep rfl
      have HB5 : Hid (Below wr.heap.size wr w5) := b5
      have HB : Hid (Below w2.heap.size w2 wr) := bel
      obtain ⟨x0, x1⟩ := V5.two
      obtain ⟨rm, hrm⟩ : ∃ rm, Fr.room line y = rm := ⟨_, rfl⟩
      have hrm2 : min (y.1 + y.2) line - y.1 = rm := hrm
      have hrm3 : IntKind.i64.wrap (min (y.1 + y.2) line - y.1) = rm := by rw [IntKind.wrap_i64, ← hrm2]; omega
      have HRm : Hid (Fr.room line y = rm) := hrm
      clear hX hat b5 z5 V5 hgl bel hrm
      have HBet : Hid _ := Fr.better_said (q := q) (line := line) (y := y) HI.out.1 hq1 m1 HRm.out
      go_wp2_with fail
      refine wp_region_held_drew (S := (fun w' : World => w'.cell? ⟨wr.heap.size, 0, none⟩ = some (.int .i64 y.1) ∧ w'.cell? ⟨wr.heap.size, 1, none⟩ = some (.int .i64 y.2))) (by kernel_rfl) (HV5.out.two) (fun hHeld => ?_)
      refine wpAnyH_takeL (i := 0) (v := ?_) rfl rfl (by kernel_rfl) (by kernel_rfl) (by kernel_rfl) (fun _ _ _ h => h) (Or.inl ⟨by rfl, ?_⟩) (by assumption) ?_
      rotate_left
      · intro w hSw
        try dsimp only at hSw
        go_simp
        all_goals with_reducible rfl
      simp only [List.set_cons_zero, List.set_cons_succ]
      refine wpAnyH_takeL (i := 2) (v := ?_) rfl rfl (by kernel_rfl) (by kernel_rfl) (by kernel_rfl) (fun _ _ _ h => h) (Or.inl ⟨by rfl, ?_⟩) (by assumption) ?_
      rotate_left
      · intro w hSw
        try dsimp only at hSw
        go_simp
        all_goals with_reducible rfl
      simp only [List.set_cons_zero, List.set_cons_succ]
      refine wpAnyH_takeL (i := 4) (v := ?_) rfl rfl (by kernel_rfl) (by kernel_rfl) (by kernel_rfl) (fun _ _ _ h => h) (Or.inl ⟨by rfl, ?_⟩) (by assumption) ?_
      rotate_left
      · intro w hSw
        try dsimp only at hSw
        go_simp
        all_goals with_reducible rfl
      simp only [List.set_cons_zero, List.set_cons_succ]
      refine wpAnyH_takeL (i := 5) (v := ?_) rfl rfl (by kernel_rfl) (by kernel_rfl) (by kernel_rfl) (fun _ _ _ h => h) (Or.inl ⟨by rfl, ?_⟩) (by assumption) ?_
      rotate_left
      · intro w hSw
        try dsimp only at hSw
        go_simp
        all_goals with_reducible rfl
      simp only [List.set_cons_zero, List.set_cons_succ]
      refine wpAnyH_ready (rs := [1]) (by kernel_rfl) (by simp) ?_
      refine AllReadyH.cons rfl (fun K hK => ?_) ?_
      · go_simp
        go_at_call 36
        refine Calls.mono (spanEnd_u _ y HXE.out) ?_
        rintro e w6 ⟨rfl, hb6⟩
        have HB6 : Hid (Below wr.heap.size wr w6) := on HB5.out (below_drew_pre0 hb6)
        have HV6 : Hid (Row w6 wr.heap.size 26 [.int .i64 y.1, .int .i64 y.2]) := HV5.out.below hb6
        have SS := HV6.out.two
        clear hb6
        go_simp
        refine hK.out _ _ ?_ (fun hHeld => ?_)
        · try dsimp only
          exact SS
        clear hK K
        refine wpAnyH_takeL (i := 3) (v := ?_) rfl rfl (by kernel_rfl) (by kernel_rfl) (by kernel_rfl) (fun _ _ _ h => h) (Or.inl ⟨by rfl, ?_⟩) (by assumption) ?_
        rotate_left
        · intro w hSw
          try dsimp only at hSw
          go_simp
          all_goals with_reducible rfl
        simp only [List.set_cons_zero, List.set_cons_succ]
        refine wpAnyH_takeL (i := 6) (v := ?_) rfl rfl (by kernel_rfl) (by kernel_rfl) (by kernel_rfl) (fun _ _ _ h => h) (Or.inl ⟨by rfl, ?_⟩) (by assumption) ?_
        rotate_left
        · intro w hSw
          try dsimp only at hSw
          go_simp
          all_goals with_reducible rfl
        simp only [List.set_cons_zero, List.set_cons_succ]
        refine wpAnyH_takeL (i := 7) (v := ?_) rfl rfl (by kernel_rfl) (by kernel_rfl) (by kernel_rfl) (fun _ _ _ h => h) (Or.inl ⟨by rfl, ?_⟩) (by assumption) ?_
        rotate_left
        · intro w hSw
          try dsimp only at hSw
          go_simp
          all_goals with_reducible rfl
        simp only [List.set_cons_zero, List.set_cons_succ]
        refine wpAnyH_done (by kernel_rfl) ?_ _
        clear hHeld SS
        obtain ⟨y0, y1⟩ := HV6.out.two
        have HVt : Hid (Row w6 w2.heap.size 3 [.int .i64 (Fr.bSh b)]) := HVs.out.below HB6.out
        have v0 := HVt.out.cell (j := 0) rfl
        have vf := HVt.out.frozen 0
        have HWt : Hid (Row w6 (w.heap.size + 1) 3 [.int .i64 q]) := (HW1.out.keep (HB.out.block _ HW1.out.lt)).below HB6.out
        have HBt : Hid (Below w2.heap.size w2 w6) := HB.out.trans (HB6.out.mono HB.out.size)
        cases hfit : (decide (q ≤ rm) && (decide (Fr.bSh b = 0) || decide (rm < Fr.bSh b)))
        · have HN2 : Hid (Fr.BInv q b ∧ (l.take (k + 1)).foldl (Fr.better q line) (0, -1) = b) := ⟨HI.out.1, by rw [HNx.out, HI.out.2]; exact HBet.out.2 hfit⟩
          have HF : Hid _ := hfit
          clear hfit
          go_wp2_with fail
          refine (bestAsk_u _ _ _ rm q (Fr.bSh b) (HWt.out.cell (j := 0) rfl) (HVt.out.cell (j := 0) rfl) _ HF.out).mono ?_
          rintro e w7 ⟨rfl, rfl⟩
          go_wp2
          go_roundw
          case rel => exact ⟨k + 1, b, by omega, by go_num, rfl, HN2, HVt, HBt.out⟩
          case measure => simp [intOf]; omega
        · have HN2 : Hid (Fr.BInv q (rm, y.1) ∧ (l.take (k + 1)).foldl (Fr.better q line) (0, -1) = (rm, y.1)) := ⟨(HBet.out.1 hfit).2, by rw [HNx.out, HI.out.2]; exact (HBet.out.1 hfit).1⟩
          have HA1 : Hid (Fr.bAt (rm, y.1) = y.1) := if_neg (by show ¬ y.1 < 0; omega)
          have HS1 : Hid (Fr.bSh (rm, y.1) = rm) := if_neg (by show ¬ y.1 < 0; omega)
          have HF : Hid _ := hfit
          clear hfit
          go_wp2_with fail
          refine (bestAsk_u _ _ _ rm q (Fr.bSh b) (HWt.out.cell (j := 0) rfl) (HVt.out.cell (j := 0) rfl) _ HF.out).mono ?_
          rintro e w7 ⟨rfl, rfl⟩
          go_wp2
          go_roundw
          case rel => exact ⟨k + 1, (rm, y.1), by omega, by go_num, by rw [HA1.out], HN2, by rw [HS1.out]; exact HVt.out.set 0 (.int .i64 rm), HBt.out.setCell (p := ⟨w2.heap.size, 0, none⟩) (Nat.le_refl _) _⟩
          case measure => simp [intOf]; omega
      exact AllReadyH.nil
    · obtain rfl : k = n := by omega
      have k1 := HVs.out.cell (j := 0) rfl
      have hall : l.foldl (Fr.better q line) (0, -1) = b := by have h := HI.out.2; rw [List.take_of_length_le (by rw [HN.out]; exact Nat.le_refl _)] at h; exact h
      have HE2 : Hid (Fr.bestE z l q line = (if b.2 < 0 then 51 else 0) ∧ Fr.bestA z l q line = Fr.bAt b) := by have h := HE.out; unfold Fr.best at h; rw [hall] at h; exact h
      have hinv := HI.out.1
      by_cases hneg : b.2 < 0
      · have hs : Fr.bSh b = 0 := if_pos hneg
        have HA0 : Hid (Fr.bAt b = 0) := if_pos hneg
        rw [hs] at k1
        have HE3 : Hid (Fr.bestE z l q line = 51 ∧ Fr.bestA z l q line = 0) := ⟨by rw [HE2.out.1, if_pos hneg], by rw [HE2.out.2, HA0.out]⟩
        clear hs hneg hinv hall
        go_wp2
        go_ret2
        exact ⟨by rw [HE3.out.1, HE3.out.2]; rfl, B2.out.trans (bel.mono B2.out.size)⟩
      · have hs : Fr.bSh b = b.1 := if_neg hneg
        have hb1 : (b.1 == 0) = false := beq_eq_false_iff_ne.2 (by rcases hinv with h | h <;> omega)
        rw [hs] at k1
        have HE3 : Hid (Fr.bestE z l q line = 0) := by unfold Hid; rw [HE2.out.1, if_neg hneg]
        clear hs hneg hinv hall
        go_wp2
        go_ret2
        exact ⟨by rw [HE3.out, HE2.out.2]; rfl, B2.out.trans (bel.mono B2.out.size)⟩

end Go.Proofs.Ytbbjbajdoekheaa
