/-
  The document's own Best and Alloc, at whatever state, number and line. Conditions: those that each contract names.
-/
import Derived.Test.YtbbjbajdoekheaaRFT
import Derived.Test.YtbbjbajdoekheaaFTot
namespace Go.Proofs.Ytbbjbajdoekheaa
open Go.RowKit
set_option linter.unusedVariables false

set_option maxRecDepth 20000 in
set_option maxHeartbeats 4000000 in
theorem refBest_u (w : World) (P : Nat → Prop) (z : Int) (a : Option Addr) (n c : Nat) (l : List Spn) (hL : rSpns.rd w P [.slice a n c] l) (q line : Int) (hq : q ≤ 9223372036854775807) (hl2 : line ≤ 9223372036854775807) :
    Calls Try.prog 11 #[.agg #[.int .i64 z, .slice a n c], .int .i64 q, .int .i64 line] w fun e w' => e = .returned (.tuple #[.int .i64 (Fr.bestA z l q line), .int .i64 (Fr.bestE z l q line)]) ∧ Below w.heap.size w w' := by
  have HR : Hid _ := hL
  have HN : Hid (l.length = n) := (rList_len hL).1
  obtain ⟨w1, hw1, V1, b1, z1⟩ := boxedRow w 24 [.int .i64 z, .slice a n c]
  have HV0 : Hid (Row w1 w.heap.size 24 [.int .i64 z, .slice a n c]) := V1
  have B1 : Hid (Below w.heap.size w w1) := b1
  obtain ⟨d0, d1⟩ := HV0.out.two
  clear hL V1 b1 z1
  cases ho : Fr.okB z l
  · have HC : Hid (Fr.checkE z l = 9) := Fr.checkE_no ho
    have HE : Hid (Fr.bestE z l q line = 9 ∧ Fr.bestA z l q line = 0) := Fr.best_no ho
    clear ho
    go_enter Try.func11, Try.ntmps11
    go_wp2_with fail
    refine (refCheck_u _ P z a n c l (Rep.below HR.out B1.out) _ HC.out).mono ?_
    rintro e w2 ⟨rfl, b2⟩
    go_wp2
    go_ret2
    exact ⟨by rw [HE.out.1, HE.out.2]; rfl, on B1.out b2⟩
  have HC : Hid (Fr.checkE z l = 0) := Fr.checkE_ok ho
  have HO : Hid (Fr.Ok z l) := Fr.ok_iff.1 ho
  have hn : n ≤ 1024 := by have h := HO.out.len; rw [HN.out] at h; exact h
  by_cases hr : ¬ (1 ≤ q ∧ 0 ≤ line)
  · have HE : Hid (Fr.bestE z l q line = 4 ∧ Fr.bestA z l q line = 0) := Fr.best_range ho hr
    clear ho
    by_cases h1 : q < 1
    · clear hr
      go_enter Try.func11, Try.ntmps11
      go_wp2_with fail
      refine (refCheck_u _ P z a n c l (Rep.below HR.out B1.out) _ HC.out).mono ?_
      rintro e w2 ⟨rfl, b2⟩
      go_wp2
      go_ret2
      exact ⟨by rw [HE.out.1, HE.out.2]; rfl, on B1.out b2⟩
    · have h2 : line < 0 := by omega
      clear hr
      go_enter Try.func11, Try.ntmps11
      go_wp2_with fail
      refine (refCheck_u _ P z a n c l (Rep.below HR.out B1.out) _ HC.out).mono ?_
      rintro e w2 ⟨rfl, b2⟩
      go_wp2
      go_ret2
      exact ⟨by rw [HE.out.1, HE.out.2]; rfl, on B1.out b2⟩
  have hr2 : 1 ≤ q ∧ 0 ≤ line := Decidable.not_not.1 hr
  obtain ⟨hq1, hline⟩ := hr2
  have HE : Hid _ := Fr.best_said ho hq1 hline
  have hmn := min_fact 3
  clear ho hr
  go_enter Try.func11, Try.ntmps11
  go_wp2_with fail
  refine (refCheck_u _ P z a n c l (Rep.below HR.out B1.out) _ HC.out).mono ?_
  rintro e w2 ⟨rfl, b2⟩
  have HB2 : Hid (Below w1.heap.size w1 w2) := b2
  clear b2 d0 d1
  go_wp2
  go_loopw [8, 9, 10] (fun s o i wr => ∃ (k : Nat) (b : Int × Int), k ≤ n ∧ i = .int .i64 k ∧ o = .int .i64 b.2 ∧ s = .int .i64 b.1 ∧ Hid (Fr.BInv q b ∧ (l.take k).foldl (Fr.better q line) (0, -1) = b) ∧ Below w1.heap.size w1 wr) (fun _ _ i _ => n - (intOf i).toNat)
  case atStart => exact ⟨0, (0, -1), Nat.zero_le _, rfl, rfl, rfl, ⟨.inl ⟨by decide, rfl⟩, rfl⟩, HB2.out⟩
  case round =>
    obtain ⟨k, b, hk, rfl, rfl, rfl, HI, bel⟩ := hrel
    have HB : Hid (Below w1.heap.size w1 wr) := bel
    obtain ⟨r0, r1⟩ := (HV0.out.below bel).two
    by_cases hlt : k < n
    · have hkl : k < l.length := by rw [HN.out]; exact hlt
      obtain ⟨g, off, rfl, -, hgl, hat⟩ := rSpns_at (Rep.below (Rep.below HR.out B1.out) bel) (by omega)
      obtain ⟨c0, c1, -⟩ := hat k hkl
      have hm := HO.out.mid l[k] (List.getElem_mem hkl)
      have HNx : Hid _ := Fr.best_next (q := q) (line := line) hkl
      obtain ⟨y, hX⟩ : ∃ y, y = l[k] := ⟨_, rfl⟩
      rw [← hX] at c0 c1 hm HNx
      unfold Fr.Mid at hm
      obtain ⟨m1, m2, m3⟩ := hm
      have hkz : (k : Int) < (n : Int) := by omega
      obtain ⟨rm, hrm⟩ : ∃ rm, Fr.room line y = rm := ⟨_, rfl⟩
      have hrm2 : min (y.1 + y.2) line - y.1 = rm := hrm
      have hrm3 : IntKind.i64.wrap (min (y.1 + y.2) line - y.1) = rm := by rw [IntKind.wrap_i64, ← hrm2]; omega
      have ewy : IntKind.i64.wrap (y.1 + y.2) = y.1 + y.2 := by rw [IntKind.wrap_i64]; omega
      have HRm : Hid (Fr.room line y = rm) := hrm
      have HYes : Hid (q ≤ rm ∧ (b.2 < 0 ∨ rm < b.1) → Fr.BInv q (rm, y.1) ∧ (l.take (k + 1)).foldl (Fr.better q line) (0, -1) = (rm, y.1)) := fun h => ⟨.inr ⟨m1, h.1⟩, by rw [HNx.out, HI.out.2]; unfold Fr.better; rw [HRm.out, if_pos h]⟩
      have HNo : Hid (¬ (q ≤ rm ∧ (b.2 < 0 ∨ rm < b.1)) → Fr.BInv q b ∧ (l.take (k + 1)).foldl (Fr.better q line) (0, -1) = b) := fun h => ⟨HI.out.1, by rw [HNx.out, HI.out.2]; unfold Fr.better; rw [HRm.out, if_neg h]⟩
      clear hX hat bel hgl hrm HNx
      obtain ⟨b1, b2⟩ := b
      by_cases h1 : q ≤ rm
      · by_cases h2 : b2 < 0
        · have HN2 : Hid _ := HYes.out ⟨h1, .inl h2⟩
          clear HYes HNo
          go_wp2_with fail
          go_quiet (fail)
          go_wp2_with fail
          go_quiet (fail)
          go_wp2
          go_roundw
          case rel => exact ⟨k + 1, (rm, y.1), by omega, by go_num, rfl, rfl, HN2, same_drewN HB.out _⟩
          case measure => simp [intOf]; omega
        · by_cases h3 : rm < b1
          · have HN2 : Hid _ := HYes.out ⟨h1, .inr h3⟩
            clear HYes HNo
            go_wp2_with fail
            go_quiet (fail)
            go_wp2_with fail
            go_quiet (fail)
            go_wp2
            go_roundw
            case rel => exact ⟨k + 1, (rm, y.1), by omega, by go_num, rfl, rfl, HN2, same_drewN HB.out _⟩
            case measure => simp [intOf]; omega
          · have HN2 : Hid _ := HNo.out (fun h => by rcases h.2 with h | h; exact h2 h; exact h3 h)
            clear HYes HNo
            go_wp2_with fail
            go_quiet (fail)
            go_wp2
            go_roundw
            case rel => exact ⟨k + 1, (b1, b2), by omega, by go_num, rfl, rfl, HN2, same_drewN HB.out _⟩
            case measure => simp [intOf]; omega
      · have HN2 : Hid _ := HNo.out (fun h => h1 h.1)
        clear HYes HNo
        go_wp2_with fail
        go_quiet (fail)
        go_wp2
        go_roundw
        case rel => exact ⟨k + 1, (b1, b2), by omega, by go_num, rfl, rfl, HN2, same_drewN HB.out _⟩
        case measure => simp [intOf]; omega
    · obtain rfl : k = n := by omega
      have hall : l.foldl (Fr.better q line) (0, -1) = b := by have h := HI.out.2; rw [List.take_of_length_le (by rw [HN.out]; exact Nat.le_refl _)] at h; exact h
      have HE2 : Hid (Fr.bestE z l q line = (if b.2 < 0 then 51 else 0) ∧ Fr.bestA z l q line = Fr.bAt b) := by have h := HE.out; unfold Fr.best at h; rw [hall] at h; exact h
      obtain ⟨b1, b2⟩ := b
      by_cases hneg : b2 < 0
      · have HE3 : Hid (Fr.bestE z l q line = 51 ∧ Fr.bestA z l q line = 0) := ⟨by rw [HE2.out.1, if_pos hneg], by rw [HE2.out.2]; exact if_pos hneg⟩
        clear hall
        go_wp2
        go_ret2
        exact ⟨by rw [HE3.out.1, HE3.out.2]; rfl, on B1.out bel⟩
      · have HE3 : Hid (Fr.bestE z l q line = 0 ∧ Fr.bestA z l q line = b2) := ⟨by rw [HE2.out.1, if_neg hneg], by rw [HE2.out.2]; exact if_neg hneg⟩
        clear hall
        go_wp2
        go_ret2
        exact ⟨by rw [HE3.out.1, HE3.out.2]; rfl, on B1.out bel⟩

set_option maxRecDepth 20000 in
set_option maxHeartbeats 4000000 in
theorem refAlloc_u (w : World) (P : Nat → Prop) (z : Int) (a : Option Addr) (n c : Nat) (l : List Spn) (hL : rSpns.rd w P [.slice a n c] l) (q line : Int) (hq0 : -9223372036854775808 ≤ q) (hq : q ≤ 9223372036854775807) (hl2 : line ≤ 9223372036854775807) :
    Calls Try.prog 13 #[.agg #[.int .i64 z, .slice a n c], .int .i64 q, .int .i64 line] w fun e w' => ∃ v, e = .returned (.tuple #[.agg #[.int .i64 (Fr.allocZ z l q line), v], .int .i64 (Fr.bestA z l q line), .int .i64 (Fr.allocE z l q line)]) ∧ OwnS 26 w' w.heap.size v (Fr.allocL z l q line) ∧ Below w.heap.size w w' := by
  have HR : Hid _ := hL
  obtain ⟨w0, hw0, V0, b0, z0⟩ := boxedRow w 24 [.int .i64 z, .slice a n c]
  obtain ⟨w1, hw1, V1, b1, z1⟩ := boxedRow w0 24 [.int .i64 0, .slice none 0 0]
  rw [z0] at V1
  have HV0 : Hid (Row w1 w.heap.size 24 [.int .i64 z, .slice a n c]) := V0.below b1
  have HV1 : Hid (Row w1 (w.heap.size + 1) 24 [.int .i64 0, .slice none 0 0]) := V1
  have B1 : Hid (Below w.heap.size w w1) := on b0 b1
  obtain ⟨d0, d1⟩ := HV0.out.two
  clear hL V0 V1 b0 b1 z1
  by_cases hE : Fr.bestE z l q line = 0
  · have HA : Hid (Fr.allocE z l q line = Fr.takeE z l (Fr.bestA z l q line, q) ∧ Fr.allocL z l q line = Fr.takeL z l (Fr.bestA z l q line, q) ∧ Fr.allocZ z l q line = Fr.takeZ z l (Fr.bestA z l q line, q)) := ⟨if_pos hE, if_pos hE, if_pos hE⟩
    have HE : Hid (Fr.bestE z l q line = 0) := hE
    have hin := Fr.bestA_in (z := z) (l := l) (q := q) (line := line)
    rw [HA.out.1, HA.out.2.1, HA.out.2.2]
    obtain ⟨A, hA⟩ : ∃ A, Fr.bestA z l q line = A := ⟨_, rfl⟩
    rw [hA] at hin ⊢
    have HAA : Hid (Fr.bestA z l q line = A) := hA
    clear hE HA hA
    go_enter Try.func13, Try.ntmps13
    go_wp2_with fail
    refine (refBest_u _ P z a n c l (Rep.below HR.out B1.out) q line hq hl2).mono ?_
    rintro e w2 ⟨rfl, b2⟩
    have B2 : Hid (Below w.heap.size w w2) := on B1.out b2
    have HW0 : Hid (Row w2 w.heap.size 24 [.int .i64 z, .slice a n c]) := HV0.out.below b2
    have HW1 : Hid (Row w2 (w.heap.size + 1) 24 [.int .i64 0, .slice none 0 0]) := HV1.out.below b2
    obtain ⟨f0, f1⟩ := HW0.out.two
    rw [HE.out, HAA.out]
    have HX : Hid (In2 (A, q)) := by unfold Hid In2 In64; simp only; omega
    clear b2 d0 d1 HE
    go_wp2_with fail
    refine (refTake_u _ P z a n c l (Rep.below HR.out B2.out) (A, q) HX.out).mono ?_
    rintro e w3 ⟨v3, rfl, ho3, b3⟩
    have B3 : Hid (Below w.heap.size w w3) := on B2.out b3
    have HO3 : Hid (OwnS _ _ _ _ _) := ho3
    obtain ⟨a3, c3, hv3, -, -⟩ := ho3.slice
    subst hv3
    have HX1 : Hid (Row w3 (w.heap.size + 1) 24 [.int .i64 0, .slice none 0 0]) := HW1.out.below b3
    have HZ3 : Hid (w.heap.size + 1 < w2.heap.size) := HW1.out.lt
    obtain ⟨w4, hw4, V4, b4, z4⟩ := boxedRow w3 24 [.int .i64 (Fr.takeZ z l (A, q)), .slice a3 (Fr.takeL z l (A, q)).length c3]
    have hw4' : w4 = w3.alloc (.cells #[.int .i64 (Fr.takeZ z l (A, q)), .slice a3 (Fr.takeL z l (A, q)).length c3] 24) := hw4.symm
    have B4 : Hid (Below w.heap.size w w4) := on B3.out b4
    have HX4 : Hid (Row w4 (w.heap.size + 1) 24 [.int .i64 0, .slice none 0 0]) := HX1.out.below b4
    have HO4 : Hid (OwnS 26 w4 w2.heap.size (.slice a3 (Fr.takeL z l (A, q)).length c3) (Fr.takeL z l (A, q))) := HO3.out.below b4
    obtain ⟨r0, r1⟩ := HX4.out.two
    have r2 := HX4.out.frozen 0
    have r3 := HX4.out.frozen 1
    have x1 := V4.two.1
    have x2 := V4.two.2
    clear ho3 b3 V4 b4 z4 f0 f1 hw4
    subst hw4'
    go_wp2
    refine st_ret3 HX4.out B4.out (by omega) _ _ _ _ rfl rfl rfl rfl Try.underlying24 rfl (by kernel_rfl) ?_
    intro w' K' B'
    exact ⟨_, rfl, (HO4.out.keptR K' HZ3.out).mono B2.out.size, B'⟩
  · have HA : Hid (Fr.allocE z l q line = Fr.bestE z l q line ∧ Fr.allocL z l q line = [] ∧ Fr.allocZ z l q line = 0) := ⟨if_neg hE, if_neg hE, if_neg hE⟩
    have HA0 : Hid (Fr.bestA z l q line = 0) := if_neg hE
    rw [HA.out.1, HA.out.2.1, HA.out.2.2, HA0.out]
    obtain ⟨E, hEE⟩ : ∃ E, Fr.bestE z l q line = E := ⟨_, rfl⟩
    rw [hEE] at hE ⊢
    have HEE : Hid _ := hEE
    have hE' : (E == 0) = false := beq_eq_false_iff_ne.2 hE
    clear hEE HA
    go_enter Try.func13, Try.ntmps13
    go_wp2_with fail
    refine (refBest_u _ P z a n c l (Rep.below HR.out B1.out) q line hq hl2).mono ?_
    rintro e w2 ⟨rfl, b2⟩
    rw [HEE.out, HA0.out]
    have B2 : Hid (Below w.heap.size w w2) := on B1.out b2
    have HW1 : Hid (Row w2 (w.heap.size + 1) 24 [.int .i64 0, .slice none 0 0]) := HV1.out.below b2
    obtain ⟨r0, r1⟩ := HW1.out.two
    have r2 := HW1.out.frozen 0
    have r3 := HW1.out.frozen 1
    clear b2
    go_wp2
    refine st_ret3 HW1.out B2.out (by omega) _ _ _ _ rfl rfl rfl rfl Try.underlying24 rfl (by kernel_rfl) ?_
    intro w' K' B'
    exact ⟨_, rfl, OwnS.nil _ _ _, B'⟩

end Go.Proofs.Ytbbjbajdoekheaa
