/-
  The landed refs: whether maps of owners may be. Conditions: those that each contract names.
-/
import Derived.Test.YtinlgoljaiolnabNMps
import Derived.Test.YtinlgoljaiolnabXD
namespace Go.Proofs.Ytinlgoljaiolnab
open Go.RowKit
set_option linter.unusedVariables false

set_option maxHeartbeats 800000 in
theorem isOwner_u (w : World) (n : Int) (r : Bool) (hr : decide (0 ≤ n ∧ n ≤ 255) = r) : Calls Try.prog 25 #[.int .i64 n] w fun e w' => e = .returned (.bool r) ∧ w = w' := by
  subst hr
  have HF : Hid (decide (0 ≤ n ∧ n ≤ 255) = true ↔ 0 ≤ n ∧ n ≤ 255) := by unfold Hid; exact ⟨fun h => of_decide_eq_true h, fun h => decide_eq_true h⟩
  generalize decide (0 ≤ n ∧ n ≤ 255) = r at *
  go_enter Try.func25, Try.ntmps25
  go_wp2
  all_goals go_ret
  all_goals refine ⟨ret_flag ?_, rfl⟩
  all_goals rw [HF.out]
  all_goals first
    | omega
    | (simp only [decide_eq_true_eq]; omega)
    | (simp only [Bool.false_eq_true, false_iff]; omega)

/-- How far the check has come: the owner ahead, and what is left to be asked. -/
structure Rf.Came (M : List Mpr) (k : Nat) (p : Int) : Prop where
  first : k = 0 → p = -1
  prev : ∀ i (h : i < M.length), i + 1 = k → M[i].1 = p
  left : Rf.maysM (-1) M = Rf.maysM p (M.drop k)

theorem Rf.Came.step {M : List Mpr} {k : Nat} {p : Int} (h : Rf.Came M k p) (hk : k < M.length) : Rf.maysM (-1) M = (decide (0 ≤ M[k].1 ∧ M[k].1 ≤ 255 ∧ p < M[k].1 ∧ Ex.checkE M[k].2 = 0) && Rf.maysM M[k].1 (M.drop (k + 1))) := by
  rw [h.left, List.drop_eq_getElem_cons hk]
  rfl
theorem Rf.Came.next {M : List Mpr} {k : Nat} {p : Int} (h : Rf.Came M k p) (hk : k < M.length) (ho : 0 ≤ M[k].1 ∧ M[k].1 ≤ 255 ∧ p < M[k].1 ∧ Ex.checkE M[k].2 = 0) : Rf.Came M (k + 1) M[k].1 :=
  ⟨fun e => by omega, fun i hi e => by obtain rfl : i = k := by omega
                                       rfl, by rw [h.step hk, decide_eq_true ho, Bool.true_and]⟩
theorem Rf.Came.no {M : List Mpr} {k : Nat} {p : Int} (h : Rf.Came M k p) (hk : k < M.length) (ho : ¬ (0 ≤ M[k].1 ∧ M[k].1 ≤ 255 ∧ p < M[k].1 ∧ Ex.checkE M[k].2 = 0)) : Rf.checkM M = 9 := by
  refine Rf.checkM_nine (fun hh => ?_)
  have := hh.2
  rw [h.step hk, decide_eq_false ho, Bool.false_and] at this
  cases this

set_option maxRecDepth 20000 in
set_option maxHeartbeats 8000000 in
theorem refsCheck_u (w : World) (P : Nat → Prop) (a : Option Addr) (n c : Nat) (M : List Mpr) (hM : rMps.rd w P [.slice a n c] M) :
    Calls Try.prog 18 #[.slice a n c] w fun e w' => e = .returned (.int .i64 (Rf.checkM M)) ∧ Below w.heap.size w w' := by
  obtain ⟨hl, hnc, hnil, hb⟩ := rList_len hM
  have HL : Hid (M.length = n) := hl
  have HM : Hid (rMps.rd w P [.slice a n c] M) := hM
  clear hl hnc hnil hb hM
  by_cases h9 : 9 < n
  · have E9 : Hid (Rf.checkM M = 9) := Rf.checkM_nine (fun h => by have := h.1; rw [HL.out] at this; omega)
    go_enter Try.func18, Try.ntmps18
    go_wp2
    go_ret
    exact ⟨by rw [E9.out]; rfl, Below.refl _ _⟩
  go_enter Try.func18, Try.ntmps18
  go_wp2
  go_loopw [11] (fun i wr => ∃ k : Nat, k ≤ n ∧ i = .int .i64 k ∧ Hid (∃ p, Rf.Came M k p) ∧ Below w.heap.size w wr) (fun i _ => n - (intOf i).toNat)
  case atStart => exact ⟨0, Nat.zero_le _, rfl, ⟨-1, fun _ => rfl, fun i _ e => by omega, rfl⟩, Below.refl _ _⟩
  case round =>
    obtain ⟨k, hk, rfl, HK, bel⟩ := hrel
    by_cases hlt : k < n
    · have hkl : k < M.length := by rw [HL.out]; exact hlt
      have hAr := Rep.below HM.out bel
      obtain ⟨g, off, rfl, -, hgl, hat⟩ := rMps_at hAr (by omega)
      obtain ⟨a1, n1, k1, c0, c1, hrx, hi64⟩ := hat k hkl
      obtain ⟨p, hp⟩ := HK.out
      have HP : Hid (Rf.Came M k p) := hp
      have HNO : Hid (¬ (0 ≤ M[k].1 ∧ M[k].1 ≤ 255 ∧ p < M[k].1 ∧ Ex.checkE M[k].2 = 0) → Rf.checkM M = 9) := hp.no hkl
      have HNX : Hid ((0 ≤ M[k].1 ∧ M[k].1 ≤ 255 ∧ p < M[k].1 ∧ Ex.checkE M[k].2 = 0) → Rf.Came M (k + 1) M[k].1) := hp.next hkl
      have HPr : Hid (∀ m, m + 1 = k → ∀ hm : m < M.length, M[m].1 = p) := fun m e hm => hp.prev m hm e
      have HP0 : Hid (k = 0 → p = -1) := hp.first
      have HAT : Hid _ := hat
      generalize hO : M[k].1 = O at *
      generalize hX : M[k].2 = X at *
      clear hO hX hp
      obtain ⟨w1, hw1, V1, b1, z1⟩ := boxedRow wr 31 [.int .i64 O, .slice a1 n1 k1]
      obtain ⟨d0, d1⟩ : w1.cell? ⟨wr.heap.size, 0, none⟩ = some (.int .i64 O) ∧ w1.cell? ⟨wr.heap.size, 1, none⟩ = some (.slice a1 n1 k1) := ⟨V1.cell (j := 0) rfl, V1.cell (j := 1) rfl⟩
      have HV1 : Hid (Row w1 wr.heap.size 31 [.int .i64 O, .slice a1 n1 k1]) := V1
      have B1 : Hid (Below w.heap.size w w1) := on bel b1
      have HX1 : Hid (rExts.rd w1 P [.slice a1 n1 k1] X) := Rep.below hrx b1
      have hkz : (k : Int) < (n : Int) := by omega
      have HBd : Hid (Below wr.heap.size wr w1) := b1
      have HXd : Hid (rExts.rd w1.drew P [.slice a1 n1 k1] X) := rExts.keep HX1.out (fun _ _ _ => rfl)
      clear V1 z1 hrx hAr bel hi64
      cases k with
      | zero =>
        simp only [Nat.zero_mul, Nat.add_zero] at c0 c1
        obtain rfl : p = -1 := HP0.out rfl
        cases eo : decide (0 ≤ O ∧ O ≤ 255)
        · have E9 : Hid (Rf.checkM M = 9) := HNO.out (fun h => absurd (And.intro h.1 h.2.1) (of_decide_eq_false eo))
          go_wp2_with fail
          go_region
          go_wp2_with fail
          refine (isOwner_u _ _ _ eo).mono ?_
          rintro e w9 ⟨rfl, rfl⟩
          go_wp2
          go_ret
          exact ⟨by rw [E9.out]; rfl, B1.out.drew⟩
        have HOW : Hid (0 ≤ O ∧ O ≤ 255) := (of_decide_eq_true eo : 0 ≤ O ∧ O ≤ 255)
        have HRI : Hid ((-1 : Int) < O) := by have := HOW.out.1; unfold Hid; omega
        by_cases hxo : Ex.checkE X = 0
        · have HN : Hid (∃ p, Rf.Came M (0 + 1) p) := ⟨O, HNX.out ⟨HOW.out.1, HOW.out.2, HRI.out, hxo⟩⟩
          have HX0 : Hid (Ex.checkE X = 0) := hxo
          clear hxo
          go_wp2_with fail
          go_region
          go_wp2_with fail
          refine (isOwner_u _ _ _ eo).mono ?_
          rintro e w9 ⟨rfl, rfl⟩
          go_wp2_with fail
          refine (extCheck_u _ P _ _ _ X HXd.out).mono ?_
          rintro e w2 ⟨rfl, b2⟩
          rw [HX0.out]
          have B2 : Hid (Below w.heap.size w w2) := on B1.out.drew b2
          clear b2
          go_wp2
          go_roundw
          case rel => exact ⟨0 + 1, by omega, by go_num, HN, B2.out⟩
          case measure => simp [intOf]; omega
        · have E9 : Hid (Rf.checkM M = 9) := HNO.out (fun h => hxo h.2.2.2)
          have HX9 : Hid (Ex.checkE X = 9) := Ex.checkE_no (fun h => hxo (Ex.checkE_ok h))
          clear hxo
          go_wp2_with fail
          go_region
          go_wp2_with fail
          refine (isOwner_u _ _ _ eo).mono ?_
          rintro e w9 ⟨rfl, rfl⟩
          go_wp2_with fail
          refine (extCheck_u _ P _ _ _ X HXd.out).mono ?_
          rintro e w2 ⟨rfl, b2⟩
          rw [HX9.out]
          have B2 : Hid (Below w.heap.size w w2) := on B1.out.drew b2
          clear b2
          go_wp2
          go_ret
          exact ⟨by rw [E9.out]; rfl, B2.out⟩
      | succ m =>
        obtain ⟨aq, nq', cq, q0, -, -, -⟩ := HAT.out m (by omega)
        rw [HPr.out m rfl (by omega)] at q0
        have p0 := (HBd.out.cell (p := ⟨g, off + m * 2, none⟩) hgl).trans q0
        have hm1 : (m : Int) < (n : Int) := by omega
        have hm0 : ((m : Int) + 1 == 0) = false := by rw [beq_eq_false_iff_ne]; omega
        clear q0
        cases eo : decide (0 ≤ O ∧ O ≤ 255)
        · have E9 : Hid (Rf.checkM M = 9) := HNO.out (fun h => absurd (And.intro h.1 h.2.1) (of_decide_eq_false eo))
          go_wp2_with fail
          go_region
          go_wp2_with fail
          refine (isOwner_u _ _ _ eo).mono ?_
          rintro e w9 ⟨rfl, rfl⟩
          go_wp2
          go_ret
          exact ⟨by rw [E9.out]; rfl, B1.out.drew⟩
        have HOW : Hid (0 ≤ O ∧ O ≤ 255) := (of_decide_eq_true eo : 0 ≤ O ∧ O ≤ 255)
        by_cases hri : p < O
        · have HRI : Hid (p < O) := hri
          by_cases hxo : Ex.checkE X = 0
          · have HN : Hid (∃ p, Rf.Came M (m + 1 + 1) p) := ⟨O, HNX.out ⟨HOW.out.1, HOW.out.2, HRI.out, hxo⟩⟩
            have HX0 : Hid (Ex.checkE X = 0) := hxo
            clear hxo
            go_wp2_with fail
            go_region
            go_wp2_with fail
            refine (isOwner_u _ _ _ eo).mono ?_
            rintro e w9 ⟨rfl, rfl⟩
            go_wp2_with fail
            refine (extCheck_u _ P _ _ _ X HXd.out).mono ?_
            rintro e w2 ⟨rfl, b2⟩
            rw [HX0.out]
            have B2 : Hid (Below w.heap.size w w2) := on B1.out.drew b2
            clear b2
            go_wp2
            go_roundw
            case rel => exact ⟨m + 1 + 1, by omega, by go_num, HN, B2.out⟩
            case measure => simp [intOf]; omega
          · have E9 : Hid (Rf.checkM M = 9) := HNO.out (fun h => hxo h.2.2.2)
            have HX9 : Hid (Ex.checkE X = 9) := Ex.checkE_no (fun h => hxo (Ex.checkE_ok h))
            clear hxo
            go_wp2_with fail
            go_region
            go_wp2_with fail
            refine (isOwner_u _ _ _ eo).mono ?_
            rintro e w9 ⟨rfl, rfl⟩
            go_wp2_with fail
            refine (extCheck_u _ P _ _ _ X HXd.out).mono ?_
            rintro e w2 ⟨rfl, b2⟩
            rw [HX9.out]
            have B2 : Hid (Below w.heap.size w w2) := on B1.out.drew b2
            clear b2
            go_wp2
            go_ret
            exact ⟨by rw [E9.out]; rfl, B2.out⟩
        · have E9 : Hid (Rf.checkM M = 9) := HNO.out (fun h => hri h.2.2.1)
          go_wp2_with fail
          go_region
          go_wp2_with fail
          refine (isOwner_u _ _ _ eo).mono ?_
          rintro e w9 ⟨rfl, rfl⟩
          go_wp2
          go_ret
          exact ⟨by rw [E9.out]; rfl, B1.out.drew⟩
    · obtain rfl : k = n := by omega
      have E0 : Hid (Rf.checkM M = 0) := Rf.checkM_zero.2 ⟨by rw [HL.out]; omega, by
        obtain ⟨p, hp⟩ := HK.out
        rw [hp.left, List.drop_eq_nil_of_le (by rw [HL.out]; exact Nat.le_refl _)]
        rfl⟩
      go_wp2
      go_ret
      exact ⟨by rw [E0.out]; rfl, bel⟩

end Go.Proofs.Ytinlgoljaiolnab
