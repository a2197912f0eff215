/-
  The contract of whether two lists of octets are one. Conditions: those that it names.
-/
import Derived.Test.YtckcicomkapdeaaRLists
namespace Go.Proofs.Ytckcicomkapdeaa
open Go.RowKit
set_option linter.unusedVariables false

set_option maxHeartbeats 800000 in
theorem sameList_r (w : World) (P Q : Nat → Prop) (a b : Option Addr) (n c m d : Nat) (L K : List (List UInt8)) (hA : rSectors.rd w P [.slice a n c] L) (hB : rSectors.rd w Q [.slice b m d] K) :
    Calls Try.prog 29 #[.slice a n c, .slice b m d] w fun e w' => e = .returned (.bool (L == K)) ∧ Below w.heap.size w w' := by
  obtain ⟨hn, hn2⟩ := rSectors_len hA
  obtain ⟨hm, hm2⟩ := rSectors_len hB
  have HN : Hid _ := hn
  have HM : Hid _ := hm
  clear hn hm
  by_cases hnm : n = m
  case neg =>
    have hf : (L == K) = false := beq_eq_false_iff_ne.2 (fun e => hnm (by rw [← HN.out, ← HM.out, e]))
    have hne : ((n : Int) != (m : Int)) = true := bne_iff_ne.2 (by omega)
    rw [hf]
    go_enter Try.func29, Try.ntmps29
    go_wp2
    go_ret
    exact ⟨rfl, Below.refl _ _⟩
  subst hnm
  go_enter Try.func29, Try.ntmps29
  go_wp2
  go_loopw [5] (fun i wr => ∃ k : Nat, k ≤ n ∧ i = .int .i64 k ∧ Hid (L.take k = K.take k) ∧ Below w.heap.size w wr) (fun i _ => n - (intOf i).toNat)
  case atStart => exact ⟨0, Nat.zero_le _, rfl, by unfold Hid; simp, Below.refl _ _⟩
  case round =>
    obtain ⟨k, hk, rfl, HK, bel⟩ := hrel
    by_cases hlt : k < n
    · have hAr := Rep.below hA bel
      have hBr := Rep.below hB bel
      obtain ⟨g, off, rfl, -, -, hat⟩ := rLists_at hAr (by omega)
      obtain ⟨g', off', rfl, -, -, hbt⟩ := rLists_at hBr (by omega)
      have hkl : k < L.length := by rw [HN.out]; exact hlt
      have hkk : k < K.length := by rw [HM.out]; exact hlt
      obtain ⟨x, l, e, hx, -, hcell⟩ := hat k hkl
      obtain ⟨x', l', e', hx', -, hcell'⟩ := hbt k hkk
      have e1 := conv_bytes wr.drew x l e _ (rBytes_isB hx).1
      have e2 := conv_bytes wr.drew x' l' e' _ (rBytes_isB hx').1
      have HNX : Hid (L.take (k + 1) = L.take k ++ [L[k]]) := List.take_succ_eq_append_getElem hkl
      have HNK : Hid (K.take (k + 1) = K.take k ++ [K[k]]) := List.take_succ_eq_append_getElem hkk
      have HNE : Hid (L[k] ≠ K[k] → L ≠ K) := fun h e => h (by subst e; rfl)
      clear hat hbt hx hx' hAr hBr
      generalize L[k] = X at *
      generalize K[k] = Y at *
      go_wp2
      go_cut [27] (fun t wx => t = .bool (X != Y) ∧ wx = wr.drew)
      case first =>
        go_region_with fail
        all_goals (try go_wp2_with fail)
        all_goals go_meet
        all_goals exact ⟨rfl, rfl⟩
      case rest =>
        obtain ⟨rfl, rfl⟩ := hcut
        clear e1 e2 hcell hcell'
        by_cases hxy : X = Y
        · have hne : (X != Y) = false := by rw [hxy]; exact bne_self_eq_false _
          have HXY : Hid _ := hxy
          rw [hne]
          clear hxy hne
          go_wp2
          go_roundw
          case rel => exact ⟨k + 1, by omega, by go_num, by unfold Hid; rw [HNX.out, HNK.out, HK.out, HXY.out], bel.drew⟩
          case measure => simp [intOf]; omega
        · have hne : (X != Y) = true := bne_iff_ne.2 hxy
          have HF : Hid ((L == K) = false) := beq_eq_false_iff_ne.2 (HNE.out hxy)
          rw [hne]
          clear hxy hne
          go_wp2
          go_ret
          exact ⟨by rw [HF.out]; rfl, bel.drew⟩
    · obtain rfl : k = n := by omega
      have e : L = K := by
        have := HK.out
        rwa [List.take_of_length_le (by rw [HN.out]; exact Nat.le_refl _), List.take_of_length_le (by rw [HM.out]; exact Nat.le_refl _)] at this
      have E : Hid _ := e
      clear e
      go_wp2
      go_ret
      exact ⟨by rw [E.out]; simp, bel⟩

end Go.Proofs.Ytckcicomkapdeaa
