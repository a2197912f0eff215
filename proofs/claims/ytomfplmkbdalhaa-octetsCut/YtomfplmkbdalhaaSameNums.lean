/-
  The contract of 'are two lists of numbers one'. Conditions: those that it names.
-/
import Derived.Test.YtomfplmkbdalhaaUnpack
import Derived.Deep.QuietTactic
import Derived.BigQuiet
namespace Go.Proofs.Ytomfplmkbdalhaa
open Go.RowKit
set_option linter.unusedVariables false

set_option maxHeartbeats 800000 in
theorem sameNums_any (w : World) (a b : Option Addr) (n c m d : Nat) (A B : List Nat) (hn : n ≤ maxLen) (hm : m ≤ maxLen) (hA : IsN .u64 w a n (A.map fun (v : Nat) => (v : Int))) (hB : IsN .u64 w b m (B.map fun (v : Nat) => (v : Int))) :
    Calls Try.prog 25 #[.slice a n c, .slice b m d] w fun e w' => e = .returned (.bool (A == B)) ∧ Below w.heap.size w w' := by
  have hAl : A.length = n := by have := hA.1; simpa using this
  have hBl : B.length = m := by have := hB.1; simpa using this
  unfold maxLen at hn hm
  by_cases hnm : n = m
  · subst hnm
    have e1 : ((n : Int) != (n : Int)) = false := bne_self_eq_false _
    go_enter Try.func25, Try.ntmps25
    go_wp2
    go_loopw [5] (fun i wr => ∃ (k : Nat), k ≤ n ∧ i = .int .i64 k ∧ A.take k = B.take k ∧ Below w.heap.size w wr)
      (fun i _ => n - (intOf i).toNat)
    case atStart => exact ⟨0, Nat.zero_le _, rfl, rfl, Below.refl _ _⟩
    case round =>
      obtain ⟨k, hk, rfl, heq, hbel⟩ := hrel
      have HQ : Hid _ := heq
      clear heq
      by_cases hlt : k < n
      · have hkA : k < A.length := by omega
        have hkB : k < B.length := by omega
        obtain ⟨ba, oa, rfl, _, hca⟩ := hA.place (by omega)
        obtain ⟨bb, ob, rfl, _, hcb⟩ := hB.place (by omega)
        have c1 := hca k (by simpa using hkA)
        have c2 := hcb k (by simpa using hkB)
        rw [List.getElem_map] at c1 c2
        have d1 := (hbel.cell (World.block_lt_of_cell? _ _ c1)).trans c1
        have d2 := (hbel.cell (World.block_lt_of_cell? _ _ c2)).trans c2
        clear c1 c2 hca hcb hA hB
        have hs1 := List.take_succ_eq_append_getElem hkA
        have hs2 := List.take_succ_eq_append_getElem hkB
        have S1 : Hid _ := hs1
        have S2 : Hid _ := hs2
        clear hs1 hs2
        generalize hx : A[k] = x at d1 S1
        generalize hy : B[k] = y at d2 S2
        have HX : Hid _ := hx
        have HY : Hid _ := hy
        clear hx hy
        by_cases hxy : x = y
        · subst hxy
          have e2 : ((x : Int) != (x : Int)) = false := bne_self_eq_false _
          go_wp2
          go_region
          all_goals go_wp2
          all_goals go_roundw
          case rel => exact ⟨k + 1, by omega, by go_num, by rw [S1.out, S2.out, HQ.out], hbel.drew⟩
          case measure => simp [intOf]; omega
        · have e2 : ((x : Int) != (y : Int)) = true := by rw [bne_iff_ne]; omega
          go_wp2
          go_region
          all_goals go_wp2
          all_goals go_ret
          have hne : A ≠ B := by
            intro h
            have h1 := HX.out
            have h2 := HY.out
            subst h
            exact hxy (h1.symm.trans h2)
          exact ⟨by rw [beq_eq_false_iff_ne.2 hne]; rfl, hbel.drew⟩
      · have e : k = n := by omega
        subst e
        go_wp2
        go_ret
        have h1 := HQ.out
        rw [List.take_of_length_le (by omega), List.take_of_length_le (by omega)] at h1
        exact ⟨by rw [h1, beq_self_eq_true]; rfl, hbel⟩
  · have e1 : ((n : Int) != (m : Int)) = true := by rw [bne_iff_ne]; omega
    have hne : A ≠ B := by
      intro h
      subst h
      omega
    have HNE : Hid _ := hne
    clear hne
    go_enter Try.func25, Try.ntmps25
    go_wp2
    go_ret
    exact ⟨by rw [beq_eq_false_iff_ne.2 HNE.out]; rfl, Below.refl _ _⟩

end Go.Proofs.Ytomfplmkbdalhaa
