/-
  The contract of the document's own Move, at any arguments. Conditions: those that each contract names.
-/
import Derived.Test.YtlpmfbinemmikaaREM
namespace Go.Proofs.Ytlpmfbinemmikaa
open Go.RowKit
set_option linter.unusedVariables false

set_option maxRecDepth 20000 in
theorem refMove_u (w : World) (P : Nat → Prop) (a : Option Addr) (n c : Nat) (l : List Ext) (hL : rExts.rd w P [.slice a n c] l) (x : Spn) (t : Int) :
    Calls Try.prog 24 #[.slice a n c, .agg #[.int .i64 x.1, .int .i64 x.2], .int .i64 t] w fun e w' => ∃ b, e = .returned (.tuple #[b, .int .i64 (Ex.moveE l x t)]) ∧ OwnE 24 w' w.heap.size b (Ex.moveL l x t) ∧ Below w.heap.size w w' := by
  by_cases hO : Ex.Ok l
  · by_cases hs : Ex.Span x t
    · exact refMove_ok w P a n c l hL hO x t hs
    · have e1 : Ex.moveE l x t = 4 := by unfold Ex.moveE; rw [if_pos hO, if_neg hs]
      have e2 : Ex.moveL l x t = [] := if_neg (by rw [e1]; decide)
      rw [e1, e2]
      have HC : Hid _ := Ex.checkE_ok hO
      obtain ⟨w0, hw0, V0, b0, -⟩ := boxedRow w 44 [.int .i64 x.1, .int .i64 x.2]
      have HR : Hid _ := Rep.below hL b0
      have HV0 : Hid (Row w0 w.heap.size 44 [.int .i64 x.1, .int .i64 x.2]) := V0
      have B0 : Hid (Below w.heap.size w w0) := b0
      have HS : Hid _ := hs
      clear hL hO hs e1 e2 V0 b0
      go_enter Try.func24, Try.ntmps24
      go_wp2_with fail
      refine (refCheck5_u _ _ _ _ _ l HR.out).mono ?_
      rintro e w1 ⟨rfl, b1⟩
      rw [HC.out]
      have s0' := (HV0.out.below b1).cell (j := 0) rfl
      have s1' := (HV0.out.below b1).cell (j := 1) rfl
      clear hw0
      by_cases h1 : x.2 < 1
      · go_wp2
        go_ret2
        exact ⟨_, rfl, OwnE.nil _ _ _, on B0.out b1⟩
      · by_cases h2 : Ex.Fits x.1 x.2
        · have HF1 : Hid (decide (Ex.Fits x.1 x.2) = true) := decide_eq_true h2
          have HF2 : Hid (decide (Ex.Fits t x.2) = false) := decide_eq_false (fun h => HS.out ⟨by omega, h2, h⟩)
          clear h2
          go_wp2_with fail
          refine (refFits_u _ _ _ _ HF1.out).mono ?_
          rintro e w9 ⟨rfl, rfl⟩
          go_wp2_with fail
          refine (refFits_u _ _ _ _ HF2.out).mono ?_
          rintro e w9 ⟨rfl, rfl⟩
          go_wp2
          go_ret2
          exact ⟨_, rfl, OwnE.nil _ _ _, on B0.out b1⟩
        · have HF1 : Hid (decide (Ex.Fits x.1 x.2) = false) := decide_eq_false h2
          clear h2
          go_wp2_with fail
          refine (refFits_u _ _ _ _ HF1.out).mono ?_
          rintro e w9 ⟨rfl, rfl⟩
          go_wp2
          go_ret2
          exact ⟨_, rfl, OwnE.nil _ _ _, on B0.out b1⟩
  · have e1 : Ex.moveE l x t = 9 := by unfold Ex.moveE; rw [if_neg hO]
    have e2 : Ex.moveL l x t = [] := if_neg (by rw [e1]; decide)
    rw [e1, e2]
    have HC : Hid _ := Ex.checkE_no hO
    obtain ⟨w0, hw0, V0, b0, -⟩ := boxedRow w 44 [.int .i64 x.1, .int .i64 x.2]
    have HR : Hid _ := Rep.below hL b0
    have B0 : Hid (Below w.heap.size w w0) := b0
    clear hL hO e1 e2 V0 b0
    go_enter Try.func24, Try.ntmps24
    go_wp2_with fail
    refine (refCheck5_u _ _ _ _ _ l HR.out).mono ?_
    rintro e w1 ⟨rfl, b1⟩
    rw [HC.out]
    go_wp2
    go_ret2
    exact ⟨_, rfl, OwnE.nil _ _ _, on B0.out b1⟩

end Go.Proofs.Ytlpmfbinemmikaa
