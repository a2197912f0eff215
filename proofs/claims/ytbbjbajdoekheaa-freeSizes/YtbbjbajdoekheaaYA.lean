/-
  The landed free: sizes, spans, whether a state may be. Conditions: those that each contract names.
-/
import Derived.Test.YtbbjbajdoekheaaFBase
namespace Go.Proofs.Ytbbjbajdoekheaa
open Go.RowKit
set_option linter.unusedVariables false

set_option maxHeartbeats 800000 in
theorem mayBeSize_u (w : World) (z : Int) (r : Bool) (hr : Fr.sizeB z = r) :
    Calls Try.prog 50 #[.int .i64 z] w fun e w' => e = .returned (.bool r) ∧ w = w' := by
  subst hr
  have HF : Hid (Fr.sizeB z = true ↔ 0 ≤ z ∧ z ≤ 65536) := by unfold Hid Fr.sizeB; simp
  generalize Fr.sizeB z = r at *
  go_enter Try.func50, Try.ntmps50
  go_wp2
  all_goals go_ret
  all_goals refine ⟨ret_flag ?_, rfl⟩
  all_goals rw [HF.out]
  all_goals first
    | omega
    | (simp only [decide_eq_true_eq]; omega)
    | (simp only [Bool.false_eq_true, false_iff]; omega)

set_option maxHeartbeats 800000 in
theorem spanEnd_u (w : World) (x : Spn) (hx : In64 (x.1 + x.2)) :
    Calls Try.prog 36 #[.agg #[.int .i64 x.1, .int .i64 x.2]] w fun e w' => e = .returned (.int .i64 (x.1 + x.2)) ∧ Below w.heap.size w w' := by
  unfold In64 at hx
  obtain ⟨w0, hw0, V0, b0, z0⟩ := boxedRow w 26 [.int .i64 x.1, .int .i64 x.2]
  obtain ⟨d0, d1⟩ := V0.two
  have B0 : Hid (Below w.heap.size w w0) := b0
  clear V0 z0 b0
  go_enter Try.func36, Try.ntmps36
  go_wp2
  go_ret
  exact ⟨rfl, B0.out⟩

set_option maxHeartbeats 800000 in
theorem isWithin_u (w : World) (x : Spn) (z : Int) (hx : In2 x) (hz0 : 0 ≤ z) (hz1 : z ≤ 65536) (r : Bool) (hr : Fr.inB z x = r) :
    Calls Try.prog 51 #[.agg #[.int .i64 x.1, .int .i64 x.2], .int .i64 z] w fun e w' => e = .returned (.bool r) ∧ Below w.heap.size w w' := by
  subst hr
  unfold In2 In64 at hx
  obtain ⟨⟨i1, i2⟩, i3, i4⟩ := hx
  have HF : Hid (Fr.inB z x = true ↔ 1 ≤ x.2 ∧ 0 ≤ x.1 ∧ x.1 ≤ z - x.2) := by
    unfold Hid Fr.inB
    simp only [Bool.and_eq_true, decide_eq_true_eq]
    omega
  generalize Fr.inB z x = r at *
  obtain ⟨w0, hw0, V0, b0, z0⟩ := boxedRow w 26 [.int .i64 x.1, .int .i64 x.2]
  obtain ⟨d0, d1⟩ := V0.two
  have B0 : Hid (Below w.heap.size w w0) := b0
  clear V0 z0 b0
  go_enter Try.func51, Try.ntmps51
  go_wp2
  all_goals go_ret
  all_goals refine ⟨ret_flag ?_, B0.out⟩
  all_goals rw [HF.out]
  all_goals first
    | omega
    | (simp only [decide_eq_true_eq]; omega)
    | (simp only [Bool.false_eq_true, false_iff]; omega)

end Go.Proofs.Ytbbjbajdoekheaa
