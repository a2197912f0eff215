/-
  Two superblocks held against one another. Conditions: none.
-/
import Derived.Test.YtdgnkpmjjapmpaaRows
import Derived.Test.YtdgnkpmjjapmpaaSBox
import Derived.Test.YtdgnkpmjjapmpaaREql
namespace Go.Proofs.Ytdgnkpmjjapmpaa
open Go.RowKit
set_option linter.unusedVariables false

def ints7 (s : Super) : List Int := [s.1, s.2.1, s.2.2.1, s.2.2.2.1, s.2.2.2.2.1, s.2.2.2.2.2.1, s.2.2.2.2.2.2]

theorem ints7_eq (s t : Super) : (ints7 s == ints7 t) = decide (s = t) := by
  rw [Bool.eq_iff_iff, beq_iff_eq, decide_eq_true_eq]
  constructor
  · intro h
    simp only [ints7, List.cons.injEq, and_true] at h
    obtain ⟨h1, h2, h3, h4, h5, h6, h7⟩ := h
    exact Prod.ext h1 (Prod.ext h2 (Prod.ext h3 (Prod.ext h4 (Prod.ext h5 (Prod.ext h6 h7)))))
  · intro h
    rw [h]

theorem equal_ref (w : World) (s t : Super) : (Op.equalIn 10000 23 (.agg #[.int .i64 s.1, .int .i64 s.2.1, .int .i64 s.2.2.1, .int .i64 s.2.2.2.1, .int .i64 s.2.2.2.2.1, .int .i64 s.2.2.2.2.2.1, .int .i64 s.2.2.2.2.2.2]) (.agg #[.int .i64 t.1, .int .i64 t.2.1, .int .i64 t.2.2.1, .int .i64 t.2.2.2.1, .int .i64 t.2.2.2.2.1, .int .i64 t.2.2.2.2.2.1, .int .i64 t.2.2.2.2.2.2])).run Try.prog w = .ok (decide (s = t)) w := by
  rw [← ints7_eq]
  exact equal_ints (ti := 3) Try.underlying3 (by kernel_rfl) (by kernel_rfl) 7 (by kernel_rfl) (by kernel_rfl) (by kernel_rfl) w (ints7 s) (ints7 t) rfl rfl

theorem equal_sup (w : World) (s t : Super) : (Op.equalIn 10000 29 (.agg #[.int .i64 s.1, .int .i64 s.2.1, .int .i64 s.2.2.1, .int .i64 s.2.2.2.1, .int .i64 s.2.2.2.2.1, .int .i64 s.2.2.2.2.2.1, .int .i64 s.2.2.2.2.2.2]) (.agg #[.int .i64 t.1, .int .i64 t.2.1, .int .i64 t.2.2.1, .int .i64 t.2.2.2.1, .int .i64 t.2.2.2.2.1, .int .i64 t.2.2.2.2.2.1, .int .i64 t.2.2.2.2.2.2])).run Try.prog w = .ok (decide (s = t)) w := by
  rw [← ints7_eq]
  exact equal_ints (ti := 3) Try.underlying3 (by kernel_rfl) (by kernel_rfl) 7 (by kernel_rfl) (by kernel_rfl) (by kernel_rfl) w (ints7 s) (ints7 t) rfl rfl

end Go.Proofs.Ytdgnkpmjjapmpaa
