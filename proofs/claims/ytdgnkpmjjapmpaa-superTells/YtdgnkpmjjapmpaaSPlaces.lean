/-
  The contract of the program's Places of a superblock. Conditions: those that each contract names.
-/
import Derived.Test.YtdgnkpmjjapmpaaSCheck
import Derived.Deep.QuietTactic
namespace Go.Proofs.Ytdgnkpmjjapmpaa
open Go.RowKit
set_option linter.unusedVariables false

set_option maxHeartbeats 1000000 in
theorem places_u (w : World) (P : Nat → Prop) (cs : List Value) (s : Super) (hS : rSuper.rd w P cs s) :
    Calls Try.prog 21 #[.agg cs.toArray] w fun e w' => e = .returned (.tuple #[.int .i64 2, .int .i64 (Sup.atPages s), .int .i64 (Sup.atData s), .int .i64 (Sup.allOf s)]) ∧ Below w.heap.size w w' := by
  obtain ⟨a, b, c, d, e, f, g, rfl, rfl⟩ := rSuper_rd hS
  clear hS
  obtain ⟨w0, hw0, V, b0, -⟩ := boxedRow w 29 [.int .i64 a, .int .i64 b, .int .i64 c, .int .i64 d, .int .i64 e, .int .i64 f, .int .i64 g]
  have c2 := V.cell (j := 2) rfl
  have c3 := V.cell (j := 3) rfl
  have c4 := V.cell (j := 4) rfl
  clear V
  go_enter Try.func21, Try.ntmps21
  go_wp2
  go_quiet (fail)
  go_wp2
  (try simp only [Exit.inBlock, Exit.then])
  refine bodyPost_ret (results_tmp4 rfl _ _ _) rfl ?_
  refine ⟨?_, below_drewN b0 nq⟩
  show Ending.returned (Value.tuple #[.int .i64 2, .int .i64 (wrap64 (2 + c)), .int .i64 (wrap64 (wrap64 (2 + c) + d)), .int .i64 (IntKind.i64.wrap (wrap64 (wrap64 (2 + c) + d) + e))]) = _
  rw [Go.IntWalk.i64_left]
  rfl

end Go.Proofs.Ytdgnkpmjjapmpaa
