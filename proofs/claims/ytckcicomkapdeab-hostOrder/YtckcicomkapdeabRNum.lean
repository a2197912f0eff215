/-
  The contract of an error as a number. Conditions: none.
-/
import Derived.Test.YtckcicomkapdeabRows
import Derived.Test.YtckcicomkapdeabRHBase
namespace Go.Proofs.Ytckcicomkapdeab
open Go.RowKit

theorem num_u (w : World) (n : Int) : Calls Try.prog 8 #[.int .i64 n] w fun e w' => e = .returned (.int .i64 n) ∧ w = w' := by
  go_enter Try.func8, Try.ntmps8
  go_wp2
  go_ret
  exact ⟨rfl, rfl⟩

end Go.Proofs.Ytckcicomkapdeab
