/-
  The contract of an error as a number. Conditions: none.
-/
import Derived.Test.YtckcicomkapdeaaRows
import Derived.Test.YtckcicomkapdeaaRHBase
namespace Go.Proofs.Ytckcicomkapdeaa
open Go.RowKit

theorem num_u (w : World) (n : Int) : Calls Try.prog 24 #[.int .i64 n] w fun e w' => e = .returned (.int .i64 n) ∧ w = w' := by
  go_enter Try.func24, Try.ntmps24
  go_wp2
  go_ret
  exact ⟨rfl, rfl⟩

end Go.Proofs.Ytckcicomkapdeaa
