/-
  The laws' own functions: maps copied for the program, numbers of errors. Conditions: those that each contract names.
-/
import Derived.Test.YtinlgoljaiolnabNMps
import Derived.Test.YtinlgoljaiolnabRPE
import Derived.Test.YtinlgoljaiolnabROwnQ
import Derived.Lib.AppendZeros
namespace Go.Proofs.Ytinlgoljaiolnab
open Go.RowKit
set_option linter.unusedVariables false

theorem num9_u (n : Int) (w : World) : Calls Try.prog 6 #[.int .i64 n] w fun e w' => e = .returned (.int .i64 n) ∧ w = w' := by
  go_enter Try.func6, Try.ntmps6
  go_wp2
  go_ret
  exact ⟨rfl, rfl⟩

theorem elem_map9 : ElemOf Try.prog 32 31 rMp := elemOf (z := .agg #[.int .i64 0, .slice none 0 0]) Try.underlying32 (by kernel_rfl) rfl rfl rfl (by decide)

end Go.Proofs.Ytinlgoljaiolnab
