/-
  What a law's walk is told of its arguments: superblocks and octets. Conditions: none.
-/
import Derived.Test.YtdgnkpmjjapmpabRows
import Derived.Test.YtdgnkpmjjapmpabROpen
import Derived.Test.YtdgnkpmjjapmpabHSpec
import Derived.Test.YtdgnkpmjjapmpabSSpec
import Derived.ProofKit
import Derived.OpenShut
import Derived.ShutString
import Derived.ChangeOld
import Derived.SizedLaws
namespace Go.Proofs.Ytdgnkpmjjapmpab
open Go.ChangeShapes Go.WideShapes Go.ChangeAt Go.RowKit

theorem own : ownKnob Try.prog.godebug = none := by kernel_rfl
theorem laidOut : laidOutB Try.prog = true := by kernel_rfl

theorem opens_octets : Opens Try.prog 25 rBytes := opens_list Try.underlying25 (by kernel_rfl) (by kernel_rfl) (opens_byte Try.underlying5)
theorem opens_super : Opens Try.prog 23 rSuper :=
  opens_struct Try.underlying23 (by kernel_rfl) (opens_field rfl (by kernel_rfl) (opens_int Try.underlying3) (opens_field rfl (by kernel_rfl) (opens_int Try.underlying3) (opens_field rfl (by kernel_rfl) (opens_int Try.underlying3) (opens_field rfl (by kernel_rfl) (opens_int Try.underlying3) (opens_field rfl (by kernel_rfl) (opens_int Try.underlying3) (opens_field rfl (by kernel_rfl) (opens_int Try.underlying3) (opens_last rfl (by kernel_rfl) (opens_int Try.underlying3))))))))

end Go.Proofs.Ytdgnkpmjjapmpab
