/-
  What a law's walk is told of its arguments: superblocks and octets. Conditions: none.
-/
import Derived.Test.YtdgnkpmjjapmpaaRows
import Derived.Test.YtdgnkpmjjapmpaaROpen
import Derived.Test.YtdgnkpmjjapmpaaHSpec
import Derived.Test.YtdgnkpmjjapmpaaSSpec
import Derived.ProofKit
import Derived.OpenShut
import Derived.ShutString
import Derived.ChangeOld
import Derived.SizedLaws
namespace Go.Proofs.Ytdgnkpmjjapmpaa
open Go.ChangeShapes Go.WideShapes Go.ChangeAt Go.RowKit

theorem own : ownKnob Try.prog.godebug = none := by kernel_rfl
theorem laidOut : laidOutB Try.prog = true := by kernel_rfl

theorem opens_octets : Opens Try.prog 24 rBytes := opens_list Try.underlying24 (by kernel_rfl) (by kernel_rfl) (opens_byte Try.underlying5)
theorem opens_super : Opens Try.prog 23 rSuper :=
  opens_struct Try.underlying23 (by kernel_rfl) (opens_field rfl (by kernel_rfl) (opens_int Try.underlying3) (opens_field rfl (by kernel_rfl) (opens_int Try.underlying3) (opens_field rfl (by kernel_rfl) (opens_int Try.underlying3) (opens_field rfl (by kernel_rfl) (opens_int Try.underlying3) (opens_field rfl (by kernel_rfl) (opens_int Try.underlying3) (opens_field rfl (by kernel_rfl) (opens_int Try.underlying3) (opens_last rfl (by kernel_rfl) (opens_int Try.underlying3))))))))

end Go.Proofs.Ytdgnkpmjjapmpaa
