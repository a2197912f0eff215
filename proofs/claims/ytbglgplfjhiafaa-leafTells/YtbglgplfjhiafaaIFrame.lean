/-
  What a law's walk is told of its arguments: nodes. Conditions: none.
-/
import Derived.Test.YtbglgplfjhiafaaRows
import Derived.Test.YtbglgplfjhiafaaROpen
import Derived.Test.YtbglgplfjhiafaaILaw
import Derived.ProofKit
import Derived.OpenShut
import Derived.ShutString
import Derived.ChangeOld
import Derived.SizedLaws
namespace Go.Proofs.Ytbglgplfjhiafaa
open Go.ChangeShapes Go.WideShapes Go.ChangeAt Go.RowKit

theorem own : ownKnob Try.prog.godebug = none := by kernel_rfl
theorem laidOut : laidOutB Try.prog = true := by kernel_rfl

theorem opens_octets : Opens Try.prog 26 rBytes := opens_list Try.underlying26 (by kernel_rfl) (by kernel_rfl) (opens_byte Try.underlying5)

theorem opens_item : Opens Try.prog 53 rItm :=
  opens_struct Try.underlying53 (by kernel_rfl) (opens_field rfl (by kernel_rfl) (opens_u64 Try.underlying27) (opens_last rfl (by kernel_rfl) (opens_u64 Try.underlying27)))

theorem opens_items : Opens Try.prog 22 rItms := opens_list Try.underlying22 (by kernel_rfl) (by kernel_rfl) opens_item

theorem opens_kids : Opens Try.prog 23 rKids := opens_list Try.underlying23 (by kernel_rfl) (by kernel_rfl) (opens_int Try.underlying3)

theorem opens_node : Opens Try.prog 25 rNod :=
  opens_struct Try.underlying25 (by kernel_rfl) (opens_field rfl (by kernel_rfl) opens_items (opens_last rfl (by kernel_rfl) opens_kids))

end Go.Proofs.Ytbglgplfjhiafaa
