/-
  What a law's walk is told of its arguments: hosts, octets, lists of bools. Conditions: none.
-/
import Derived.Test.YtckcicomkapdeabBFrame
import Derived.Test.YtckcicomkapdeabROpen
import Derived.Test.YtckcicomkapdeabHSpec
namespace Go.Proofs.Ytckcicomkapdeab
open Go.ChangeShapes Go.WideShapes Go.ChangeAt Go.RowKit

theorem opens_octets : Opens Try.prog 38 rBytes := opens_list Try.underlying38 (by kernel_rfl) (by kernel_rfl) (opens_byte Try.underlying5)
theorem opens_bools : Opens Try.prog 45 rBools := opens_list Try.underlying45 (by kernel_rfl) (by kernel_rfl) (opens_bool Try.underlying4)
theorem opens_sectors : Opens Try.prog 22 rSectors := opens_list Try.underlying22 (by kernel_rfl) (by kernel_rfl) opens_octets
theorem opens_refAct : Opens Try.prog 53 rAct :=
  opens_struct Try.underlying53 (by kernel_rfl) (opens_field rfl (by kernel_rfl) (opens_int Try.underlying3) (opens_field rfl (by kernel_rfl) (opens_int Try.underlying3) (opens_last rfl (by kernel_rfl) opens_octets)))
theorem opens_refWaits : Opens Try.prog 23 rWaits := opens_list Try.underlying23 (by kernel_rfl) (by kernel_rfl) opens_refAct
theorem opens_refHost : Opens Try.prog 25 rHost :=
  opens_struct Try.underlying25 (by kernel_rfl) (opens_field rfl (by kernel_rfl) opens_sectors (opens_field rfl (by kernel_rfl) opens_refWaits (opens_last rfl (by kernel_rfl) (opens_int Try.underlying3))))

end Go.Proofs.Ytckcicomkapdeab
