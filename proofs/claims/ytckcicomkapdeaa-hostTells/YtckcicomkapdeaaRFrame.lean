/-
  What a law's walk is told of its arguments: hosts, octets, lists of bools. Conditions: none.
-/
import Derived.Test.YtckcicomkapdeaaBFrame
import Derived.Test.YtckcicomkapdeaaROpen
import Derived.Test.YtckcicomkapdeaaHSpec
namespace Go.Proofs.Ytckcicomkapdeaa
open Go.ChangeShapes Go.WideShapes Go.ChangeAt Go.RowKit

theorem opens_octets : Opens Try.prog 26 rBytes := opens_list Try.underlying26 (by kernel_rfl) (by kernel_rfl) (opens_byte Try.underlying5)
theorem opens_bools : Opens Try.prog 27 rBools := opens_list Try.underlying27 (by kernel_rfl) (by kernel_rfl) (opens_bool Try.underlying4)
theorem opens_sectors : Opens Try.prog 22 rSectors := opens_list Try.underlying22 (by kernel_rfl) (by kernel_rfl) opens_octets
theorem opens_refAct : Opens Try.prog 63 rAct :=
  opens_struct Try.underlying63 (by kernel_rfl) (opens_field rfl (by kernel_rfl) (opens_int Try.underlying3) (opens_field rfl (by kernel_rfl) (opens_int Try.underlying3) (opens_last rfl (by kernel_rfl) opens_octets)))
theorem opens_refWaits : Opens Try.prog 23 rWaits := opens_list Try.underlying23 (by kernel_rfl) (by kernel_rfl) opens_refAct
theorem opens_refHost : Opens Try.prog 25 rHost :=
  opens_struct Try.underlying25 (by kernel_rfl) (opens_field rfl (by kernel_rfl) opens_sectors (opens_field rfl (by kernel_rfl) opens_refWaits (opens_last rfl (by kernel_rfl) (opens_int Try.underlying3))))

end Go.Proofs.Ytckcicomkapdeaa
