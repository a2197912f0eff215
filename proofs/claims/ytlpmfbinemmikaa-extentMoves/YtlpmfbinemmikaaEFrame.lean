/-
  What a law's walk is told of its arguments: maps of sectors. Conditions: none.
-/
import Derived.Test.YtlpmfbinemmikaaRows
import Derived.Test.YtlpmfbinemmikaaROpen
import Derived.Test.YtlpmfbinemmikaaHSpec
import Derived.Test.YtlpmfbinemmikaaEBase
import Derived.ProofKit
import Derived.OpenShut
import Derived.ShutString
import Derived.ChangeOld
import Derived.SizedLaws
namespace Go.Proofs.Ytlpmfbinemmikaa
open Go.ChangeShapes Go.WideShapes Go.ChangeAt Go.RowKit

theorem own : ownKnob Try.prog.godebug = none := by kernel_rfl
theorem laidOut : laidOutB Try.prog = true := by kernel_rfl

theorem opens_ext : Opens Try.prog 24 rExt :=
  opens_struct Try.underlying24 (by kernel_rfl) (opens_field rfl (by kernel_rfl) (opens_int Try.underlying3) (opens_field rfl (by kernel_rfl) (opens_int Try.underlying3) (opens_last rfl (by kernel_rfl) (opens_int Try.underlying3))))

theorem opens_span : Opens Try.prog 44 rSpn :=
  opens_struct Try.underlying44 (by kernel_rfl) (opens_field rfl (by kernel_rfl) (opens_int Try.underlying3) (opens_last rfl (by kernel_rfl) (opens_int Try.underlying3)))

theorem opens_exts : Opens Try.prog 22 rExts := opens_list Try.underlying22 (by kernel_rfl) (by kernel_rfl) opens_ext

end Go.Proofs.Ytlpmfbinemmikaa
