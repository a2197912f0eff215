/-
  What a law's walk is told of its arguments: states, spans. Conditions: none.
-/
import Derived.Test.YtbbjbajdoekheaaRows
import Derived.Test.YtbbjbajdoekheaaROpen
import Derived.Test.YtbbjbajdoekheaaFLaw
import Derived.ProofKit
import Derived.OpenShut
import Derived.ShutString
import Derived.ChangeOld
import Derived.SizedLaws
namespace Go.Proofs.Ytbbjbajdoekheaa
open Go.ChangeShapes Go.WideShapes Go.ChangeAt Go.RowKit

theorem own : ownKnob Try.prog.godebug = none := by kernel_rfl
theorem laidOut : laidOutB Try.prog = true := by kernel_rfl

theorem opens_span : Opens Try.prog 26 rSpn :=
  opens_struct Try.underlying26 (by kernel_rfl) (opens_field rfl (by kernel_rfl) (opens_int Try.underlying3) (opens_last rfl (by kernel_rfl) (opens_int Try.underlying3)))

theorem opens_spans : Opens Try.prog 22 rSpns := opens_list Try.underlying22 (by kernel_rfl) (by kernel_rfl) opens_span

theorem opens_state : Opens Try.prog 24 rState :=
  opens_struct Try.underlying24 (by kernel_rfl) (opens_field rfl (by kernel_rfl) (opens_int Try.underlying3) (opens_last rfl (by kernel_rfl) opens_spans))

end Go.Proofs.Ytbbjbajdoekheaa
