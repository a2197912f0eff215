/-
  Maps of owners, references and counts as they lie in cells; what a law's walk is told of such arguments. Conditions: none.
-/
import Derived.Test.YtinlgoljaiolnabRows
import Derived.Test.YtinlgoljaiolnabROpen
import Derived.Test.YtinlgoljaiolnabNWho
import Derived.ProofKit
import Derived.OpenShut
import Derived.ShutString
import Derived.ChangeOld
import Derived.SizedLaws
namespace Go.Proofs.Ytinlgoljaiolnab
open Go.ChangeShapes Go.WideShapes Go.ChangeAt Go.RowKit

def rMp : Rep Mpr := rPair rInt rExts
def rMps : Rep (List Mpr) := rList rMp (by decide)
def rRfr : Rep Rfr := rPair rInt (rPair rInt (rPair rInt rInt))
def rRfrs : Rep (List Rfr) := rList rRfr (by decide)
def rCnr : Rep Cnr := rPair rInt (rPair rInt rInt)
def rCnrs : Rep (List Cnr) := rList rCnr (by decide)

theorem own : ownKnob Try.prog.godebug = none := by kernel_rfl
theorem laidOut : laidOutB Try.prog = true := by kernel_rfl

theorem opens_ext : Opens Try.prog 43 rExt :=
  opens_struct Try.underlying43 (by kernel_rfl) (opens_field rfl (by kernel_rfl) (opens_int Try.underlying3) (opens_field rfl (by kernel_rfl) (opens_int Try.underlying3) (opens_last rfl (by kernel_rfl) (opens_int Try.underlying3))))

theorem opens_span : Opens Try.prog 24 rSpn :=
  opens_struct Try.underlying24 (by kernel_rfl) (opens_field rfl (by kernel_rfl) (opens_int Try.underlying3) (opens_last rfl (by kernel_rfl) (opens_int Try.underlying3)))

theorem opens_exts : Opens Try.prog 22 rExts := opens_list Try.underlying22 (by kernel_rfl) (by kernel_rfl) opens_ext

end Go.Proofs.Ytinlgoljaiolnab
