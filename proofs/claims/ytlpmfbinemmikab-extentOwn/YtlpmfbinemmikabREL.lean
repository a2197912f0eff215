/-
  The contract of the document's own Look: what some sectors are. Conditions: those that each contract names.
-/
import Derived.Test.YtlpmfbinemmikabREP
import Derived.Deep.RegionHeldLaw
namespace Go.Proofs.Ytlpmfbinemmikab
open Go.RowKit
set_option linter.unusedVariables false

end Go.Proofs.Ytlpmfbinemmikab
