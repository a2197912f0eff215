/-
  The contract of the error as a number. Conditions: those that it names.
-/
import Derived.Test.YtdgnkpmjjapmpabBytes
namespace Go.Proofs.Ytdgnkpmjjapmpab
open Go.RowKit
set_option linter.unusedVariables false

end Go.Proofs.Ytdgnkpmjjapmpab
