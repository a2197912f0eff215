/-
  The contract of the error as a number. Conditions: those that it names.
-/
import Derived.Test.YtdgnkpmjjapmpaaBytes
namespace Go.Proofs.Ytdgnkpmjjapmpaa
open Go.RowKit
set_option linter.unusedVariables false

end Go.Proofs.Ytdgnkpmjjapmpaa
