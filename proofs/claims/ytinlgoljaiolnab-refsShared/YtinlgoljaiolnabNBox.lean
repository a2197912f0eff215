/-
  Boxes of two cells, and worlds that have drawn. Conditions: those that each lemma names.
-/
import Derived.Test.YtinlgoljaiolnabNAlive
import Derived.Test.YtinlgoljaiolnabNOf2
import Derived.Test.YtinlgoljaiolnabNLaw
import Derived.Test.YtinlgoljaiolnabREB
import Derived.BigQuiet
namespace Go.Proofs.Ytinlgoljaiolnab
open Go.RowKit
set_option linter.unusedVariables false

theorem Row.two9 {w : World} {b : Nat} {t : TypeId} {u v : Value} (h : Row w b t [u, v]) : w.cell? ⟨b, 0, none⟩ = some u ∧ w.cell? ⟨b, 1, none⟩ = some v := ⟨h.cell (j := 0) rfl, h.cell (j := 1) rfl⟩

end Go.Proofs.Ytinlgoljaiolnab
