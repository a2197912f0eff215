/-
  The contracts of the document's own fits, Check, At and Find of a map. Conditions: those that each contract names.
-/
import Derived.Test.YtinlgoljaiolnabRows
import Derived.Test.YtinlgoljaiolnabEBase
import Derived.Test.YtinlgoljaiolnabRBox
import Derived.Deep.QuietTactic
import Derived.BigQuiet
namespace Go.Proofs.Ytinlgoljaiolnab
open Go.RowKit
set_option linter.unusedVariables false

theorem on {w w1 w2 : World} (h : Below w.heap.size w w1) (k : Below w1.heap.size w1 w2) : Below w.heap.size w w2 := h.trans (k.mono h.size)

theorem ret_flag {b c : Bool} (h : b = true ↔ c = true) : Ending.returned (.bool b) = .returned (.bool c) := by rw [Bool.eq_iff_iff.2 h]

theorem step_next {l : List Ext} {k : Nat} {hk : k < l.length} (h : Hid (∀ j (h : j < l.length), j < k → Ex.Step l j h)) (hs : Hid (Ex.Step l k hk)) : Hid (∀ j (h : j < l.length), j < k + 1 → Ex.Step l j h) := by
  intro j hj hlt
  by_cases e : j = k
  · subst e; exact hs
  · exact h.out j hj (by omega)

end Go.Proofs.Ytinlgoljaiolnab
