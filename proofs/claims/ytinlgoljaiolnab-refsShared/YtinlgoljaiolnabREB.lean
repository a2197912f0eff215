/-
  The contracts of the document's own At and Find of a map. Conditions: those that each contract names.
-/
import Derived.Test.YtinlgoljaiolnabREA
namespace Go.Proofs.Ytinlgoljaiolnab
open Go.RowKit
set_option linter.unusedVariables false

theorem Ex.get_drop {l : List Ext} {k : Nat} (hk : k < l.length) (v : Int) : Ex.get (l.drop k) v = if l[k].1 ≤ v ∧ v < l[k].1 + l[k].2.2 then some (Ex.val l[k] v) else Ex.get (l.drop (k + 1)) v := by
  rw [List.drop_eq_getElem_cons hk]
  rfl

theorem same_drewN {a w : World} {B : Nat} (h : Below B a w) (n : Nat) : Below B a (w.drewN n) := ⟨h.os, h.tape, h.output, h.size, h.block⟩

end Go.Proofs.Ytinlgoljaiolnab
