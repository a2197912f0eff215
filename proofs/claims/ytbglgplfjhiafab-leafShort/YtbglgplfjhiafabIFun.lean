/-
  The plain package over lists of items and of kids; the document's own Way. Conditions: those that each contract names.
-/
import Derived.Test.YtbglgplfjhiafabIBase
namespace Go.Proofs.Ytbglgplfjhiafab
open Go.RowKit
set_option linter.unusedVariables false

theorem Lf.way_next {l : List Itm} {k : Nat} (hk : k < l.length) (key : UInt64) : ((l.take (k + 1)).filter fun x => decide (x.1.toNat ≤ key.toNat)).length = ((l.take k).filter fun x => decide (x.1.toNat ≤ key.toNat)).length + (if l[k].1.toNat ≤ key.toNat then 1 else 0) := by
  rw [List.take_succ_eq_append_getElem hk, List.filter_append, List.length_append]
  congr 1
  by_cases c : l[k].1.toNat ≤ key.toNat
  · rw [if_pos c]; simp [c]
  · rw [if_neg c]; simp [c]

end Go.Proofs.Ytbglgplfjhiafab
