/-
  Nodes held against one another. Conditions: those that each contract names.
-/
import Derived.Test.YtbglgplfjhiafabIFun
namespace Go.Proofs.Ytbglgplfjhiafab
open Go.RowKit
set_option linter.unusedVariables false

theorem rNod_rd {w : World} {P : Nat → Prop} {cs : List Value} {s : Nod} (h : rNod.rd w P cs s) : ∃ a n c a' n' c', cs = [.slice a n c, .slice a' n' c'] ∧ rItms.rd w P [.slice a n c] s.1 ∧ rKids.rd w P [.slice a' n' c'] s.2 := by
  obtain ⟨_, _, rfl, h1, h2⟩ := h
  obtain ⟨a, n, c, rfl, r⟩ := h1
  obtain ⟨a', n', c', rfl, r'⟩ := h2
  exact ⟨a, n, c, a', n', c', rfl, ⟨a, n, c, rfl, r⟩, ⟨a', n', c', rfl, r'⟩⟩

end Go.Proofs.Ytbglgplfjhiafab
