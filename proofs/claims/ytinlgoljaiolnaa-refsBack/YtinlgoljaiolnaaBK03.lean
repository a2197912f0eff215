/-
  Facts that the proof rests on, part 4. Conditions: those that each of them names.
-/
import Derived.Deep.RegionLaw
import Derived.Laws.AppendOwnNone
import Derived.Test.YtinlgoljaiolnaaBK00
namespace Go.Proofs.Ytinlgoljaiolnaa
open Go.RowKit
set_option linter.unusedVariables false
def ElemOf {α : Type} (Pr : Program) (t e : TypeId) (A : Rep α) : Prop :=
  Pr.underlying t = some (.slice e) ∧ ∃ i z, Pr.info? e = some i ∧ i.zero = some z ∧ i.size = A.size ∧ i.bytes = A.bytes ∧ z.cells.size = A.size ∧ 0 < A.size
theorem elemOf {α : Type} {Pr : Program} {t e : TypeId} {A : Rep α} {z : Value} {s b : Nat} (h1 : Pr.underlying t = some (.slice e)) (h2 : (Pr.info? e).map (fun i => (i.zero, i.size, i.bytes)) = some (some z, s, b)) (h3 : A.size = s) (h4 : A.bytes = b) (h5 : z.cells.size = s) (h6 : 0 < s) : ElemOf Pr t e A := by
  obtain ⟨i0, hi, hz0, hz1, hz2⟩ := info_parts h2
  exact ⟨h1, i0, z, hi, hz0, by rw [hz1, h3], by rw [hz2, h4], by rw [h5, h3], by omega⟩
end Go.Proofs.Ytinlgoljaiolnaa
