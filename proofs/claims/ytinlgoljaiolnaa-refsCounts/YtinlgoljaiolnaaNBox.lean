/-
  Boxes of two cells, and worlds that have drawn. Conditions: those that each lemma names.
-/
import Derived.Test.YtinlgoljaiolnaaNAlive
import Derived.Test.YtinlgoljaiolnaaNOf2
import Derived.Test.YtinlgoljaiolnaaNLaw
import Derived.Test.YtinlgoljaiolnaaREB
import Derived.BigQuiet
namespace Go.Proofs.Ytinlgoljaiolnaa
open Go.RowKit
set_option linter.unusedVariables false

theorem Row.two9 {w : World} {b : Nat} {t : TypeId} {u v : Value} (h : Row w b t [u, v]) : w.cell? ⟨b, 0, none⟩ = some u ∧ w.cell? ⟨b, 1, none⟩ = some v := ⟨h.cell (j := 0) rfl, h.cell (j := 1) rfl⟩

/-- Maps copied, in a region that draws. -/
theorem of9_d (w : World) (P : Nat → Prop) (hP : ∀ b, P b → b < w.heap.size) (a : Option Addr) (n c : Nat) (M : List Mpr) (hM : rMps.rd w P [.slice a n c] M) :
    Calls Try.prog 9 #[.slice a n c] w.drew fun e w' => ∃ a' c', e = .returned (.slice a' n c') ∧ rMps.rd w' (fun b => w.heap.size ≤ b) [.slice a' n c'] M ∧ Below w.heap.size w w' := by
  refine (of9_u w.drew P hP a n c M (rMps.keep hM (fun _ _ _ => rfl))).mono ?_
  rintro e w' ⟨a', c', rfl, hr, b⟩
  exact ⟨a', c', rfl, hr, below_drew_pre b⟩

end Go.Proofs.Ytinlgoljaiolnaa
