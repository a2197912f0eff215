/-
  The contract of octets copied by the document's own words. Conditions: those that it names.
-/
import Derived.Test.YtckcicomkapdeaaRBytes
import Derived.Test.YtckcicomkapdeaaBCopied
namespace Go.Proofs.Ytckcicomkapdeaa
open Go.RowKit
set_option linter.unusedVariables false

theorem copied_r (w : World) (P : Nat → Prop) (a : Option Addr) (n c : Nat) (l : List UInt8) (h : rBytes.rd w P [.slice a n c] l) :
    Calls Try.prog 36 #[.slice a n c] w fun e w' => ∃ b d, e = .returned (.slice b n d) ∧ rBytes.rd w' (fun k => w.heap.size ≤ k) [.slice b n d] l ∧ Below w.heap.size w w' := by
  obtain ⟨h1, h2, h3, h4⟩ := rBytes_isB h
  refine (copied_u w a n c l (by omega) h3 h1).mono ?_
  rintro e w' ⟨b, d, rfl, ho, hb⟩
  exact ⟨b, d, rfl, rBytes_owned ho h4, hb⟩

end Go.Proofs.Ytckcicomkapdeaa
