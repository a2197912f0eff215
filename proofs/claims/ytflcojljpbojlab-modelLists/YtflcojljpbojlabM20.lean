/-
  Facts that the proof rests on, part 21. Conditions: those that each of them names.
-/
import Derived.ChangeOld
import Derived.OpenShut
import Derived.ProofKit
import Derived.ShutString
import Derived.SizedLaws
import Derived.Test.YtflcojljpbojlabRows
import Derived.Test.YtflcojljpbojlabM00
import Derived.Test.YtflcojljpbojlabM04
namespace Go.Proofs.Ytflcojljpbojlab
open Go.ChangeShapes Go.WideShapes Go.ChangeAt Go.RowKit
theorem own : ownKnob Try.prog.godebug = none := by kernel_rfl
theorem laidOut : laidOutB Try.prog = true := by kernel_rfl
theorem opens_string {Pr : Program} {t : TypeId} (ht : Pr.underlying t = some .string) : Opens Pr t rStr := by
  intro H enc w fuel cs d ps h _
  obtain ⟨s, rfl, _, hs⟩ := DataW.trod_string ht h
  exact ⟨s, rfl, hs⟩
theorem opens_octets : Opens Try.prog 31 rBytes := opens_list Try.underlying31 (by kernel_rfl) (by kernel_rfl) (opens_byte Try.underlying5)
theorem opens_sectors : Opens Try.prog 22 rSectors := opens_list Try.underlying22 (by kernel_rfl) (by kernel_rfl) opens_octets
theorem opens_snap : Opens Try.prog 44 rSnp :=
  opens_struct Try.underlying44 (by kernel_rfl) (opens_field rfl (by kernel_rfl) (opens_int Try.underlying3) (opens_field rfl (by kernel_rfl) (opens_string Try.underlying9) (opens_last rfl (by kernel_rfl) opens_sectors)))
theorem opens_snaps : Opens Try.prog 23 rSnps := opens_list Try.underlying23 (by kernel_rfl) (by kernel_rfl) opens_snap
theorem opens_state10 : Opens Try.prog 25 rSta :=
  opens_struct Try.underlying25 (by kernel_rfl) (opens_field rfl (by kernel_rfl) opens_sectors (opens_field rfl (by kernel_rfl) opens_snaps (opens_last rfl (by kernel_rfl) (opens_int Try.underlying3))))
end Go.Proofs.Ytflcojljpbojlab
