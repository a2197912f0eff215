/-
  Facts that the proof rests on, part 21. Conditions: those that each of them names.
-/
import Derived.ChangeOld
import Derived.OpenShut
import Derived.ProofKit
import Derived.ShutString
import Derived.SizedLaws
import Derived.Test.YtoophkmnppoppaaRows
import Derived.Test.YtoophkmnppoppaaM00
import Derived.Test.YtoophkmnppoppaaM04
namespace Go.Proofs.Ytoophkmnppoppaa
open Go.ChangeShapes Go.WideShapes Go.ChangeAt Go.RowKit
theorem own : ownKnob Try.prog.godebug = none := by kernel_rfl
theorem qIZ : laidOutB Try.prog = true := by kernel_rfl
theorem qCX {Pr : Program} {t : TypeId} (ht : Pr.underlying t = some .string) : Opens Pr t rStr := by
 intro H enc w fuel cs d ps h _
 obtain ⟨s, rfl, _, hs⟩ := DataW.trod_string ht h
 exact ⟨s, rfl, hs⟩
theorem qDq : Opens Try.prog 26 rBytes := qBX Try.underlying26 (by kernel_rfl) (by kernel_rfl) (opens_byte Try.underlying5)
theorem qAZ : Opens Try.prog 22 rSectors := qBX Try.underlying22 (by kernel_rfl) (by kernel_rfl) qDq
theorem opens_snap : Opens Try.prog 67 rSnp :=
 q8z Try.underlying67 (by kernel_rfl) (q2Z rfl (by kernel_rfl) (q6X Try.underlying3) (q2Z rfl (by kernel_rfl) (qCX Try.underlying9) (qCq rfl (by kernel_rfl) qAZ)))
theorem opens_snaps : Opens Try.prog 23 rSnps := qBX Try.underlying23 (by kernel_rfl) (by kernel_rfl) opens_snap
theorem opens_state10 : Opens Try.prog 25 rSta :=
 q8z Try.underlying25 (by kernel_rfl) (q2Z rfl (by kernel_rfl) qAZ (q2Z rfl (by kernel_rfl) opens_snaps (qCq rfl (by kernel_rfl) (q6X Try.underlying3))))
theorem opens_op10 : Opens Try.prog 28 rOpn :=
 q8z Try.underlying28 (by kernel_rfl) (q2Z rfl (by kernel_rfl) (q6X Try.underlying3) (q2Z rfl (by kernel_rfl) (q6X Try.underlying3) (q2Z rfl (by kernel_rfl) (q6X Try.underlying3) (q2Z rfl (by kernel_rfl) (q6X Try.underlying3) (q2Z rfl (by kernel_rfl) (qCX Try.underlying9) (qCq rfl (by kernel_rfl) qDq))))))
end Go.Proofs.Ytoophkmnppoppaa
