/-
  Facts that the proof rests on, part 23. Conditions: those that each of them names.
-/
import Derived.ChangeOld
import Derived.OpenShut
import Derived.ProofKit
import Derived.ShutString
import Derived.SizedLaws
import Derived.Test.YtflcojljpbojlaaRows
import Derived.Test.YtflcojljpbojlaaM00
import Derived.Test.YtflcojljpbojlaaM04
namespace Go.Proofs.Ytflcojljpbojlaa
open Go.ChangeShapes Go.WideShapes Go.ChangeAt Go.RowKit
theorem own : ownKnob Try.prog.godebug = none := by kernel_rfl
theorem laidOut : laidOutB Try.prog = true := by kernel_rfl
theorem opens_string {Pr : Program} {t : TypeId} (ht : Pr.underlying t = some .string) : Opens Pr t rStr := by
  intro H enc w fuel cs d ps h _
  obtain ⟨s, rfl, _, hs⟩ := DataW.trod_string ht h
  exact ⟨s, rfl, hs⟩
theorem opens_octets : Opens Try.prog 26 rBytes := opens_list Try.underlying26 (by kernel_rfl) (by kernel_rfl) (opens_byte Try.underlying5)
theorem opens_sectors : Opens Try.prog 22 rSectors := opens_list Try.underlying22 (by kernel_rfl) (by kernel_rfl) opens_octets
theorem opens_snap : Opens Try.prog 67 rSnp :=
  opens_struct Try.underlying67 (by kernel_rfl) (opens_field rfl (by kernel_rfl) (opens_int Try.underlying3) (opens_field rfl (by kernel_rfl) (opens_string Try.underlying9) (opens_last rfl (by kernel_rfl) opens_sectors)))
theorem opens_snaps : Opens Try.prog 23 rSnps := opens_list Try.underlying23 (by kernel_rfl) (by kernel_rfl) opens_snap
theorem opens_state10 : Opens Try.prog 25 rSta :=
  opens_struct Try.underlying25 (by kernel_rfl) (opens_field rfl (by kernel_rfl) opens_sectors (opens_field rfl (by kernel_rfl) opens_snaps (opens_last rfl (by kernel_rfl) (opens_int Try.underlying3))))
theorem opens_named : Opens Try.prog 56 rNmd :=
  opens_struct Try.underlying56 (by kernel_rfl) (opens_field rfl (by kernel_rfl) (opens_int Try.underlying3) (opens_last rfl (by kernel_rfl) (opens_string Try.underlying9)))
theorem opens_nameds : Opens Try.prog 41 rNmds := opens_list Try.underlying41 (by kernel_rfl) (by kernel_rfl) opens_named
theorem opens_op10 : Opens Try.prog 28 rOpn :=
  opens_struct Try.underlying28 (by kernel_rfl) (opens_field rfl (by kernel_rfl) (opens_int Try.underlying3) (opens_field rfl (by kernel_rfl) (opens_int Try.underlying3) (opens_field rfl (by kernel_rfl) (opens_int Try.underlying3) (opens_field rfl (by kernel_rfl) (opens_int Try.underlying3) (opens_field rfl (by kernel_rfl) (opens_string Try.underlying9) (opens_last rfl (by kernel_rfl) opens_octets))))))
theorem opens_ops10 : Opens Try.prog 69 rOpns := opens_list Try.underlying69 (by kernel_rfl) (by kernel_rfl) opens_op10
end Go.Proofs.Ytflcojljpbojlaa
namespace Go.Proofs.Ytflcojljpbojlaa
set_option linter.unusedVariables false
theorem rOpns_at {w : World} {P : Nat → Prop} {a : Option Addr} {n c : Nat} {l : List Opn} (h : rOpns.rd w P [.slice a n c] l) (hn : 0 < n) :
    ∃ b off, a = some ⟨b, off, none⟩ ∧ P b ∧ b < w.heap.size ∧ ∀ (j : Nat) (hj : j < l.length), ∃ x m d, rBytes.rd w P [.slice x m d] l[j].2.2.2.2.2 ∧
      w.cell? ⟨b, off + j * 6, none⟩ = some (.int .i64 l[j].1) ∧ w.cell? ⟨b, off + j * 6 + 1, none⟩ = some (.int .i64 l[j].2.1) ∧ w.cell? ⟨b, off + j * 6 + 2, none⟩ = some (.int .i64 l[j].2.2.1) ∧ w.cell? ⟨b, off + j * 6 + 3, none⟩ = some (.int .i64 l[j].2.2.2.1) ∧ w.cell? ⟨b, off + j * 6 + 4, none⟩ = some (.string l[j].2.2.2.2.1) ∧ w.cell? ⟨b, off + j * 6 + 5, none⟩ = some (.slice x m d) ∧
      (-9223372036854775808 ≤ l[j].1 ∧ l[j].1 ≤ 9223372036854775807) ∧ (-9223372036854775808 ≤ l[j].2.1 ∧ l[j].2.1 ≤ 9223372036854775807) ∧ (-9223372036854775808 ≤ l[j].2.2.1 ∧ l[j].2.2.1 ≤ 9223372036854775807) ∧ (-9223372036854775808 ≤ l[j].2.2.2.1 ∧ l[j].2.2.2.1 ≤ 9223372036854775807) ∧ l[j].2.2.2.2.1.size ≤ maxLen := by
  obtain ⟨b, off, e1, e2, e3, e4⟩ := rList_at h hn
  refine ⟨b, off, e1, e2, e3, fun j hj => ?_⟩
  obtain ⟨cj, g1, g2⟩ := e4 j hj
  obtain ⟨x, m, d, rfl, k, k0, k1, k2, k3, k4⟩ := rOpn_cells g1
  have c0 := g2 0 _ rfl
  have c1 := g2 1 _ rfl
  have c2 := g2 2 _ rfl
  have c3 := g2 3 _ rfl
  have c4 := g2 4 _ rfl
  have c5 := g2 5 _ rfl
  rw [show rOpn.size = 6 from rfl] at c0 c1 c2 c3 c4 c5
  rw [Nat.add_zero] at c0
  rw [← Nat.add_assoc] at c1 c2 c3 c4 c5
  exact ⟨x, m, d, k, c0, c1, c2, c3, c4, c5, k0, k1, k2, k3, k4⟩
end Go.Proofs.Ytflcojljpbojlaa
