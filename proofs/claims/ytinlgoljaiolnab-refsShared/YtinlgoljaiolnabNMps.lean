/-
  Maps of owners in cells: what stands where. Conditions: those that each lemma names.
-/
import Derived.Test.YtinlgoljaiolnabNOwn
import Derived.Test.YtinlgoljaiolnabNMay
namespace Go.Proofs.Ytinlgoljaiolnab
open Go.RowKit
set_option linter.unusedVariables false

theorem rMps_at {w : World} {P : Nat → Prop} {a : Option Addr} {n c : Nat} {l : List Mpr} (h : rMps.rd w P [.slice a n c] l) (hn : 0 < n) :
    ∃ b off, a = some ⟨b, off, none⟩ ∧ P b ∧ b < w.heap.size ∧ ∀ (j : Nat) (hj : j < l.length),
      ∃ a' n' c', w.cell? ⟨b, off + j * 2, none⟩ = some (.int .i64 l[j].1) ∧ w.cell? ⟨b, off + j * 2 + 1, none⟩ = some (.slice a' n' c') ∧ rExts.rd w P [.slice a' n' c'] l[j].2 ∧ In64 l[j].1 := by
  obtain ⟨b, off, e1, e2, e3, e4⟩ := rList_at h hn
  refine ⟨b, off, e1, e2, e3, fun j hj => ?_⟩
  obtain ⟨cj, g1, g2⟩ := e4 j hj
  obtain ⟨c1, c2, rfl, ⟨rfl, k1⟩, k2⟩ := g1
  obtain ⟨a', n', c', rfl, -⟩ := id k2
  have g0 := g2 0 _ rfl
  have g1 := g2 1 _ rfl
  rw [show rMp.size = 2 from rfl] at g0 g1
  rw [Nat.add_zero] at g0
  rw [← Nat.add_assoc] at g1
  exact ⟨a', n', c', g0, g1, k2, k1⟩

end Go.Proofs.Ytinlgoljaiolnab
