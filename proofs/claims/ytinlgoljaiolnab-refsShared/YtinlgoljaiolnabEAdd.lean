/-
  Small extents, one extent put behind others, plainly. Conditions: those that each lemma names.
-/
import Derived.Test.YtinlgoljaiolnabREB
import Derived.Test.YtinlgoljaiolnabEOwn
namespace Go.Proofs.Ytinlgoljaiolnab
open Go.RowKit
set_option linter.unusedVariables false

def Small (x : Ext) : Prop := (-131072 ≤ x.1 ∧ x.1 ≤ 131072) ∧ (-131072 ≤ x.2.1 ∧ x.2.1 ≤ 131072) ∧ (-131072 ≤ x.2.2 ∧ x.2.2 ≤ 131072)

theorem Small.in3 {x : Ext} (h : Small x) : In3 x := by
  unfold Small at h
  unfold In3 In64
  omega

theorem Ex.add_none {l : List Ext} {x : Ext} (h : x.2.2 < 1) : Ex.add l x = l := by unfold Ex.add; rw [if_pos h]
theorem Ex.add_first {x : Ext} (h : ¬ x.2.2 < 1) : Ex.add [] x = [x] := by unfold Ex.add; rw [if_neg h]; rfl
theorem Ex.add_join {m : List Ext} {x y : Ext} (h : ¬ x.2.2 < 1) (hj : Ex.Joins y x) : Ex.add (m ++ [y]) x = (m ++ [y]).set m.length (y.1, y.2.1, y.2.2 + x.2.2) := by
  unfold Ex.add
  rw [if_neg h]
  simp only [List.getLast?_append, List.getLast?_singleton, Option.some_or]
  rw [if_pos hj]
  simp
theorem Ex.add_more {m : List Ext} {x y : Ext} (h : ¬ x.2.2 < 1) (hj : ¬ Ex.Joins y x) : Ex.add (m ++ [y]) x = m ++ [y] ++ [x] := by
  unfold Ex.add
  rw [if_neg h]
  simp only [List.getLast?_append, List.getLast?_singleton, Option.some_or]
  rw [if_neg hj]

theorem OwnE.drewN {e : TypeId} {w : World} {base : Nat} {v : Value} {l : List Ext} (h : OwnE e w base v l) (n : Nat) : OwnE e (w.drewN n) base v l := h.keep (fun _ _ _ => rfl)

theorem Ex.get_last (m : List Ext) (y : Ext) : ∃ h : m.length < (m ++ [y]).length, (m ++ [y])[m.length] = y := ⟨by simp, by simp⟩

end Go.Proofs.Ytinlgoljaiolnab
