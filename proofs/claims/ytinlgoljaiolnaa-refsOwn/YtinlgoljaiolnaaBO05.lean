/-
  Facts that the proof rests on, part 6. Conditions: those that each of them names.
-/
import Derived.BigQuiet
import Derived.Deep.QuietTactic
import Derived.Test.YtinlgoljaiolnaaRows
import Derived.Test.YtinlgoljaiolnaaBO04
namespace Go.Proofs.Ytinlgoljaiolnaa
open Go.RowKit
set_option linter.unusedVariables false
theorem on {w w1 w2 : World} (h : Below w.heap.size w w1) (k : Below w1.heap.size w1 w2) : Below w.heap.size w w2 := h.trans (k.mono h.size)
theorem ret_flag {b c : Bool} (h : b = true ↔ c = true) : Ending.returned (.bool b) = .returned (.bool c) := by rw [Bool.eq_iff_iff.2 h]
theorem step_next {l : List Ext} {k : Nat} {hk : k < l.length} (h : Hid (∀ j (h : j < l.length), j < k → Ex.Step l j h)) (hs : Hid (Ex.Step l k hk)) : Hid (∀ j (h : j < l.length), j < k + 1 → Ex.Step l j h) := by
  intro j hj hlt
  by_cases e : j = k
  · subst e; exact hs
  · exact h.out j hj (by omega)
end Go.Proofs.Ytinlgoljaiolnaa
namespace Go.Proofs.Ytinlgoljaiolnaa
open Go.RowKit
set_option linter.unusedVariables false
theorem same_drewN {a w : World} {B : Nat} (h : Below B a w) (n : Nat) : Below B a (w.drewN n) := ⟨h.os, h.tape, h.output, h.size, h.block⟩
end Go.Proofs.Ytinlgoljaiolnaa
namespace Go.Proofs.Ytinlgoljaiolnaa
open Go.RowKit
set_option linter.unusedVariables false
def Small (x : Ext) : Prop := (-131072 ≤ x.1 ∧ x.1 ≤ 131072) ∧ (-131072 ≤ x.2.1 ∧ x.2.1 ≤ 131072) ∧ (-131072 ≤ x.2.2 ∧ x.2.2 ≤ 131072)
theorem Small.in3 {x : Ext} (h : Small x) : In3 x := by
  unfold Small at h
  unfold In3 In64
  omega
theorem Ex.add_first {x : Ext} (h : ¬ x.2.2 < 1) : Ex.add [] x = [x] := by unfold Ex.add; rw [if_neg h]; rfl
theorem Ex.add_join {m : List Ext} {x y : Ext} (h : ¬ x.2.2 < 1) (hj : Ex.Joins y x) : Ex.add (m ++ [y]) x = (m ++ [y]).set m.length (y.1, y.2.1, y.2.2 + x.2.2) := by
  unfold Ex.add
  rw [if_neg h]
  simp only [List.getLast?_append, List.getLast?_singleton, Option.some_or]
  rw [if_pos hj]
  simp
theorem Ex.add_more {m : List Ext} {x y : Ext} (h : ¬ x.2.2 < 1) (hj : ¬ Ex.Joins y x) : Ex.add (m ++ [y]) x = m ++ [y] ++ [x] := by
  unfold Ex.add
  rw [if_neg h]
  simp only [List.getLast?_append, List.getLast?_singleton, Option.some_or]
  rw [if_neg hj]
theorem OwnE.drewN {e : TypeId} {w : World} {base : Nat} {v : Value} {l : List Ext} (h : OwnE e w base v l) (n : Nat) : OwnE e (w.drewN n) base v l := h.keep (fun _ _ _ => rfl)
theorem Ex.get_last (m : List Ext) (y : Ext) : ∃ h : m.length < (m ++ [y]).length, (m ++ [y])[m.length] = y := ⟨by simp, by simp⟩
end Go.Proofs.Ytinlgoljaiolnaa
