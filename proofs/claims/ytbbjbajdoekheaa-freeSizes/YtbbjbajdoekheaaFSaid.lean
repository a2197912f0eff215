/-
  Plain functions: what Take and Free answer, case by case. It imports no program. Conditions: those that each lemma names.
-/
import Derived.Test.YtbbjbajdoekheaaFAns
namespace Go.Proofs.Ytbbjbajdoekheaa
set_option linter.unusedVariables false

theorem Fr.take_said {z : Int} {l : List Spn} {x : Spn} (h : Fr.spanE z l x = 0) : (Fr.whole l x = true → Fr.takeE z l x = Fr.manyE (Fr.without l x) ∧ Fr.takeL z l x = Fr.manyL (Fr.without l x) ∧ Fr.takeZ z l x = Fr.manyZ z (Fr.without l x)) ∧ (Fr.whole l x = false → Fr.takeE z l x = 72 ∧ Fr.takeL z l x = [] ∧ Fr.takeZ z l x = 0) := by
  constructor
  · intro hw
    have e : Fr.takeE z l x = Fr.manyE (Fr.without l x) := by unfold Fr.takeE; rw [if_pos h, hw]; rfl
    refine ⟨e, ?_, ?_⟩
    · unfold Fr.takeL; rw [e]; unfold Fr.manyE Fr.manyL; split <;> rfl
    · unfold Fr.takeZ; rw [e]; unfold Fr.manyE Fr.manyZ; split <;> rfl
  · intro hw
    have e : Fr.takeE z l x = 72 := by unfold Fr.takeE; rw [if_pos h, hw]; rfl
    refine ⟨e, ?_, ?_⟩
    · unfold Fr.takeL; rw [e]; rfl
    · unfold Fr.takeZ; rw [e]; rfl

theorem Fr.take_not {z : Int} {l : List Spn} {x : Spn} {q : Int} (h : Fr.spanE z l x = q) (hq : q ≠ 0) : Fr.takeE z l x = q ∧ Fr.takeL z l x = [] ∧ Fr.takeZ z l x = 0 := by
  have e : Fr.takeE z l x = q := by unfold Fr.takeE; rw [if_neg (by rw [h]; exact hq), h]
  refine ⟨e, ?_, ?_⟩
  · unfold Fr.takeL; rw [e, if_neg hq]
  · unfold Fr.takeZ; rw [e, if_neg hq]

theorem Fr.free_said {z : Int} {l : List Spn} {x : Spn} (h : Fr.spanE z l x = 0) : (Fr.some_ l x = false → Fr.freeE z l x = Fr.manyE (Fr.withR x false l) ∧ Fr.freeL z l x = Fr.manyL (Fr.withR x false l) ∧ Fr.freeZ z l x = Fr.manyZ z (Fr.withR x false l)) ∧ (Fr.some_ l x = true → Fr.freeE z l x = 6 ∧ Fr.freeL z l x = [] ∧ Fr.freeZ z l x = 0) := by
  constructor
  · intro hw
    have e : Fr.freeE z l x = Fr.manyE (Fr.withR x false l) := by unfold Fr.freeE; rw [if_pos h, hw]; rfl
    refine ⟨e, ?_, ?_⟩
    · unfold Fr.freeL; rw [e]; unfold Fr.manyE Fr.manyL; split <;> rfl
    · unfold Fr.freeZ; rw [e]; unfold Fr.manyE Fr.manyZ; split <;> rfl
  · intro hw
    have e : Fr.freeE z l x = 6 := by unfold Fr.freeE; rw [if_pos h, hw]; rfl
    refine ⟨e, ?_, ?_⟩
    · unfold Fr.freeL; rw [e]; rfl
    · unfold Fr.freeZ; rw [e]; rfl

theorem Fr.free_not {z : Int} {l : List Spn} {x : Spn} {q : Int} (h : Fr.spanE z l x = q) (hq : q ≠ 0) : Fr.freeE z l x = q ∧ Fr.freeL z l x = [] ∧ Fr.freeZ z l x = 0 := by
  have e : Fr.freeE z l x = q := by unfold Fr.freeE; rw [if_neg (by rw [h]; exact hq), h]
  refine ⟨e, ?_, ?_⟩
  · unfold Fr.freeL; rw [e, if_neg hq]
  · unfold Fr.freeZ; rw [e, if_neg hq]

theorem Fr.some_turned (l : List Spn) (x : Spn) : l.any (fun y => decide (y.1 < x.1 + x.2) && decide (x.1 < y.1 + y.2)) = Fr.some_ l x := by
  unfold Fr.some_
  congr 1
  funext y
  exact Bool.and_comm _ _

end Go.Proofs.Ytbbjbajdoekheaa
