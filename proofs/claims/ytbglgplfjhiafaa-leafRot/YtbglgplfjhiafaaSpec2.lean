/-
  Plain functions: what Pack and Unpack answer, and facts on them. It imports no program. Conditions: those that each lemma names.
-/
import Derived.Test.YtbglgplfjhiafaaSpec
namespace Go.Proofs.Ytbglgplfjhiafaa.Oct

def pairsE : List (Int × Nat) → Int
  | [] => 0
  | x :: r => if putE x.2 x.1 = 0 then pairsE r else putE x.2 x.1

def flat : List (Int × Nat) → List UInt8
  | [] => []
  | x :: r => putL x.2 x.1 ++ flat r

def packE (W : List Int) (V : List Nat) : Int := if W.length ≠ V.length ∨ 64 < W.length then 3 else pairsE (W.zip V)
def packL (W : List Int) (V : List Nat) : List UInt8 := if packE W V = 0 then flat (W.zip V) else []

theorem pairsE_append (l r : List (Int × Nat)) : pairsE (l ++ r) = if pairsE l = 0 then pairsE r else pairsE l := by
  induction l with
  | nil => simp [pairsE]
  | cons x l ih =>
    simp only [List.cons_append, pairsE]
    by_cases h : putE x.2 x.1 = 0
    · simp [h, ih]
    · simp [h]

theorem flat_append (l r : List (Int × Nat)) : flat (l ++ r) = flat l ++ flat r := by
  induction l with
  | nil => rfl
  | cons x l ih => simp [flat, ih]

theorem flat_length (l : List (Int × Nat)) : (flat l).length ≤ 8 * l.length := by
  induction l with
  | nil => simp [flat]
  | cons x l ih =>
    have := putL_length x.2 x.1
    simp [flat]
    omega

theorem zip_take (W : List Int) (V : List Nat) (k : Nat) (h1 : k < W.length) (h2 : k < V.length) : (W.zip V).take (k + 1) = (W.zip V).take k ++ [(W[k], V[k])] := by
  rw [List.take_succ_eq_append_getElem (by simp; omega)]
  simp

theorem pairs_next {W : List Int} {V : List Nat} {k : Nat} (h1 : k < W.length) (h2 : k < V.length) (h : pairsE ((W.zip V).take k) = 0) (e : putE V[k] W[k] = 0) : pairsE ((W.zip V).take (k + 1)) = 0 := by
  rw [zip_take W V k h1 h2, pairsE_append, if_pos h]
  simp [pairsE, e]

theorem pairs_stop {W : List Int} {V : List Nat} {k : Nat} (h1 : k < W.length) (h2 : k < V.length) (h : pairsE ((W.zip V).take k) = 0) (e : putE V[k] W[k] ≠ 0) : pairsE (W.zip V) = putE V[k] W[k] := by
  have e2 : W.zip V = (W.zip V).take (k + 1) ++ (W.zip V).drop (k + 1) := (List.take_append_drop _ _).symm
  rw [e2, pairsE_append, zip_take W V k h1 h2, pairsE_append, if_pos h]
  simp [pairsE, e]

theorem flat_next {W : List Int} {V : List Nat} {k : Nat} (h1 : k < W.length) (h2 : k < V.length) : flat ((W.zip V).take (k + 1)) = flat ((W.zip V).take k) ++ putL V[k] W[k] := by
  rw [zip_take W V k h1 h2, flat_append]
  simp [flat]

theorem packE_count {W : List Int} {V : List Nat} (h : W.length ≠ V.length ∨ 64 < W.length) : packE W V = 3 ∧ packL W V = [] := by
  have : packE W V = 3 := by simp only [packE, if_pos h]
  exact ⟨this, by simp [packL, this]⟩

theorem packE_in {W : List Int} {V : List Nat} (h1 : W.length = V.length) (h2 : W.length ≤ 64) : packE W V = pairsE (W.zip V) := by
  simp only [packE]
  rw [if_neg (by omega)]

theorem packL_in {W : List Int} {V : List Nat} (h1 : W.length = V.length) (h2 : W.length ≤ 64) (h : pairsE (W.zip V) = 0) : packL W V = flat (W.zip V) := by
  simp only [packL, packE_in h1 h2, if_pos h]

theorem packL_other {W : List Int} {V : List Nat} (h : packE W V ≠ 0) : packL W V = [] := by simp [packL, h]

theorem packL_length (W : List Int) (V : List Nat) : (packL W V).length ≤ 512 := by
  by_cases h : W.length ≠ V.length ∨ 64 < W.length
  · rw [(packE_count h).2]; simp
  · by_cases e : packE W V = 0
    · rw [packL, if_pos e]
      have := flat_length (W.zip V)
      simp at this
      omega
    · rw [packL_other e]; simp

theorem pack_join {W P : List Int} {V Q : List Nat} (h1 : W.length = V.length) (h2 : P.length = Q.length) (h3 : W.length ≤ 32) (h4 : P.length ≤ 32) :
    packE (W ++ P) (V ++ Q) = (if packE W V = 0 then packE P Q else packE W V) ∧ (packE W V = 0 → packE P Q = 0 → packL (W ++ P) (V ++ Q) = packL W V ++ packL P Q) := by
  have e0 : packE (W ++ P) (V ++ Q) = pairsE ((W ++ P).zip (V ++ Q)) := packE_in (by simp; omega) (by simp; omega)
  have e1 := packE_in h1 (show W.length ≤ 64 by omega)
  have e2 := packE_in h2 (show P.length ≤ 64 by omega)
  have e3 : (W ++ P).zip (V ++ Q) = W.zip V ++ P.zip Q := List.zip_append h1
  refine ⟨by rw [e0, e3, pairsE_append, e1, e2], fun g1 g2 => ?_⟩
  rw [e1] at g1
  rw [e2] at g2
  have g3 : pairsE ((W ++ P).zip (V ++ Q)) = 0 := by rw [e3, pairsE_append, if_pos g1]; exact g2
  rw [packL_in (by simp; omega) (by simp; omega) g3, packL_in h1 (by omega) g1, packL_in h2 (by omega) g2, e3, flat_append]

end Go.Proofs.Ytbglgplfjhiafaa.Oct
