/-
  Plain functions: what Unpack answers, and facts on it. It imports no program. Conditions: those that each lemma names.
-/
import Derived.Test.YtbglgplfjhiafaaSpec2
namespace Go.Proofs.Ytbglgplfjhiafaa.Oct

def total : List Int → Nat
  | [] => 0
  | x :: r => x.toNat + total r

def nums : List Int → List UInt8 → Nat → List Nat
  | [], _, _ => []
  | x :: r, l, p => num (cut l p x.toNat) :: nums r l (p + x.toNat)

def allOk : List Int → Bool
  | [] => true
  | x :: r => sizeOk x && allOk r

def unpackE (W : List Int) (l : List UInt8) : Int := if 64 < W.length then 3 else if allOk W = false then 1 else if l.length < total W then 8 else if total W < l.length then 23 else 0
def unpackL (W : List Int) (l : List UInt8) : List Nat := if unpackE W l = 0 then nums W l 0 else []

theorem total_append (A B : List Int) : total (A ++ B) = total A + total B := by
  induction A with
  | nil => simp [total]
  | cons x A ih => simp [total, ih]; omega

theorem allOk_append (A B : List Int) : allOk (A ++ B) = (allOk A && allOk B) := by
  induction A with
  | nil => simp [allOk]
  | cons x A ih => simp [allOk, ih, Bool.and_assoc]

theorem nums_append (A B : List Int) (l : List UInt8) (p : Nat) : nums (A ++ B) l p = nums A l p ++ nums B l (p + total A) := by
  induction A generalizing p with
  | nil => simp [nums, total]
  | cons x A ih => simp [nums, total, ih, Nat.add_assoc]

theorem nums_length (A : List Int) (l : List UInt8) (p : Nat) : (nums A l p).length = A.length := by
  induction A generalizing p with
  | nil => rfl
  | cons x A ih => simp [nums, ih]

theorem take_next (W : List Int) (k : Nat) (h : k < W.length) : W.take (k + 1) = W.take k ++ [W[k]] := List.take_succ_eq_append_getElem h

theorem total_next {W : List Int} {k : Nat} (h : k < W.length) : total (W.take (k + 1)) = total (W.take k) + W[k].toNat := by
  rw [take_next W k h, total_append]; simp [total]

theorem nums_next {W : List Int} {k : Nat} (h : k < W.length) (l : List UInt8) : nums (W.take (k + 1)) l 0 = nums (W.take k) l 0 ++ [num (cut l (total (W.take k)) W[k].toNat)] := by
  rw [take_next W k h, nums_append]; simp [nums]

theorem ok_next {W : List Int} {k : Nat} (h : k < W.length) (h1 : allOk (W.take k) = true) (h2 : sizeOk W[k] = true) : allOk (W.take (k + 1)) = true := by
  rw [take_next W k h, allOk_append]; simp [allOk, h1, h2]

theorem ok_stop {W : List Int} {k : Nat} (h : k < W.length) (h2 : sizeOk W[k] = false) : allOk W = false := by
  have e : W = W.take (k + 1) ++ W.drop (k + 1) := (List.take_append_drop _ _).symm
  rw [e, allOk_append, take_next W k h, allOk_append]
  simp [allOk, h2]

theorem total_le {W : List Int} (k : Nat) : total (W.take k) ≤ total W := by
  have e : W = W.take k ++ W.drop k := (List.take_append_drop _ _).symm
  have := total_append (W.take k) (W.drop k)
  rw [← e] at this
  omega

theorem ok_at {W : List Int} {k : Nat} (h : k < W.length) (h1 : allOk W = true) : sizeOk W[k] = true := by
  by_cases e : sizeOk W[k] = true
  · exact e
  · have := ok_stop h (by simpa using e)
    rw [h1] at this; cases this

theorem total_bound (W : List Int) (h : allOk W = true) : total W ≤ 8 * W.length := by
  induction W with
  | nil => simp [total]
  | cons x r ih =>
    simp only [allOk, Bool.and_eq_true] at h
    have := ih h.2
    have hx : x ≤ 8 := by have := h.1; simp [sizeOk] at this; omega
    simp [total]
    omega

theorem allOk_take {W : List Int} (k : Nat) (h : allOk W = true) : allOk (W.take k) = true := by
  have e : W = W.take k ++ W.drop k := (List.take_append_drop _ _).symm
  rw [e, allOk_append] at h
  simp only [Bool.and_eq_true] at h
  exact h.1

theorem num_lt64 (l : List UInt8) (p : Nat) (x : Int) (h : sizeOk x = true) : num (cut l p x.toNat) < 18446744073709551616 := by
  have h1 := num_lt (cut l p x.toNat)
  have h2 : (cut l p x.toNat).length ≤ 8 := by simp [sizeOk] at h; simp [cut]; omega
  have h3 : 256 ^ (cut l p x.toNat).length ≤ 256 ^ 8 := Nat.pow_le_pow_right (by decide) h2
  have h4 : (256 : Nat) ^ 8 = 18446744073709551616 := by decide
  omega

theorem unpackE_count {W : List Int} {l : List UInt8} (h : 64 < W.length) : unpackE W l = 3 ∧ unpackL W l = [] := by
  have : unpackE W l = 3 := by simp only [unpackE, if_pos h]
  exact ⟨this, by simp [unpackL, this]⟩

theorem unpackE_arg {W : List Int} {l : List UInt8} (h : W.length ≤ 64) (h1 : allOk W = false) : unpackE W l = 1 ∧ unpackL W l = [] := by
  have : unpackE W l = 1 := by simp only [unpackE, if_neg (Nat.not_lt.2 h), if_pos h1]
  exact ⟨this, by simp [unpackL, this]⟩

theorem unpackE_short {W : List Int} {l : List UInt8} (h : W.length ≤ 64) (h1 : allOk W = true) (h2 : l.length < total W) : unpackE W l = 8 ∧ unpackL W l = [] := by
  have : unpackE W l = 8 := by simp only [unpackE, if_neg (Nat.not_lt.2 h), h1, if_pos h2]; rfl
  exact ⟨this, by simp [unpackL, this]⟩

theorem unpackE_tail {W : List Int} {l : List UInt8} (h : W.length ≤ 64) (h1 : allOk W = true) (h2 : total W < l.length) : unpackE W l = 23 ∧ unpackL W l = [] := by
  have : unpackE W l = 23 := by simp only [unpackE, if_neg (Nat.not_lt.2 h), h1, if_neg (show ¬ l.length < total W by omega), if_pos h2]; rfl
  exact ⟨this, by simp [unpackL, this]⟩

theorem unpackE_ok {W : List Int} {l : List UInt8} (h : W.length ≤ 64) (h1 : allOk W = true) (h2 : total W = l.length) : unpackE W l = 0 ∧ unpackL W l = nums W l 0 := by
  have : unpackE W l = 0 := by simp only [unpackE, if_neg (Nat.not_lt.2 h), h1, if_neg (show ¬ l.length < total W by omega), if_neg (show ¬ total W < l.length by omega)]; rfl
  exact ⟨this, by simp [unpackL, this]⟩

theorem unpackE_cases (W : List Int) (l : List UInt8) : (64 < W.length) ∨ (W.length ≤ 64 ∧ allOk W = false) ∨ (W.length ≤ 64 ∧ allOk W = true ∧ l.length < total W) ∨ (W.length ≤ 64 ∧ allOk W = true ∧ total W < l.length) ∨ (W.length ≤ 64 ∧ allOk W = true ∧ total W = l.length) := by
  by_cases h : 64 < W.length
  · exact .inl h
  · cases h1 : allOk W
    · exact .inr (.inl ⟨by omega, rfl⟩)
    · rcases Nat.lt_trichotomy l.length (total W) with h2 | h2 | h2
      · exact .inr (.inr (.inl ⟨by omega, rfl, h2⟩))
      · exact .inr (.inr (.inr (.inr ⟨by omega, rfl, h2.symm⟩)))
      · exact .inr (.inr (.inr (.inl ⟨by omega, rfl, h2⟩)))

end Go.Proofs.Ytbglgplfjhiafaa.Oct
