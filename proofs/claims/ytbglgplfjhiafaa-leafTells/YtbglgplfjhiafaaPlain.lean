/-
  Plain facts on octets and lists: a number as octets, the lowest first, and back. Conditions: none but those that each lemma names. It imports no program.
-/
namespace Go.Proofs.Ytbglgplfjhiafaa.Oct

/-- So many octets of n, the lowest first. -/
def octs : Nat → Nat → List UInt8
  | _, 0 => []
  | n, s + 1 => UInt8.ofNat n :: octs (n / 256) s

/-- The number of octets, the lowest first. -/
def num : List UInt8 → Nat
  | [] => 0
  | b :: l => b.toNat + 256 * num l

theorem octs_length (n s : Nat) : (octs n s).length = s := by
  induction s generalizing n with
  | zero => rfl
  | succ s ih => simp [octs, ih]

theorem octs_get (n s i : Nat) (h : i < (octs n s).length) : (octs n s)[i] = UInt8.ofNat (n / 256 ^ i) := by
  induction s generalizing n i with
  | zero => simp [octs] at h
  | succ s ih =>
    cases i with
    | zero => simp [octs]
    | succ i =>
      simp only [octs, List.getElem_cons_succ]
      rw [ih]
      rw [Nat.div_div_eq_div_mul, Nat.pow_succ, Nat.mul_comm]

theorem octs_get_toNat (n s i : Nat) (h : i < (octs n s).length) : ((octs n s)[i].toNat : Int) = ((n / 256 ^ i % 256 : Nat) : Int) := by
  rw [octs_get]; simp

theorem num_octs (n s : Nat) (h : n < 256 ^ s) : num (octs n s) = n := by
  induction s generalizing n with
  | zero => simp at h; subst h; rfl
  | succ s ih =>
    have h1 : n / 256 < 256 ^ s := by
      rw [Nat.div_lt_iff_lt_mul (by decide)]; rw [Nat.pow_succ] at h; exact h
    simp only [octs, num]
    rw [ih _ h1]
    simp
    omega

theorem num_lt (l : List UInt8) : num l < 256 ^ l.length := by
  induction l with
  | nil => simp [num]
  | cons b l ih =>
    have hb : b.toNat < 256 := by have := b.toNat_lt; simpa using this
    simp only [num, List.length_cons, Nat.pow_succ]
    omega

theorem octs_num (l : List UInt8) : octs (num l) l.length = l := by
  induction l with
  | nil => rfl
  | cons b l ih =>
    have hb : b.toNat < 256 := by have := b.toNat_lt; simpa using this
    simp only [num, List.length_cons, octs]
    have h1 : (b.toNat + 256 * num l) / 256 = num l := by omega
    rw [h1, ih]
    congr 1
    apply UInt8.toNat_inj.1
    simp

theorem octs_inj {a b s : Nat} (ha : a < 256 ^ s) (hb : b < 256 ^ s) (h : octs a s = octs b s) : a = b := by
  rw [← num_octs a s ha, ← num_octs b s hb, h]

theorem set_step {α : Type} (M : List α) (z : α) (s k : Nat) (hM : M.length = s) (hk : k < s) :
    (M.take k ++ List.replicate (s - k) z).set k (M[k]'(by omega)) = M.take (k + 1) ++ List.replicate (s - (k + 1)) z := by
  apply List.ext_getElem
  · simp; omega
  · intro i h1 h2
    simp only [List.getElem_set, List.getElem_append, List.getElem_take, List.getElem_replicate, List.length_take]
    by_cases hi : k = i
    · subst hi; simp; omega
    · simp only [if_neg hi]
      by_cases h3 : i < k
      · rw [dif_pos (by omega), dif_pos (by omega)]
      · rw [dif_neg (by omega), dif_neg (by omega)]

/-- The octets from 'from' on, so many. -/
def cut (l : List UInt8) (p k : Nat) : List UInt8 := (l.drop p).take k

theorem cut_length (l : List UInt8) (p k : Nat) (h : p + k ≤ l.length) : (cut l p k).length = k := by simp [cut]; omega

theorem cut_cons (l : List UInt8) (p k : Nat) (h : p < l.length) : cut l p (k + 1) = l[p] :: cut l (p + 1) k := by
  unfold cut; rw [List.drop_eq_getElem_cons h, List.take_succ_cons]

theorem num_cut_step (l : List UInt8) (p k : Nat) (h : p < l.length) : num (cut l p (k + 1)) = 256 * num (cut l (p + 1) k) + l[p].toNat := by
  rw [cut_cons l p k h, num]; omega

theorem num_cut_lt (l : List UInt8) (p k : Nat) (h : p + k ≤ l.length) : num (cut l p k) < 256 ^ k := by
  have := num_lt (cut l p k); rwa [cut_length l p k h] at this

theorem or_add (N b : Nat) (hb : b < 256) : N * 256 ||| b = 256 * N + b := by
  have h := Nat.shiftLeft_add_eq_or_of_lt (i := 8) (b := b) (by simpa using hb) N
  rw [Nat.shiftLeft_eq] at h
  rw [← h]
  simp [Nat.mul_comm]

end Go.Proofs.Ytbglgplfjhiafaa.Oct
