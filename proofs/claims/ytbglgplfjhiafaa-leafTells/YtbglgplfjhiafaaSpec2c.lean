/-
  Plain functions: what Seal and Open answer, and facts on them. It imports no program. Conditions: those that each lemma names.
-/
import Derived.Test.YtbglgplfjhiafaaCrc
namespace Go.Proofs.Ytbglgplfjhiafaa.Crc

def sealed (l : List UInt8) : List UInt8 := l ++ le4 (sum l)

def openE (l : List UInt8) : Int := if l.length < 4 then 8 else if sealed (l.take (l.length - 4)) = l then 0 else 21
def openL (l : List UInt8) : List UInt8 := if openE l = 0 then l.take (l.length - 4) else []

theorem sealed_length (l : List UInt8) : (sealed l).length = l.length + 4 := by simp [sealed, le4]

theorem openE_cases (l : List UInt8) : (l.length < 4 ∧ openE l = 8 ∧ openL l = []) ∨ (4 ≤ l.length ∧ sealed (l.take (l.length - 4)) = l ∧ openE l = 0 ∧ openL l = l.take (l.length - 4)) ∨
    (4 ≤ l.length ∧ sealed (l.take (l.length - 4)) ≠ l ∧ openE l = 21 ∧ openL l = []) := by
  by_cases h : l.length < 4
  · have : openE l = 8 := by simp [openE, h]
    exact .inl ⟨h, this, by simp [openL, this]⟩
  · by_cases g : sealed (l.take (l.length - 4)) = l
    · have : openE l = 0 := by simp only [openE, if_neg h, if_pos g]
      exact .inr (.inl ⟨by omega, g, this, by simp [openL, this]⟩)
    · have : openE l = 21 := by simp only [openE, if_neg h, if_neg g]
      exact .inr (.inr ⟨by omega, g, this, by simp [openL, this]⟩)

theorem take_sealed (l : List UInt8) : (sealed l).take ((sealed l).length - 4) = l := by
  rw [sealed_length, Nat.add_sub_cancel]
  simp [sealed]

theorem open_sealed (l : List UInt8) : openE (sealed l) = 0 ∧ openL (sealed l) = l := by
  have h := take_sealed l
  have hl := sealed_length l
  rcases openE_cases (sealed l) with ⟨g, _⟩ | ⟨_, _, e1, e2⟩ | ⟨_, g, _⟩
  · omega
  · exact ⟨e1, by rw [e2, h]⟩
  · rw [h] at g; exact absurd rfl g

/-- Sealed octets that a burst has turned are told. -/
theorem open_turned (l t : List UInt8) (hs : t.length = (sealed l).length) (hne : run 0 (xorL (sealed l) t) ≠ 0) : openE t = 21 ∧ openL t = [] := by
  have hl := sealed_length l
  rcases openE_cases t with ⟨g, _⟩ | ⟨_, g, _⟩ | ⟨_, _, e1, e2⟩
  · omega
  · exact absurd g.symm (sealed_told l (t.take (t.length - 4)) t hs hne)
  · exact ⟨e1, e2⟩

/-- Bits of T turned one by one, from p on, up to the k-th. -/
def turned (s : List UInt8) (p T : Nat) : Nat → List UInt8
  | 0 => s
  | k + 1 => let u := turned s p T k
             if T.testBit k then u.set ((p + k) / 8) (u.getD ((p + k) / 8) 0 ^^^ UInt8.ofNat (2 ^ ((p + k) % 8))) else u

theorem turned_length (s : List UInt8) (p T k : Nat) : (turned s p T k).length = s.length := by
  induction k with
  | zero => rfl
  | succ k ih => simp only [turned]; split <;> simp [ih]

theorem getD_set (l : List UInt8) (i j : Nat) (x : UInt8) (h : i < l.length) : (l.set i x).getD j 0 = if i = j then x else l.getD j 0 := by
  simp only [List.getD, List.getElem?_set]
  by_cases e : i = j
  · subst e; simp [h]
  · simp [e]

theorem xor_bit (a : UInt8) (i j : Nat) (hi : i < 8) : (a ^^^ UInt8.ofNat (2 ^ i)).toNat.testBit j = ((a.toNat.testBit j) ^^ decide (i = j)) := by
  have h2 : 2 ^ i < 256 := by
    have := Nat.pow_lt_pow_right (a := 2) (by decide) hi
    simpa using this
  rw [UInt8.toNat_xor, UInt8.toNat_ofNat', Nat.mod_eq_of_lt (by simpa using h2), Nat.testBit_xor, Nat.testBit_two_pow]

theorem turned_bit (s : List UInt8) (p T k : Nat) (hk : p + k ≤ 8 * s.length) (i : Nat) :
    ((turned s p T k).getD (i / 8) 0).toNat.testBit (i % 8) = (((s.getD (i / 8) 0).toNat.testBit (i % 8)) ^^ (decide (p ≤ i ∧ i < p + k) && T.testBit (i - p))) := by
  induction k with
  | zero =>
    have : decide (p ≤ i ∧ i < p + 0) = false := decide_eq_false (by omega)
    simp only [turned, this, Bool.false_and, Bool.xor_false]
  | succ k ih =>
    have ih := ih (by omega)
    have hlen := turned_length s p T k
    simp only [turned]
    by_cases hT : T.testBit k = true
    · rw [if_pos hT, getD_set _ _ _ _ (by omega)]
      by_cases e : (p + k) / 8 = i / 8
      · rw [if_pos e, e, xor_bit _ _ _ (Nat.mod_lt _ (by decide)), ih]
        by_cases e2 : (p + k) % 8 = i % 8
        · have e3 : i = p + k := by omega
          subst e3
          have c1 : decide (p ≤ p + k ∧ p + k < p + k) = false := by simp
          have c2 : decide (p ≤ p + k ∧ p + k < p + (k + 1)) = true := decide_eq_true (by omega)
          have c3 : p + k - p = k := by omega
          simp only [c1, c2, c3, hT, Bool.false_and, Bool.xor_false, Bool.and_self, decide_true]
        · have c : decide (p ≤ i ∧ i < p + (k + 1)) = decide (p ≤ i ∧ i < p + k) := decide_eq_decide.2 (by omega)
          simp only [c, e2, decide_false, Bool.xor_false]
      · rw [if_neg e, ih]
        have c : decide (p ≤ i ∧ i < p + (k + 1)) = decide (p ≤ i ∧ i < p + k) := by
          have : i ≠ p + k := fun h => e (by rw [h])
          exact decide_eq_decide.2 (by omega)
        simp only [c]
    · rw [if_neg hT, ih]
      by_cases e : i = p + k
      · subst e
        have hT' : T.testBit k = false := by simpa using hT
        have c3 : p + k - p = k := by omega
        simp [c3, hT']
      · have c : decide (p ≤ i ∧ i < p + (k + 1)) = decide (p ≤ i ∧ i < p + k) := decide_eq_decide.2 (by omega)
        simp only [c]

theorem xorL_getD (l m : List UInt8) (h : l.length = m.length) (j : Nat) : (xorL l m).getD j 0 = l.getD j 0 ^^^ m.getD j 0 := by
  by_cases hj : j < l.length
  · have hm : j < m.length := by omega
    simp [xorL, List.getD, List.getElem?_zipWith, List.getElem?_eq_getElem hj, List.getElem?_eq_getElem hm]
  · have hm : ¬ j < m.length := by omega
    simp [xorL, List.getD, List.getElem?_zipWith, List.getElem?_eq_none (Nat.not_lt.1 hj), List.getElem?_eq_none (Nat.not_lt.1 hm)]

/-- Octets and those with up to 32 bits in a row turned part by what leaves something. -/
theorem turned_leaves (s : List UInt8) (p T : Nat) (hT : T < 4294967296) (h0 : T ≠ 0) (hp : p + 32 ≤ 8 * s.length) : run 0 (xorL s (turned s p T 32)) ≠ 0 := by
  have hlen := turned_length s p T 32
  have hx : (xorL s (turned s p T 32)).length = s.length := by simp [xorL, hlen]
  apply burst_run _ p T hT h0 (by omega)
  intro i hi
  rw [xorL_getD s _ hlen.symm, UInt8.toNat_xor, Nat.testBit_xor, turned_bit s p T 32 hp i]
  cases (s.getD (i / 8) 0).toNat.testBit (i % 8) <;> simp

end Go.Proofs.Ytbglgplfjhiafaa.Crc
