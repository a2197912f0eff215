/-
  Plain facts on the checksum: a register over bits and octets, that it is linear, and that a burst of up to 32 bits is told. It imports no program. Conditions: those that each lemma names.
-/
namespace Go.Proofs.Ytbglgplfjhiafaa.Crc

/-- One bit further. -/
def step (c : Nat) : Nat := if c % 2 = 1 then (c / 2) ^^^ 2197175160 else c / 2

def steps : Nat → Nat → Nat
  | 0, c => c
  | k + 1, c => steps k (step c)

/-- A register behind octets. -/
def run (c : Nat) (l : List UInt8) : Nat := l.foldl (fun c b => steps 8 (c ^^^ b.toNat)) c

theorem run_nil (c : Nat) : run c [] = c := by unfold run; rw [List.foldl_nil]
theorem run_cons (c : Nat) (b : UInt8) (l : List UInt8) : run c (b :: l) = run (steps 8 (c ^^^ b.toNat)) l := by unfold run; rw [List.foldl_cons]

theorem xor_half (a b : Nat) : (a ^^^ b) / 2 = (a / 2) ^^^ (b / 2) := by
  have := Nat.shiftRight_xor_distrib (a := a) (b := b) (i := 1)
  simpa [Nat.shiftRight_eq_div_pow] using this

theorem xor_odd (a b : Nat) : (a ^^^ b) % 2 = (a + b) % 2 := by
  have h := Nat.xor_mod_two_pow (a := a) (b := b) (n := 1)
  rw [Nat.pow_one] at h
  rw [h]
  rcases Nat.mod_two_eq_zero_or_one a with ha | ha <;> rcases Nat.mod_two_eq_zero_or_one b with hb | hb <;> rw [ha, hb] <;> simp <;> omega

theorem step_xor (a b : Nat) : step (a ^^^ b) = step a ^^^ step b := by
  unfold step
  rw [xor_odd, xor_half]
  by_cases ha : a % 2 = 1 <;> by_cases hb : b % 2 = 1
  · rw [if_neg (by omega), if_pos ha, if_pos hb]
    rw [Nat.xor_assoc, Nat.xor_comm 2197175160, Nat.xor_assoc, Nat.xor_self, Nat.xor_zero]
  · rw [if_pos (by omega), if_pos ha, if_neg hb]
    rw [Nat.xor_assoc, Nat.xor_assoc, Nat.xor_comm (b / 2)]
  · rw [if_pos (by omega), if_neg ha, if_pos hb, Nat.xor_assoc]
  · rw [if_neg (by omega), if_neg ha, if_neg hb]

theorem step_zero : step 0 = 0 := by decide

theorem steps_xor (k a b : Nat) : steps k (a ^^^ b) = steps k a ^^^ steps k b := by
  induction k generalizing a b with
  | zero => rfl
  | succ k ih => simp only [steps, step_xor, ih]

theorem steps_zero (k : Nat) : steps k 0 = 0 := by
  induction k with
  | zero => rfl
  | succ k ih => simp only [steps, step_zero, ih]

theorem steps_add (j k c : Nat) : steps (j + k) c = steps k (steps j c) := by
  induction j generalizing c with
  | zero => simp [steps]
  | succ j ih => rw [Nat.succ_add]; simp only [steps, ih]

theorem step_lt {c : Nat} (h : c < 4294967296) : step c < 4294967296 := by
  unfold step
  by_cases hc : c % 2 = 1
  · rw [if_pos hc]
    exact Nat.xor_lt_two_pow (n := 32) (by omega) (by decide)
  · rw [if_neg hc]; omega

theorem steps_lt {c : Nat} (k : Nat) (h : c < 4294967296) : steps k c < 4294967296 := by
  induction k generalizing c with
  | zero => exact h
  | succ k ih => exact ih (step_lt h)

theorem xor_lt {a b : Nat} (ha : a < 4294967296) (hb : b < 4294967296) : a ^^^ b < 4294967296 := Nat.xor_lt_two_pow (n := 32) ha hb

theorem toNat_lt32 (b : UInt8) : b.toNat < 4294967296 := by have := b.toNat_lt; omega

theorem run_lt {c : Nat} (l : List UInt8) (h : c < 4294967296) : run c l < 4294967296 := by
  induction l generalizing c with
  | nil => rw [run_nil]; exact h
  | cons b l ih => rw [run_cons]; exact ih (steps_lt 8 (xor_lt h (toNat_lt32 b)))

theorem run_append (c : Nat) (l m : List UInt8) : run c (l ++ m) = run (run c l) m := by
  induction l generalizing c with
  | nil => rw [List.nil_append, run_nil]
  | cons b l ih => rw [List.cons_append, run_cons, run_cons, ih]

/-- No bit is lost. -/
theorem step_inj_zero {c : Nat} (h : c < 4294967296) (e : step c = 0) : c = 0 := by
  unfold step at e
  by_cases hc : c % 2 = 1
  · rw [if_pos hc] at e
    have : c / 2 = 2197175160 := by
      have h2 : (c / 2 ^^^ 2197175160) ^^^ 2197175160 = 2197175160 := by rw [e, Nat.zero_xor]
      rw [Nat.xor_assoc, Nat.xor_self, Nat.xor_zero] at h2
      exact h2
    omega
  · rw [if_neg hc] at e; omega

theorem steps_inj_zero {c : Nat} (k : Nat) (h : c < 4294967296) (e : steps k c = 0) : c = 0 := by
  induction k generalizing c with
  | zero => exact e
  | succ k ih => exact step_inj_zero h (ih (step_lt h) e)

/-- Two texts of one length, exclusive-ored. -/
def xorL (l m : List UInt8) : List UInt8 := List.zipWith (fun a b => a ^^^ b) l m

theorem run_xor : ∀ (c d : Nat) (l m : List UInt8), l.length = m.length → run (c ^^^ d) (xorL l m) = run c l ^^^ run d m
  | c, d, [], [], _ => by simp only [xorL, List.zipWith_nil_left, run_nil]
  | c, d, a :: l, b :: m, h => by
    simp only [xorL, List.zipWith_cons_cons, run_cons]
    have e : (c ^^^ d) ^^^ (a ^^^ b).toNat = (c ^^^ a.toNat) ^^^ (d ^^^ b.toNat) := by
      rw [UInt8.toNat_xor]
      rw [Nat.xor_assoc, Nat.xor_assoc, ← Nat.xor_assoc d, Nat.xor_comm d a.toNat, Nat.xor_assoc a.toNat]
    rw [e, steps_xor]
    exact run_xor _ _ l m (by simpa using h)
  | _, _, [], _ :: _, h => by simp at h
  | _, _, _ :: _, [], h => by simp at h

/-- Bits, the lowest first. -/
def bitsN : Nat → Nat → List Bool
  | 0, _ => []
  | k + 1, x => decide (x % 2 = 1) :: bitsN k (x / 2)

def runB : Nat → List Bool → Nat
  | c, [] => c
  | c, t :: l => runB (step (c ^^^ t.toNat)) l

theorem runB_append (c : Nat) (l m : List Bool) : runB c (l ++ m) = runB (runB c l) m := by
  induction l generalizing c with
  | nil => rfl
  | cons b l ih => simp only [List.cons_append, runB, ih]

theorem split_low (x : Nat) : x = (decide (x % 2 = 1)).toNat ^^^ (2 * (x / 2)) := by
  rcases Nat.mod_two_eq_zero_or_one x with h | h
  · simp [h]; omega
  · have e : (2 * (x / 2)) ^^^ 1 = 2 * (x / 2) + 1 := by
      have h1 := xor_half (2 * (x / 2)) 1
      have h2 := xor_odd (2 * (x / 2)) 1
      simp at h1
      omega
    simp [h]
    rw [Nat.xor_comm, e]
    omega

theorem step_double (x : Nat) : step (2 * x) = x := by unfold step; rw [if_neg (by omega)]; omega

/-- Bits fed one by one are as the number exclusive-ored at once. -/
theorem runB_bits (k : Nat) : ∀ (c x : Nat), x < 2 ^ k → runB c (bitsN k x) = steps k (c ^^^ x) := by
  induction k with
  | zero => intro c x h; simp at h; subst h; simp [bitsN, runB, steps]
  | succ k ih =>
    intro c x h
    have hx : x / 2 < 2 ^ k := by rw [Nat.pow_succ] at h; omega
    simp only [bitsN, runB, steps]
    rw [ih _ _ hx]
    have e := split_low x
    have e2 : step (c ^^^ x) = step (c ^^^ (decide (x % 2 = 1)).toNat) ^^^ (x / 2) := by
      conv => lhs; rw [e]
      rw [← Nat.xor_assoc, step_xor, step_double]
    rw [e2]

def bitsL : List UInt8 → List Bool
  | [] => []
  | b :: l => bitsN 8 b.toNat ++ bitsL l

theorem run_bits (c : Nat) (l : List UInt8) : run c l = runB c (bitsL l) := by
  induction l generalizing c with
  | nil => rw [run_nil]; rfl
  | cons b l ih =>
    have hb : b.toNat < 2 ^ 8 := by have := b.toNat_lt; simpa using this
    rw [run_cons, bitsL, runB_append, runB_bits 8 _ _ hb, ih]

theorem runB_zeros (c k : Nat) : runB c (List.replicate k false) = steps k c := by
  induction k generalizing c with
  | zero => rfl
  | succ k ih => simp only [List.replicate_succ, runB, steps, Bool.toNat_false, Nat.xor_zero, ih]

/-- A burst leaves something. -/
theorem burst (n k T : Nat) (hT : T < 4294967296) (h0 : T ≠ 0) : runB 0 (List.replicate n false ++ (bitsN 32 T ++ List.replicate k false)) ≠ 0 := by
  rw [runB_append, runB_append, runB_zeros 0 n, steps_zero, runB_bits 32 0 T (by simpa using hT), runB_zeros, Nat.zero_xor]
  intro e
  exact h0 (steps_inj_zero 32 hT (steps_inj_zero k (steps_lt 32 hT) e))

theorem bitsN_length (k x : Nat) : (bitsN k x).length = k := by
  induction k generalizing x with
  | zero => rfl
  | succ k ih => simp [bitsN, ih]

theorem bitsL_length (l : List UInt8) : (bitsL l).length = 8 * l.length := by
  induction l with
  | nil => rfl
  | cons b l ih => simp [bitsL, bitsN_length, ih]; omega

theorem bitsN_get (k x i : Nat) (h : i < (bitsN k x).length) : (bitsN k x)[i] = x.testBit i := by
  induction k generalizing x i with
  | zero => simp [bitsN] at h
  | succ k ih =>
    cases i with
    | zero => simp [bitsN, Nat.testBit_zero]
    | succ i =>
      simp only [bitsN, List.getElem_cons_succ]
      rw [ih, Nat.testBit_succ]

theorem bitsL_get : ∀ (l : List UInt8) (p : Nat) (h : p < (bitsL l).length), (bitsL l)[p] = (l.getD (p / 8) 0).toNat.testBit (p % 8)
  | [], p, h => by simp [bitsL] at h
  | b :: l, p, h => by
    simp only [bitsL]
    by_cases hp : p < 8
    · rw [List.getElem_append_left (by rw [bitsN_length]; exact hp), bitsN_get]
      rw [show p / 8 = 0 from by omega, show p % 8 = p from by omega]
      simp
    · rw [List.getElem_append_right (by rw [bitsN_length]; omega)]
      simp only [bitsN_length]
      have hl : p - 8 < (bitsL l).length := by simp [bitsL, bitsN_length] at h; omega
      rw [bitsL_get l (p - 8) hl]
      rw [show p / 8 = (p - 8) / 8 + 1 from by omega, show p % 8 = (p - 8) % 8 from by omega]
      simp

/-- Octets whose bits are those of T, from 'at' on, and none else, leave something. -/
theorem burst_run (D : List UInt8) (p T : Nat) (hT : T < 4294967296) (h0 : T ≠ 0) (hp : p + 32 ≤ 8 * D.length)
    (hD : ∀ i, i < 8 * D.length → (D.getD (i / 8) 0).toNat.testBit (i % 8) = (decide (p ≤ i ∧ i < p + 32) && T.testBit (i - p))) : run 0 D ≠ 0 := by
  rw [run_bits]
  have e : bitsL D = List.replicate p false ++ (bitsN 32 T ++ List.replicate (8 * D.length - (p + 32)) false) := by
    apply List.ext_getElem
    · simp [bitsL_length, bitsN_length]; omega
    · intro i h1 h2
      rw [bitsL_get, hD i (by rw [bitsL_length] at h1; exact h1)]
      by_cases a : i < p
      · rw [List.getElem_append_left (by simpa using a)]
        simp; omega
      · rw [List.getElem_append_right (by simpa using a)]
        simp only [List.length_replicate]
        by_cases b : i < p + 32
        · rw [List.getElem_append_left (by rw [bitsN_length]; omega), bitsN_get]
          simp; omega
        · rw [List.getElem_append_right (by rw [bitsN_length]; omega)]
          simp; omega
  rw [e]
  exact burst p _ T hT h0

/-- The sum of octets; and what goes on from a sum. -/
def sum (l : List UInt8) : Nat := 4294967295 - run 4294967295 l
def more (c : Nat) (l : List UInt8) : Nat := 4294967295 - run (4294967295 - c) l

theorem sum_lt (l : List UInt8) : sum l < 4294967296 := by unfold sum; omega

theorem more_sum (l m : List UInt8) : more (sum l) m = sum (l ++ m) := by
  unfold more sum
  have h := run_lt l (show 4294967295 < 4294967296 by decide)
  rw [run_append, show 4294967295 - (4294967295 - run 4294967295 l) = run 4294967295 l from by omega]

/-- All bits turned. -/
theorem flip_xor {x : Nat} (h : x < 4294967296) : 4294967295 - x = x ^^^ 4294967295 := by
  apply Nat.eq_of_testBit_eq
  intro i
  have e1 := Nat.testBit_two_pow_sub_succ (n := 32) (x := x) (by simpa using h) i
  have e2 := Nat.testBit_two_pow_sub_one 32 i
  rw [show 2 ^ 32 - (x + 1) = 4294967295 - x from by omega] at e1
  rw [show 2 ^ 32 - 1 = 4294967295 from by decide] at e2
  rw [Nat.testBit_xor, e1, e2]
  by_cases hi : i < 32
  · simp [hi]
  · have : x.testBit i = false := Nat.testBit_lt_two_pow (Nat.lt_of_lt_of_le (show x < 2 ^ 32 by simpa using h) (Nat.pow_le_pow_right (by decide) (by omega)))
    simp [hi, this]

/-- Of three texts of one length the sums are linear. -/
theorem sum_three (x y z : List UInt8) (h1 : x.length = y.length) (h2 : y.length = z.length) : sum (xorL (xorL x y) z) = sum x ^^^ sum y ^^^ sum z := by
  have hx := run_lt x (show 4294967295 < 4294967296 by decide)
  have hy := run_lt y (show 4294967295 < 4294967296 by decide)
  have hz := run_lt z (show 4294967295 < 4294967296 by decide)
  have e : run 4294967295 (xorL (xorL x y) z) = run 4294967295 x ^^^ run 4294967295 y ^^^ run 4294967295 z := by
    rw [← run_xor _ _ x y h1, ← run_xor _ _ (xorL x y) z (by simp [xorL]; omega), Nat.xor_self, Nat.zero_xor]
  unfold sum
  rw [e, flip_xor (xor_lt (xor_lt hx hy) hz), flip_xor hx, flip_xor hy, flip_xor hz]
  generalize run 4294967295 x = a
  generalize run 4294967295 y = b
  generalize run 4294967295 z = c
  generalize 4294967295 = o
  apply Nat.eq_of_testBit_eq
  intro i
  simp only [Nat.testBit_xor]
  cases a.testBit i <;> cases b.testBit i <;> cases c.testBit i <;> cases o.testBit i <;> rfl

/-- Texts of one length that differ by a burst have unlike sums. -/
theorem sum_unlike (x y : List UInt8) (h : x.length = y.length) (hne : run 0 (xorL x y) ≠ 0) : sum x ≠ sum y := by
  intro e
  have hx := run_lt x (show 4294967295 < 4294967296 by decide)
  have hy := run_lt y (show 4294967295 < 4294967296 by decide)
  have e2 : run 4294967295 x = run 4294967295 y := by unfold sum at e; omega
  have e3 := run_xor 4294967295 4294967295 x y h
  rw [Nat.xor_self, e2, Nat.xor_self] at e3
  exact hne e3

/-- Four octets, the lowest first. -/
def le4 (c : Nat) : List UInt8 := [UInt8.ofNat c, UInt8.ofNat (c / 256), UInt8.ofNat (c / 65536), UInt8.ofNat (c / 16777216)]

theorem low_split (c : Nat) : c = (c % 256) ^^^ (256 * (c / 256)) := by
  apply Nat.eq_of_testBit_eq
  intro i
  rw [Nat.testBit_xor, show (256 : Nat) = 2 ^ 8 from rfl, Nat.testBit_mod_two_pow, Nat.testBit_two_pow_mul, Nat.testBit_div_two_pow]
  by_cases h : i < 8
  · simp [h, show ¬ 8 ≤ i by omega]
  · have h2 : i - 8 + 8 = i := by omega
    simp [h, h2, show 8 ≤ i by omega]

theorem steps8_shift (x : Nat) : steps 8 (256 * x) = x := by
  simp only [steps]
  rw [show 256 * x = 2 * (2 * (2 * (2 * (2 * (2 * (2 * (2 * x))))))) from by omega]
  simp only [step_double]

/-- An octet of c at a time is c at once. -/
theorem run_le4 (r c : Nat) (hc : c < 4294967296) : run r (le4 c) = steps 32 (r ^^^ c) := by
  have g : ∀ (r c : Nat), steps 8 (r ^^^ c) = steps 8 (r ^^^ c % 256) ^^^ c / 256 := by
    intro r c
    have e : r ^^^ c = (r ^^^ c % 256) ^^^ (256 * (c / 256)) := by
      rw [Nat.xor_assoc, ← low_split c]
    rw [e, steps_xor, steps8_shift]
  have e32 : ∀ x, steps 32 x = steps 8 (steps 8 (steps 8 (steps 8 x))) := by
    intro x
    rw [← steps_add, ← steps_add, ← steps_add]
  rw [e32, g r c, g _ (c / 256), g _ (c / 256 / 256), g _ (c / 256 / 256 / 256)]
  rw [show c / 256 / 256 / 256 / 256 = 0 from by omega, Nat.xor_zero]
  simp only [le4, run_cons, run_nil, UInt8.toNat_ofNat']
  rw [show c / 256 / 256 = c / 65536 from by omega, show c / 65536 / 256 = c / 16777216 from by omega]

/-- What bears its sum leaves one and the same. -/
theorem run_sealed (l : List UInt8) : run 4294967295 (l ++ le4 (sum l)) = steps 32 4294967295 := by
  have h := run_lt l (show 4294967295 < 4294967296 by decide)
  rw [run_append, run_le4 _ _ (sum_lt l)]
  congr 1
  unfold sum
  rw [flip_xor h, ← Nat.xor_assoc, Nat.xor_self, Nat.zero_xor]

/-- Octets that bear a sum, turned by what leaves something, bear none. -/
theorem sealed_told (l m : List UInt8) (t : List UInt8) (hs : t.length = (l ++ le4 (sum l)).length) (hne : run 0 (xorL (l ++ le4 (sum l)) t) ≠ 0) : t ≠ m ++ le4 (sum m) := by
  intro e
  have e1 := run_sealed l
  have e2 := run_sealed m
  rw [← e] at e2
  have e3 := run_xor 4294967295 4294967295 (l ++ le4 (sum l)) t hs.symm
  rw [Nat.xor_self, e1, e2, Nat.xor_self] at e3
  exact hne e3

/-- Half an octet at a time. -/
theorem steps_split (k c : Nat) : steps k c = (c / 2 ^ k) ^^^ steps k (c % 2 ^ k) := by
  induction k generalizing c with
  | zero => simp [steps, Nat.mod_one]
  | succ k ih =>
    simp only [steps]
    have e := split_low c
    have e1 : step c = step (decide (c % 2 = 1)).toNat ^^^ (c / 2) := by
      have h := congrArg step e
      rw [step_xor, step_double] at h
      exact h
    have e4 : (c % 2 ^ (k + 1)) / 2 = (c / 2) % 2 ^ k := by rw [Nat.pow_succ, Nat.mul_comm, Nat.mod_mul_right_div_self]
    have e5 : (c % 2 ^ (k + 1)) % 2 = c % 2 := by rw [Nat.pow_succ, Nat.mul_comm]; exact Nat.mod_mul_right_mod c 2 (2 ^ k)
    have f := split_low (c % 2 ^ (k + 1))
    rw [e4, e5] at f
    have e2 : step (c % 2 ^ (k + 1)) = step (decide (c % 2 = 1)).toNat ^^^ ((c / 2) % 2 ^ k) := by
      have h := congrArg step f
      rw [step_xor, step_double] at h
      exact h
    rw [e1, e2, steps_xor, steps_xor, ih (c / 2), ← Nat.xor_assoc, ← Nat.xor_assoc]
    rw [Nat.xor_comm (steps k _), Nat.div_div_eq_div_mul, Nat.pow_succ, Nat.mul_comm 2]

end Go.Proofs.Ytbglgplfjhiafaa.Crc
