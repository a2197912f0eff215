/-
  Plain functions: what each call of octets answers, and facts on them. It imports no program. Conditions: those that each lemma names.
-/
import Derived.Test.YtbglgplfjhiafaaPlain
namespace Go.Proofs.Ytbglgplfjhiafaa.Oct

def sizeOk (S : Int) : Bool := decide (1 ≤ S ∧ S ≤ 8)

def putE (n : Nat) (S : Int) : Int := if sizeOk S = false then 1 else if 256 ^ S.toNat ≤ n then 4 else 0
def putL (n : Nat) (S : Int) : List UInt8 := if putE n S = 0 then octs n S.toNat else []

def getE (l : List UInt8) (P S : Int) : Int := if sizeOk S = false then 1 else if P < 0 then 4 else if l.length < P.toNat + S.toNat then 8 else 0
def getV (l : List UInt8) (P S : Int) : Nat := if getE l P S = 0 then num (cut l P.toNat S.toNat) else 0

def textE (s : List UInt8) : Int := if 255 < s.length then 5 else 0
def textL (s : List UInt8) : List UInt8 := if textE s = 0 then UInt8.ofNat s.length :: s else []

def lenAt (l : List UInt8) (P : Int) : Nat := (l.getD P.toNat 0).toNat
def readE (l : List UInt8) (P : Int) : Int := if P < 0 then 4 else if l.length < P.toNat + 1 then 8 else if l.length < P.toNat + 1 + lenAt l P then 8 else 0
def readS (l : List UInt8) (P : Int) : List UInt8 := if readE l P = 0 then cut l (P.toNat + 1) (lenAt l P) else []
def readN (l : List UInt8) (P : Int) : Nat := if readE l P = 0 then P.toNat + 1 + lenAt l P else 0

theorem putE_arg {n : Nat} {S : Int} (h : ¬ (1 ≤ S ∧ S ≤ 8)) : putE n S = 1 := by
  have : sizeOk S = false := by simpa [sizeOk] using h
  simp [putE, this]
theorem putE_range {n s : Nat} (h1 : 1 ≤ s) (h2 : s ≤ 8) (h : 256 ^ s ≤ n) : putE n s = 4 := by
  have : sizeOk s = true := by simp [sizeOk]; omega
  simp [putE, this, h]
theorem putE_ok {n s : Nat} (h1 : 1 ≤ s) (h2 : s ≤ 8) (h : n < 256 ^ s) : putE n s = 0 := by
  have : sizeOk s = true := by simp [sizeOk]; omega
  simp [putE, this]; omega
theorem putL_ok {n s : Nat} (h1 : 1 ≤ s) (h2 : s ≤ 8) (h : n < 256 ^ s) : putL n s = octs n s := by
  simp [putL, putE_ok h1 h2 h]

theorem putE_cases (n : Nat) (S : Int) :
    (¬ (1 ≤ S ∧ S ≤ 8) ∧ putE n S = 1 ∧ putL n S = []) ∨ (∃ s : Nat, S = s ∧ 1 ≤ s ∧ s ≤ 8 ∧ 256 ^ s ≤ n ∧ putE n S = 4 ∧ putL n S = []) ∨
    (∃ s : Nat, S = s ∧ 1 ≤ s ∧ s ≤ 8 ∧ n < 256 ^ s ∧ putE n S = 0 ∧ putL n S = octs n s) := by
  by_cases h : 1 ≤ S ∧ S ≤ 8
  · obtain ⟨s, rfl⟩ := Int.eq_ofNat_of_zero_le (show 0 ≤ S by omega)
    have h1 : 1 ≤ s := by omega
    have h2 : s ≤ 8 := by omega
    by_cases h3 : n < 256 ^ s
    · exact .inr (.inr ⟨s, rfl, h1, h2, h3, putE_ok h1 h2 h3, putL_ok h1 h2 h3⟩)
    · exact .inr (.inl ⟨s, rfl, h1, h2, by omega, putE_range h1 h2 (by omega), by simp [putL, putE_range h1 h2 (show 256 ^ s ≤ n by omega)]⟩)
  · exact .inl ⟨h, putE_arg h, by simp [putL, putE_arg h]⟩

theorem putE_zero {n : Nat} {S : Int} (h : putE n S = 0) : ∃ s : Nat, S = s ∧ 1 ≤ s ∧ s ≤ 8 ∧ n < 256 ^ s ∧ putL n S = octs n s := by
  rcases putE_cases n S with ⟨_, e, _⟩ | ⟨s, _, _, _, _, e, _⟩ | ⟨s, e1, e2, e3, e4, _, e5⟩
  · omega
  · omega
  · exact ⟨s, e1, e2, e3, e4, e5⟩

theorem putL_length (n : Nat) (S : Int) : (putL n S).length ≤ 8 := by
  rcases putE_cases n S with ⟨_, _, e⟩ | ⟨s, _, _, _, _, _, e⟩ | ⟨s, _, _, h, _, _, e⟩ <;> rw [e] <;> simp [octs_length]
  exact h

theorem getE_cases (l : List UInt8) (P S : Int) :
    (¬ (1 ≤ S ∧ S ≤ 8) ∧ getE l P S = 1 ∧ getV l P S = 0) ∨ ((1 ≤ S ∧ S ≤ 8) ∧ P < 0 ∧ getE l P S = 4 ∧ getV l P S = 0) ∨
    (∃ p s : Nat, P = p ∧ S = s ∧ 1 ≤ s ∧ s ≤ 8 ∧ l.length < p + s ∧ getE l P S = 8 ∧ getV l P S = 0) ∨
    (∃ p s : Nat, P = p ∧ S = s ∧ 1 ≤ s ∧ s ≤ 8 ∧ p + s ≤ l.length ∧ getE l P S = 0 ∧ getV l P S = num (cut l p s)) := by
  by_cases h : 1 ≤ S ∧ S ≤ 8
  · have hs : sizeOk S = true := by simpa [sizeOk] using h
    by_cases hp : P < 0
    · have : getE l P S = 4 := by simp [getE, hs, hp]
      exact .inr (.inl ⟨h, hp, this, by simp [getV, this]⟩)
    · obtain ⟨s, rfl⟩ := Int.eq_ofNat_of_zero_le (show 0 ≤ S by omega)
      obtain ⟨p, rfl⟩ := Int.eq_ofNat_of_zero_le (show 0 ≤ P by omega)
      by_cases h3 : l.length < p + s
      · have : getE l p s = 8 := by simp [getE, hs, h3]
        exact .inr (.inr (.inl ⟨p, s, rfl, rfl, by omega, by omega, h3, this, by simp [getV, this]⟩))
      · have : getE l p s = 0 := by simp [getE, hs]; omega
        exact .inr (.inr (.inr ⟨p, s, rfl, rfl, by omega, by omega, by omega, this, by simp [getV, this]⟩))
  · have hs : sizeOk S = false := by simpa [sizeOk] using h
    have : getE l P S = 1 := by simp [getE, hs]
    exact .inl ⟨h, this, by simp [getV, this]⟩

theorem readE_cases (l : List UInt8) (P : Int) :
    (P < 0 ∧ readE l P = 4 ∧ readS l P = [] ∧ readN l P = 0) ∨
    (∃ p : Nat, P = p ∧ l.length < p + 1 ∧ readE l P = 8 ∧ readS l P = [] ∧ readN l P = 0) ∨
    (∃ p : Nat, P = p ∧ p < l.length ∧ l.length < p + 1 + (l.getD p 0).toNat ∧ readE l P = 8 ∧ readS l P = [] ∧ readN l P = 0) ∨
    (∃ p : Nat, P = p ∧ p < l.length ∧ p + 1 + (l.getD p 0).toNat ≤ l.length ∧ readE l P = 0 ∧ readS l P = cut l (p + 1) (l.getD p 0).toNat ∧ readN l P = p + 1 + (l.getD p 0).toNat) := by
  by_cases hp : P < 0
  · have : readE l P = 4 := by simp [readE, hp]
    exact .inl ⟨hp, this, by simp [readS, this], by simp [readN, this]⟩
  · obtain ⟨p, rfl⟩ := Int.eq_ofNat_of_zero_le (show 0 ≤ P by omega)
    have e : lenAt l p = (l.getD p 0).toNat := rfl
    by_cases h1 : l.length < p + 1
    · have : readE l p = 8 := by unfold readE; rw [if_neg hp, if_pos (by simpa using h1)]
      exact .inr (.inl ⟨p, rfl, h1, this, by simp [readS, this], by simp [readN, this]⟩)
    · by_cases h2 : l.length < p + 1 + (l.getD p 0).toNat
      · have : readE l p = 8 := by unfold readE; rw [if_neg hp, if_neg (by simpa using h1), if_pos (by rw [e]; simpa using h2)]
        exact .inr (.inr (.inl ⟨p, rfl, by omega, h2, this, by simp [readS, this], by simp [readN, this]⟩))
      · have : readE l p = 0 := by unfold readE; rw [if_neg hp, if_neg (by simpa using h1), if_neg (by rw [e]; simpa using h2)]
        exact .inr (.inr (.inr ⟨p, rfl, by omega, by omega, this, by simp only [readS, this, if_true, e]; rfl, by simp only [readN, this, if_true, e]; rfl⟩))

theorem cut_behind (l k : List UInt8) : cut (l ++ k) l.length k.length = k := by simp [cut]

theorem get_behind (l : List UInt8) (n s : Nat) (h1 : 1 ≤ s) (h2 : s ≤ 8) (h : n < 256 ^ s) : getE (l ++ octs n s) l.length s = 0 ∧ getV (l ++ octs n s) l.length s = n := by
  rcases getE_cases (l ++ octs n s) l.length s with ⟨h, _⟩ | ⟨_, h, _⟩ | ⟨p, q, hp, hq, _, _, h, _⟩ | ⟨p, q, hp, hq, _, _, _, e1, e2⟩
  · omega
  · omega
  · simp [octs_length] at h; omega
  · obtain rfl : p = l.length := by omega
    obtain rfl : q = s := by omega
    refine ⟨e1, ?_⟩
    rw [e2]
    have := cut_behind l (octs n q)
    rw [octs_length] at this
    rw [this, num_octs n q h]

theorem textE_zero {s : List UInt8} (h : textE s = 0) : s.length ≤ 255 ∧ textL s = UInt8.ofNat s.length :: s := by
  have : s.length ≤ 255 := by
    by_cases g : 255 < s.length
    · simp [textE, g] at h
    · omega
  exact ⟨this, by simp [textL, h]⟩

theorem textE_other {s : List UInt8} (h : textE s ≠ 0) : textL s = [] := by simp [textL, h]

theorem putE_other {n : Nat} {S : Int} (h : putE n S ≠ 0) : putL n S = [] := by simp [putL, h]

theorem read_behind (l s : List UInt8) (h : textE s = 0) : readE (l ++ textL s) l.length = 0 ∧ readS (l ++ textL s) l.length = s ∧ readN (l ++ textL s) l.length = l.length + 1 + s.length := by
  obtain ⟨h1, h2⟩ := textE_zero h
  have hx : ((l ++ textL s).getD l.length 0).toNat = s.length := by
    rw [h2]; simp; omega
  have hlen : (l ++ textL s).length = l.length + 1 + s.length := by rw [h2]; simp; omega
  rcases readE_cases (l ++ textL s) l.length with ⟨h, _⟩ | ⟨p, hp, h, _⟩ | ⟨p, hp, _, h, _⟩ | ⟨p, hp, _, _, e1, e2, e3⟩
  · omega
  · omega
  · obtain rfl : p = l.length := by omega
    omega
  · obtain rfl : p = l.length := by omega
    refine ⟨e1, ?_, ?_⟩
    · rw [e2, hx, h2]
      simp [cut]
    · rw [e3, hx]

theorem octs_snoc (n s : Nat) : octs n (s + 1) = octs n s ++ [UInt8.ofNat (n / 256 ^ s)] := by
  induction s generalizing n with
  | zero => simp [octs]
  | succ s ih =>
    rw [octs, ih (n / 256), octs, List.cons_append, Nat.div_div_eq_div_mul, Nat.pow_succ, Nat.mul_comm]

theorem div_step (n k : Nat) : n / 256 ^ k / 256 = n / 256 ^ (k + 1) := by rw [Nat.div_div_eq_div_mul, Nat.pow_succ]

end Go.Proofs.Ytbglgplfjhiafaa.Oct
