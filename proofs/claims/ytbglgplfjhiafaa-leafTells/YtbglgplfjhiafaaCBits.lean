/-
  Bits of 32 and of 8, and octets turned in memory. Conditions: those that each lemma names.
-/
import Derived.Test.YtbglgplfjhiafaaBytes
import Derived.Test.YtbglgplfjhiafaaSpec2c
namespace Go.Proofs.Ytbglgplfjhiafaa
open Go.RowKit
set_option linter.unusedVariables false

theorem and_one (y : Nat) (h : y < 4294967296) : bits BinOp.and IntKind.u32 (y : Int) 1 = ((y % 2 : Nat) : Int) := by
  have := u32_and_nat y 1 h (by decide)
  rw [Nat.and_one_is_mod] at this
  simpa using this

theorem odd_bit (y : Nat) (h : y < 4294967296) (ho : y % 2 = 1) : (bits BinOp.and IntKind.u32 (y : Int) 1 == 1) = true := by
  rw [and_one y h, ho]; rfl

theorem even_bit (y : Nat) (h : y < 4294967296) (ho : ¬ y % 2 = 1) : (bits BinOp.and IntKind.u32 (y : Int) 1 == 1) = false := by
  rw [and_one y h, show y % 2 = 0 from by omega]; rfl

theorem not_bits (r : Nat) (h : r < 4294967296) : bits BinOp.xor IntKind.u32 IntKind.u32.max (r : Int) = ((4294967295 - r : Nat) : Int) := by
  have h1 := u32_xor_nat 4294967295 r (by decide) h
  rw [Crc.flip_xor h, Nat.xor_comm, ← h1]
  rfl

theorem own_some {w : World} {base n c e : Nat} {a : Option Addr} {xs : List Value} (h : w.ownsRow base e 1 (.slice a n c) n xs) (hn : 0 < n) : ∃ g, a = some ⟨g, 0, none⟩ := by
  rcases h.2 with ⟨e1, rfl⟩ | ⟨g, cap, cur, e1, _⟩
  · omega
  · cases e1; exact ⟨g, rfl⟩

theorem turned_no (S : List UInt8) (p T k : Nat) (h : ¬ T.testBit k = true) : Crc.turned S p T (k + 1) = Crc.turned S p T k := by
  simp only [Crc.turned, if_neg h]

theorem turned_yes (S : List UInt8) (p T k : Nat) (h : T.testBit k = true) : Crc.turned S p T (k + 1) = (Crc.turned S p T k).set ((p + k) / 8) ((Crc.turned S p T k).getD ((p + k) / 8) 0 ^^^ UInt8.ofNat (2 ^ ((p + k) % 8))) := by
  simp only [Crc.turned, if_pos h]

theorem xor_byte (x : UInt8) (b : Nat) (hb : b < 8) : bits BinOp.xor IntKind.u8 (x.toNat : Int) (2 ^ b % 256) = ((x ^^^ UInt8.ofNat (2 ^ b)).toNat : Int) := by
  have hx : x.toNat < 256 := by have := x.toNat_lt; simpa using this
  have h2 : 2 ^ b < 256 := by
    have := Nat.pow_lt_pow_right (a := 2) (by decide) hb
    simpa using this
  have h := u8_xor_nat x.toNat (2 ^ b) hx h2
  have e : ((2 : Int) ^ b % 256) = ((2 ^ b : Nat) : Int) := by
    have e1 : ((2 : Int) ^ b) = ((2 ^ b : Nat) : Int) := by simp
    rw [e1]
    generalize 2 ^ b = z at h2
    omega
  rw [e, h, UInt8.toNat_xor, UInt8.toNat_ofNat', Nat.mod_eq_of_lt (by simpa using h2)]

theorem store_turn {wr : World} {base g m c i b : Nat} {U : List UInt8} (hb : b < 8) (hi : i < U.length) (h : wr.ownsRow base 5 1 (.slice (some ⟨g, 0, none⟩) m c) m (cellsOf U)) :
    (wr.setCell ⟨g, i, none⟩ (.int .u8 (bits BinOp.xor IntKind.u8 (U[i].toNat : Int) (2 ^ b % 256)))).ownsRow base 5 1 (.slice (some ⟨g, 0, none⟩) m c) m (cellsOf (U.set i (U.getD i 0 ^^^ UInt8.ofNat (2 ^ b)))) := by
  have h1 := (h.stored i (.int .u8 (bits BinOp.xor IntKind.u8 (U[i].toNat : Int) (2 ^ b % 256)))).1
  rw [xor_byte _ _ hb] at h1 ⊢
  have e : U.getD i 0 = U[i] := by simp [List.getD, List.getElem?_eq_getElem hi]
  rw [e, cellsOf, List.map_set]
  exact h1

theorem bit_test (T i : Nat) (hT : T < 4294967296) : (bits BinOp.and IntKind.u32 ((T : Int) / 2 ^ i) 1 == 1) = T.testBit i := by
  have h1 : T / 2 ^ i < 4294967296 := Nat.lt_of_le_of_lt (Nat.div_le_self _ _) hT
  have e : ((T : Int) / 2 ^ i) = ((T / 2 ^ i : Nat) : Int) := by simp
  rw [e, and_one _ h1, Nat.testBit_eq_decide_div_mod_eq]
  by_cases h : T / 2 ^ i % 2 = 1
  · simp [h]
  · have : T / 2 ^ i % 2 = 0 := by omega
    simp [this]

end Go.Proofs.Ytbglgplfjhiafaa
