/-
  Plain functions: a sector of which one octet is another is no superblock. It imports no program. Conditions: those that each lemma names.
-/
import Derived.Test.YtbglgplfjhiafaaSSpec
namespace Go.Proofs.Ytbglgplfjhiafaa.Sup
open Oct Crc

theorem run_one (D : List UInt8) (i : Nat) (t : UInt8) (ht : t ≠ 0) (hi : i < D.length) (h4 : 4 ≤ D.length) (hD : ∀ j, D.getD j 0 = if j = i then t else 0) : run 0 D ≠ 0 := by
  have ht0 : t.toNat ≠ 0 := fun h => ht (UInt8.toNat_inj.1 (by simpa using h))
  have hlt : t.toNat < 256 := by have := t.toNat_lt; simpa using this
  obtain ⟨q, hq⟩ : ∃ q, q = min i (D.length - 4) := ⟨_, rfl⟩
  have hk : i - q ≤ 3 := by omega
  have hk2 : q ≤ i := by omega
  have hpow : 2 ^ (8 * (i - q)) ≤ 16777216 := by
    have : 2 ^ (8 * (i - q)) ≤ 2 ^ 24 := Nat.pow_le_pow_right (by decide) (by omega)
    simpa using this
  have hpos : 0 < 2 ^ (8 * (i - q)) := Nat.pow_pos (by decide)
  refine burst_run D (8 * q) (t.toNat * 2 ^ (8 * (i - q))) ?_ ?_ (by omega) ?_
  · calc t.toNat * 2 ^ (8 * (i - q)) ≤ 255 * 16777216 := Nat.mul_le_mul (by omega) hpow
      _ < 4294967296 := by decide
  · exact Nat.mul_ne_zero ht0 (by omega)
  · intro b hb
    rw [hD, Nat.testBit_mul_two_pow]
    by_cases e : b / 8 = i
    · rw [if_pos e]
      have c1 : decide (8 * q ≤ b ∧ b < 8 * q + 32) = true := decide_eq_true (by omega)
      have c2 : decide (8 * (i - q) ≤ b - 8 * q) = true := decide_eq_true (by omega)
      have c3 : b - 8 * q - 8 * (i - q) = b % 8 := by omega
      simp only [c1, c2, c3, Bool.true_and]
    · rw [if_neg e]
      have z : (0 : UInt8).toNat.testBit (b % 8) = false := by simp
      rw [z]
      by_cases c1 : 8 * q ≤ b ∧ b < 8 * q + 32
      · by_cases c2 : 8 * (i - q) ≤ b - 8 * q
        · have c3 : 8 ≤ b - 8 * q - 8 * (i - q) := by omega
          have c4 : t.toNat.testBit (b - 8 * q - 8 * (i - q)) = false := Nat.testBit_lt_two_pow (Nat.lt_of_lt_of_le hlt (by
            have : 2 ^ 8 ≤ 2 ^ (b - 8 * q - 8 * (i - q)) := Nat.pow_le_pow_right (by decide) c3
            simpa using this))
          simp [c4]
        · simp [c2]
      · simp [c1]

/-- A sector of which one octet is another. -/
theorem decode_turned {s : Super} (h : ok s = true) (i : Nat) (hi : i < 64) (t : UInt8) (ht : t ≠ 0) :
    decodeE ((enc s).set i ((enc s).getD i 0 ^^^ t)) = 21 ∧ decodeS ((enc s).set i ((enc s).getD i 0 ^^^ t)) = zero := by
  have hl := enc_length h
  have hs : ((enc s).set i ((enc s).getD i 0 ^^^ t)).length = (sealed (body s)).length := by rw [List.length_set]; rfl
  have hne : run 0 (xorL (sealed (body s)) ((enc s).set i ((enc s).getD i 0 ^^^ t))) ≠ 0 := by
    have hlen : (xorL (enc s) ((enc s).set i ((enc s).getD i 0 ^^^ t))).length = 64 := by simp [xorL, hl]
    refine run_one _ i t ht (by rw [show sealed (body s) = enc s from rfl, hlen]; exact hi) (by rw [show sealed (body s) = enc s from rfl, hlen]; decide) (fun j => ?_)
    rw [show sealed (body s) = enc s from rfl, xorL_getD _ _ (by rw [List.length_set]), getD_set _ _ _ _ (by omega)]
    by_cases e : i = j
    · subst e
      rw [if_pos rfl, if_pos rfl, ← UInt8.xor_assoc, UInt8.xor_self, UInt8.zero_xor]
    · rw [if_neg e, if_neg (fun h => e h.symm), UInt8.xor_self]
  exact decode_refused (by rw [List.length_set, hl]) (by rw [(open_turned (body s) _ hs hne).1]; decide)

end Go.Proofs.Ytbglgplfjhiafaa.Sup
