/-
  The contracts of the document's own answers for the checksum. Conditions: those that each contract names.
-/
import Derived.Test.YtbglgplfjhiafaaBytes
import Derived.Test.YtbglgplfjhiafaaCrc
import Derived.Test.YtbglgplfjhiafaaCBits
namespace Go.Proofs.Ytbglgplfjhiafaa
open Go.RowKit
set_option linter.unusedVariables false

set_option maxHeartbeats 800000 in
theorem refRun_u (w : World) (c0 : Nat) (C : Int) (hC : C = (c0 : Int)) (hc0 : c0 < 4294967296) (a : Option Addr) (n cap : Nat) (l : List UInt8) (hn : n ≤ maxLen) (hB : IsB w a n l) :
    Calls Try.prog 51 #[.int .u32 C, .slice a n cap] w fun e w' => e = .returned (.int .u32 (Crc.run c0 l : Nat)) ∧ w = w' := by
  subst hC
  have hl := hB.1
  unfold maxLen at hn
  have HR0 : Hid (c0 = Crc.run c0 (l.take 0)) := by unfold Hid; rw [List.take_zero, Crc.run_nil]
  go_enter Try.func51, Try.ntmps51
  go_wp2
  go_loop [0, 5] (fun v i => ∃ (k r : Nat), k ≤ n ∧ i = .int .i64 k ∧ v = .int .u32 r ∧ r < 4294967296 ∧ Hid (r = Crc.run c0 (l.take k)))
    (fun _ i => n - (intOf i).toNat)
  case atStart => exact ⟨0, c0, Nat.zero_le _, rfl, rfl, hc0, HR0⟩
  case round =>
    obtain ⟨k, r, hk, rfl, rfl, hr, HR⟩ := hrel
    by_cases hlt : k < n
    · obtain ⟨b, off, rfl, hcell⟩ := hB.place (by omega)
      have d1 := hcell k (by omega)
      have hx : (l[k]'(by omega)).toNat < 256 := by have := (l[k]'(by omega)).toNat_lt; simpa using this
      have hnext : Crc.run c0 (l.take (k + 1)) = Crc.steps 8 (Crc.run c0 (l.take k) ^^^ (l[k]'(by omega)).toNat) := by
        rw [List.take_succ_eq_append_getElem (by omega), Crc.run_append, Crc.run_cons, Crc.run_nil]
      rw [← HR.out] at hnext
      generalize (l[k]'(by omega)).toNat = x at *
      have HN : Hid _ := hnext
      clear hnext hcell
      have hw8 : IntKind.u32.wrap (x : Int) = (x : Int) := by simp [IntKind.wrap, IntKind.bits, IntKind.signed]; omega
      have hxor := u32_xor_nat r x hr (by omega)
      have hlt0 := Crc.xor_lt hr (show x < 4294967296 by omega)
      generalize r ^^^ x = y0 at *
      have HS0 : Hid (y0 = Crc.steps 0 y0) := by unfold Hid; simp only [Crc.steps]
      go_wp2
      clear hxor hw8 hr HR d1
      go_loop [0, 6] (fun v i => ∃ (j y : Nat), j ≤ 8 ∧ i = .int .i64 j ∧ v = .int .u32 y ∧ y < 4294967296 ∧ Hid (y = Crc.steps j y0))
        (fun _ i => 8 - (intOf i).toNat)
      case atStart => exact ⟨0, y0, Nat.zero_le _, rfl, rfl, hlt0, HS0⟩
      case round =>
        obtain ⟨j, y, hj, rfl, rfl, hy, HY⟩ := hrel
        by_cases hj8 : j < 8
        · have hstep : Crc.steps (j + 1) y0 = Crc.step y := by
            have h1 := HY.out
            rw [Crc.steps_add, ← h1]
            simp only [Crc.steps]
          have hylt := Crc.step_lt hy
          have HST : Hid _ := hstep
          clear hstep
          by_cases ho : y % 2 = 1
          · have hob := odd_bit y hy ho
            have hxy : bits BinOp.xor IntKind.u32 ((y : Int) / 2) 2197175160 = ((Crc.step y : Nat) : Int) := by
              have h1 := u32_xor_nat (y / 2) 2197175160 (by omega) (by decide)
              have h2 : Crc.step y = (y / 2) ^^^ 2197175160 := by unfold Crc.step; rw [if_pos ho]
              rw [h2]
              simpa using h1
            have HXY : Hid _ := hxy
            clear hxy ho
            go_wp2
            go_round
            case rel => exact ⟨j + 1, Crc.step y, by omega, by go_num, by rw [HXY.out], hylt, HST.out.symm⟩
            case measure => simp [intOf]; omega
          · have hob := even_bit y hy ho
            have hst : Crc.step y = y / 2 := by unfold Crc.step; rw [if_neg ho]
            have HSY : Hid _ := hst
            clear hst ho
            go_wp2
            go_round
            case rel => exact ⟨j + 1, y / 2, by omega, by go_num, by go_num, by omega, by unfold Hid; rw [HST.out, HSY.out]⟩
            case measure => simp [intOf]; omega
        · have e : j = 8 := by omega
          subst e
          go_wp2
          go_round
          case rel => exact ⟨k + 1, y, by omega, by go_num, rfl, hy, by unfold Hid; rw [HN.out]; exact HY.out⟩
          case measure => simp [intOf]; omega
    · have e : k = n := by omega
      subst e
      go_wp2
      go_ret
      have h1 := HR.out
      rw [List.take_of_length_le (by omega)] at h1
      exact ⟨by rw [← h1]; rfl, rfl⟩

set_option maxHeartbeats 400000 in
theorem refSum_u (w : World) (a : Option Addr) (n cap : Nat) (l : List UInt8) (hn : n ≤ maxLen) (hB : IsB w a n l) :
    Calls Try.prog 42 #[.slice a n cap] w fun e w' => e = .returned (.int .u32 (Crc.sum l : Nat)) ∧ w = w' := by
  have hlt := Crc.run_lt l (show 4294967295 < 4294967296 by decide)
  have hs : Crc.sum l = 4294967295 - Crc.run 4294967295 l := by unfold Crc.sum; rfl
  have HS : Hid _ := hs
  clear hs
  go_enter Try.func42, Try.ntmps42
  go_wp2_with fail
  refine (refRun_u w 4294967295 _ rfl (by decide) a n cap l hn hB).mono ?_
  rintro e w1 ⟨rfl, rfl⟩
  generalize Crc.run 4294967295 l = r at *
  have hnot := not_bits r hlt
  rw [← HS.out] at hnot
  go_wp2
  go_ret
  exact ⟨rfl, rfl⟩

end Go.Proofs.Ytbglgplfjhiafaa
