/-
  Facts that the proof rests on, part 18. Conditions: those that each of them names.
-/
import Derived.BigQuiet
import Derived.Test.YtinlgoljaiolnaaBK04
import Derived.Test.YtinlgoljaiolnaaBK05
import Derived.Test.YtinlgoljaiolnaaBK09
namespace Go.Proofs.Ytinlgoljaiolnaa
open Go.RowKit
set_option linter.unusedVariables false
theorem equal_rfr (w : World) (s : Rfr) : (Op.equalIn 10000 64 (.agg #[.int .i64 s.1, .int .i64 s.2.1, .int .i64 s.2.2.1, .int .i64 s.2.2.2]) (.agg #[.int .i64 s.1, .int .i64 s.2.1, .int .i64 s.2.2.1, .int .i64 s.2.2.2])).run Try.prog w = .ok true w := by
  have h := equal_ints (t := 64) (ti := 3) Try.underlying3 (by kernel_rfl) (by kernel_rfl) 4 (by kernel_rfl) (by kernel_rfl) (by kernel_rfl) w [s.1, s.2.1, s.2.2.1, s.2.2.2] [s.1, s.2.1, s.2.2.1, s.2.2.2] rfl rfl
  rw [show ([s.1, s.2.1, s.2.2.1, s.2.2.2] == [s.1, s.2.1, s.2.2.1, s.2.2.2]) = true from beq_self_eq_true _] at h
  exact h
set_option maxHeartbeats 2000000 in
theorem sameRefs_u (w : World) (P P' : Nat → Prop) (a a' : Option Addr) (n c c' : Nat) (l : List Rfr) (hL : rRfrs.rd w P [.slice a n c] l) (hM : rRfrs.rd w P' [.slice a' n c'] l) :
    Calls Try.prog 20 #[.slice a n c, .slice a' n c'] w fun e w' => e = .returned (.bool true) ∧ Below w.heap.size w w' := by
  obtain ⟨hl, hnc, hnil, hb⟩ := rList_len hL
  have hn : n ≤ 4398046510976 := by have : n * 32 ≤ 140737488351232 := hb; omega
  have HL : Hid _ := hl
  have HR : Hid _ := hL
  have HM : Hid _ := hM
  clear hl hnc hnil hb hL hM
  have heq := equal_rfr
  go_enter Try.func20, Try.ntmps20
  go_wp2
  go_loopw [5] (fun i wr => ∃ j : Nat, j ≤ n ∧ i = .int .i64 j ∧ Below w.heap.size w wr) (fun i _ => n - (intOf i).toNat)
  case atStart => exact ⟨0, Nat.zero_le _, rfl, Below.refl _ _⟩
  case round =>
    obtain ⟨j, hj, rfl, bel⟩ := hrel
    by_cases hlt : j < n
    · have hkl : j < l.length := by rw [HL.out]; exact hlt
      obtain ⟨g, off, rfl, -, hgl, hat⟩ := rRfrs_at (Rep.below HR.out bel) (by omega)
      obtain ⟨c0, c1, c2, c3, -⟩ := hat j hkl
      obtain ⟨g', off', rfl, -, hgl', hat'⟩ := rRfrs_at (Rep.below HM.out bel) (by omega)
      obtain ⟨c0', c1', c2', c3', -⟩ := hat' j hkl
      obtain ⟨X, hX⟩ : ∃ X, X = l[j] := ⟨_, rfl⟩
      rw [← hX] at c0 c1 c2 c3 c0' c1' c2' c3'
      clear hX hat hat'
      have hkn : (j : Int) < (n : Int) := by omega
      go_wp2_with fail
      go_quiet (fail)
      go_wp2
      go_roundw
      case rel => exact ⟨j + 1, by omega, by go_num, same_drewN bel nq⟩
      case measure => simp [intOf]; omega
    · obtain rfl : j = n := by omega
      go_wp2
      go_ret
      exact ⟨rfl, bel⟩
end Go.Proofs.Ytinlgoljaiolnaa
