/-
  The contract of octets that are written over. Conditions: those that it names.
-/
import Derived.Test.YtbglgplfjhiafaaBytes
namespace Go.Proofs.Ytbglgplfjhiafaa
open Go.RowKit
set_option linter.unusedVariables false

theorem spoil_none (w : World) (c : Nat) : Calls Try.prog 23 #[.slice none 0 c] w fun e w' => e = .returned (.tuple #[]) ∧ w = w' := by
  go_enter Try.func23, Try.ntmps23
  go_wp2
  refine wp_loop_rounds 1 ?_
  rw [rounds_succ]
  go_wp2
  go_end0
  exact ⟨rfl, rfl⟩

set_option maxHeartbeats 400000 in
theorem spoil_some (w : World) (base g n c : Nat) (l : List UInt8) (hn : n ≤ 140737488355328) (ho : w.ownsRow base 5 1 (.slice (some ⟨g, 0, none⟩) n c) n (cellsOf l)) :
    Calls Try.prog 23 #[.slice (some ⟨g, 0, none⟩) n c] w fun e w' => e = .returned (.tuple #[]) ∧ w.grownBy w' (some g) := by
  have hl : l.length = n := by have := ho.1; simpa [cellsOf] using this
  go_enter Try.func23, Try.ntmps23
  go_wp2
  go_loopw [2] (fun i wr => ∃ (k : Nat) (xs : List Int), k ≤ n ∧ i = .int .i64 k ∧ xs.length = n ∧ wr.ownsRow base 5 1 (.slice (some ⟨g, 0, none⟩) n c) n (xs.map (Value.int .u8)) ∧ w.grownBy wr (some g))
    (fun i _ => n - (intOf i).toNat)
  case atStart => exact ⟨0, l.map fun b => (b.toNat : Int), Nat.zero_le _, rfl, by simpa using hl, by simpa [cellsOf, Function.comp_def] using ho, World.grownBy.refl _ _⟩
  case round =>
    obtain ⟨k, xs, hk, rfl, hxs, hown, hgr⟩ := hrel
    by_cases hlt : k < n
    · have hc := hown.cellAt k (by omega)
      rw [List.getElem?_map, List.getElem?_eq_getElem (show k < xs.length by omega)] at hc
      have hf := hown.frozenAt k
      have hst : ∀ y : Int, (wr.setCell ⟨g, k, none⟩ (.int .u8 y)).ownsRow base 5 1 (.slice (some ⟨g, 0, none⟩) n c) n ((xs.set k y).map (Value.int .u8)) ∧ wr.grownBy (wr.setCell ⟨g, k, none⟩ (.int .u8 y)) (some g) := by
        intro y
        have := hown.stored k (.int .u8 y)
        rw [List.map_set]
        exact this
      have HS : Hid _ := hst
      have HX : Hid _ := hxs
      simp only [Option.map_some] at hc
      generalize xs[k] = x at hc
      clear hst hown ho hl hxs
      go_wp2
      go_roundw
      case rel => exact ⟨k + 1, xs.set k _, by omega, by go_num, by rw [List.length_set]; exact HX.out, (HS.out _).1, grown_trans hgr (HS.out _).2⟩
      case measure => simp [intOf]; omega
    · go_wp2
      go_end0
      exact ⟨rfl, hgr⟩

theorem spoil_u (w : World) (base n c : Nat) (a : Option Addr) (l : List UInt8) (hn : n ≤ 140737488355328) (ho : w.ownsRow base 5 1 (.slice a n c) n (cellsOf l)) :
    Calls Try.prog 23 #[.slice a n c] w fun e w' => e = .returned (.tuple #[]) ∧ w.grownBy w' (Value.slice a n c).ownBlock := by
  rcases ho.2 with ⟨e, rfl⟩ | ⟨g, cap, cur, e, _⟩
  · cases e
    refine (spoil_none w 0).mono ?_
    rintro e w' ⟨rfl, rfl⟩
    exact ⟨rfl, World.grownBy.refl _ _⟩
  · cases e
    exact spoil_some w base g n c l hn ho

end Go.Proofs.Ytbglgplfjhiafaa
