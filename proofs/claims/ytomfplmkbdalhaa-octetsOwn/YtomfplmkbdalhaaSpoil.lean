/-
  The contract of octets that are written over. Conditions: those that it names.
-/
import Derived.Test.YtomfplmkbdalhaaCells
namespace Go.Proofs.Ytomfplmkbdalhaa
open Go.RowKit
set_option linter.unusedVariables false

theorem spoil_none (w : World) (c : Nat) : Calls Try.prog 26 #[.slice none 0 c] w fun e w' => e = .returned (.tuple #[]) ∧ w = w' := by
  go_enter Try.func26, Try.ntmps26
  go_wp2
  refine wp_loop_rounds 1 ?_
  rw [rounds_succ]
  go_wp2
  go_end0
  exact ⟨rfl, rfl⟩

theorem grown_trans {w w1 w2 : World} {row : Option Nat} (h : w.grownBy w1 row) (k : w1.grownBy w2 row) : w.grownBy w2 row :=
  ⟨k.os.trans h.os, k.tape.trans h.tape, k.output.trans h.output, Nat.le_trans h.size k.size, fun i hi hr => (k.block i (Nat.lt_of_lt_of_le hi h.size) hr).trans (h.block i hi hr)⟩

set_option maxHeartbeats 400000 in
theorem spoil_some (w : World) (base g n c : Nat) (l : List UInt8) (hn : n ≤ 140737488355328) (ho : w.ownsRow base 5 1 (.slice (some ⟨g, 0, none⟩) n c) n (cellsOf l)) :
    Calls Try.prog 26 #[.slice (some ⟨g, 0, none⟩) n c] w fun e w' => e = .returned (.tuple #[]) ∧ w.grownBy w' (some g) := by
  have hl : l.length = n := by have := ho.1; simpa [cellsOf] using this
  go_enter Try.func26, Try.ntmps26
  go_wp2
  go_loopw [2] (fun i wr => ∃ (k : Nat) (xs : List Int), k ≤ n ∧ i = .int .i64 k ∧ xs.length = n ∧ wr.ownsRow base 5 1 (.slice (some ⟨g, 0, none⟩) n c) n (xs.map (Value.int .u8)) ∧ w.grownBy wr (some g))
    (fun i _ => n - (intOf i).toNat)
  case atStart => exact ⟨0, l.map fun b => (b.toNat : Int), Nat.zero_le _, rfl, by simpa using hl, by simpa [cellsOf, Function.comp_def] using ho, World.grownBy.refl _ _⟩
  case round =>
    obtain ⟨k, xs, hk, rfl, hxs, hown, hgr⟩ := hrel
    by_cases hlt : k < n
    · have hc := hown.cellAt k (by omega)
      rw [List.getElem?_map, List.getElem?_eq_getElem (show k < xs.length by omega)] at hc
      have hf := hown.frozenAt k
      have hst : ∀ y : Int, (wr.setCell ⟨g, k, none⟩ (.int .u8 y)).ownsRow base 5 1 (.slice (some ⟨g, 0, none⟩) n c) n ((xs.set k y).map (Value.int .u8)) ∧ wr.grownBy (wr.setCell ⟨g, k, none⟩ (.int .u8 y)) (some g) := by
        intro y
        have := hown.stored k (.int .u8 y)
        rw [List.map_set]
        exact this
      have HS : Hid _ := hst
      have HX : Hid _ := hxs
      simp only [Option.map_some] at hc
      generalize xs[k] = x at hc
      clear hst hown ho hl hxs
      go_wp2
      go_roundw
      case rel => exact ⟨k + 1, xs.set k _, by omega, by go_num, by rw [List.length_set]; exact HX.out, (HS.out _).1, grown_trans hgr (HS.out _).2⟩
      case measure => simp [intOf]; omega
    · go_wp2
      go_end0
      exact ⟨rfl, hgr⟩

theorem spoil_u (w : World) (base n c : Nat) (a : Option Addr) (l : List UInt8) (hn : n ≤ 140737488355328) (ho : w.ownsRow base 5 1 (.slice a n c) n (cellsOf l)) :
    Calls Try.prog 26 #[.slice a n c] w fun e w' => e = .returned (.tuple #[]) ∧ w.grownBy w' (Value.slice a n c).ownBlock := by
  rcases ho.2 with ⟨e, rfl⟩ | ⟨g, cap, cur, e, _⟩
  · cases e
    refine (spoil_none w 0).mono ?_
    rintro e w' ⟨rfl, rfl⟩
    exact ⟨rfl, World.grownBy.refl _ _⟩
  · cases e
    exact spoil_some w base g n c l hn ho

/-- What is owned from 'base' on stays owned where a row below it is written. -/
theorem owns_grown {w w1 : World} {base n e s : Nat} {v : Value} {xs : List Value} {row : Option Nat} (h : w.ownsRow base e s v n xs) (hg : w.grownBy w1 row) (hr : ∀ k, row = some k → k < base) : w1.ownsRow base e s v n xs := by
  obtain ⟨h1, h2⟩ := h
  refine ⟨h1, ?_⟩
  rcases h2 with h2 | ⟨g, cap, cur, hv, hgb, hh, r⟩
  · exact .inl h2
  · refine .inr ⟨g, cap, cur, hv, hgb, ?_, r⟩
    have hlt : g < w.heap.size := by
      by_cases hx : g < w.heap.size
      · exact hx
      · rw [Array.getElem?_eq_none (by omega)] at hh; cases hh
    rw [hg.block g hlt (fun e => by have := hr g e.symm; omega)]; exact hh

/-- The row that an owned value stands in lies in the heap. -/
theorem own_lt {w : World} {base n e s : Nat} {v : Value} {xs : List Value} (h : w.ownsRow base e s v n xs) : ∀ k, v.ownBlock = some k → k < w.heap.size := by
  intro k hk
  rcases h.2 with ⟨rfl, _⟩ | ⟨g, cap, cur, rfl, hb, hh, _⟩
  · cases hk
  · cases hk
    by_cases hx : g < w.heap.size
    · exact hx
    · rw [Array.getElem?_eq_none (by omega)] at hh; cases hh

end Go.Proofs.Ytomfplmkbdalhaa
