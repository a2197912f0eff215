/-
  The contract of octets copied by the document's own answer. Conditions: those that it names.
-/
import Derived.Test.YtbglgplfjhiafaaBytes
namespace Go.Proofs.Ytbglgplfjhiafaa
open Go.RowKit
set_option linter.unusedVariables false

set_option maxHeartbeats 400000 in
theorem copied_u (w : World) (a : Option Addr) (n c : Nat) (l : List UInt8) (hn : n ≤ 140737488355328) (hc : a = none → c = 0) (hB : IsB w a n l) :
    Calls Try.prog 43 #[.slice a n c] w fun e w' => ∃ b d, e = .returned (.slice b n d) ∧
      w'.ownsRow w.heap.size 5 1 (.slice b n d) n (cellsOf l) ∧ Below w.heap.size w w' := by
  obtain ⟨i0, hi, hz0, hz1, hz2⟩ := info_parts info_u8
  have hl := hB.1
  cases a with
  | none =>
    have hn0 := hB.2.1 rfl
    have hc0 := hc rfl
    subst hn0
    subst hc0
    have : l = [] := List.length_eq_zero_iff.1 hl
    subst this
    go_enter Try.func43, Try.ntmps43
    go_wp2_with (at_builtin; refine wpList_append_own_none rfl _ _ 26 rfl w.heap.size 5 i0 1 Try.underlying26 hi _ 0 [] rfl (World.ownsRow_nil w _ _ _) rfl ?_)
    go_ret
    exact ⟨none, 0, rfl, own_nil _ _, Below.refl _ _⟩
  | some x =>
    go_enter Try.func43, Try.ntmps43
    go_wp2_with (at_builtin; refine wpList_append_own _ rfl _ _ 26 rfl w.heap.size 5 i0 (.int .u8 0) 1 1 Try.underlying26 hi hz0 hz1 hz2 rfl (by decide) _ 0 [] rfl (World.ownsRow_nil w _ _ _) x n c (cellsOf l) rfl (by simp [cellsOf, hl]) (isB_cells hB) (cellsOf_oneCell l) (by unfold maxLen; omega) (by omega) (Nat.le_refl _) ?_)
    intro v' w1 hown hgrow _
    try simp only [Nat.zero_add, List.nil_append] at hown
    obtain ⟨b, d, rfl, -⟩ := owns_slice hown
    go_wp2
    go_ret
    exact ⟨b, d, rfl, hown, (Below.refl _ _).grown hgrow (Nat.le_refl _) (fun k h => by cases h)⟩

end Go.Proofs.Ytbglgplfjhiafaa
