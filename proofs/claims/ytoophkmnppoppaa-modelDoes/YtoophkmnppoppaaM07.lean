/-
  Facts that the proof rests on, part 8. Conditions: those that each of them names.
-/
import Derived.Lib.SliceRun
import Derived.Test.YtoophkmnppoppaaM06
namespace Go.Proofs.Ytoophkmnppoppaa
set_option maxHeartbeats 16000000
open Go.RowKit
set_option linter.unusedVariables false
theorem elem_octs : q6q Try.prog 26 5 rByte := qBQ (z := .int .u8 0) Try.underlying26 (by kernel_rfl) rfl rfl rfl (by decide)
set_option maxRecDepth 20000 in
theorem clone_u (w : World) (x : Option Addr) (m d : Nat) (l : List UInt8) (hB : IsB w x m l) (hm : m ≤ 140737488355328) :
 Calls Try.prog 60 #[.slice x m d] w fun e w' => ∃ a c, e = .returned (.slice a m c) ∧ w'.ownsRow w.heap.size 5 1 (.slice a m c) m (cellsOf l) ∧ Below w.heap.size w w' := by
 cases x with
 | none =>
   obtain rfl : m = 0 := hB.2.1 rfl
   have hl : l = [] := List.length_eq_zero_iff.1 hB.1
   subst hl
   clear hB
   have heq : ∀ w, (binOp .eql 26 (.slice none 0 d) (.slice none 0 0)).run Try.prog w = .ok (.bool true) w := fun w => Lib.run_eql_slice_nil w 26 5 none 0 d 0 0 Try.underlying26
   go_enter Try.func60, Try.ntmps60
   go_wp2
   go_ret
   exact ⟨none, 0, rfl, World.ownsRow_nil _ _ _ _, Below.refl _ _⟩
 | some ad =>
   obtain ⟨ht, i, z, hi, hz, hsize, hby, hzs, hpos⟩ := elem_octs
   obtain ⟨w1, hw1, V1, b1, z1⟩ := q0q w 5 []
   have hown : w1.ownsRow w.heap.size 5 1 (.slice (some ⟨w.heap.size, 0, none⟩) 0 0) 0 [] := by
    rw [← hw1]
    exact World.ownsRow_made w _ 0 (Nat.le_refl _) (by unfold maxLen; omega) rfl
   have hB1 := hB.below b1
   obtain ⟨v', w', hr, k1, k2, -, k4⟩ := run_append_own_at (P := Try.prog) w1 w.heap.size 26 26 5 i z 1 1 ht hi hz hsize hby hzs (by decide) _ 0 [] hown ad m d (cellsOf l) (by simp [cellsOf, hB.1]) (fun j u hu => by
    have hj : j < l.length := by have := (List.getElem?_eq_some_iff.1 hu).1; simpa [cellsOf] using this
    have h := hB1.2.2 ad rfl j hj
    rw [h]
    simpa [cellsOf, hj] using hu) (fun u hu => by
    simp only [cellsOf, List.mem_map] at hu
    obtain ⟨y, -, rfl⟩ := hu
    rfl) (by unfold maxLen; omega) (by omega) (by omega)
   rw [Nat.zero_add, List.nil_append] at k1
   obtain ⟨a, c, rfl⟩ : ∃ a c, v' = .slice a m c := by
    rcases k1.2 with ⟨rfl, h0⟩ | ⟨g2, cap, cur, rfl, -⟩
    · exact ⟨none, 0, by rw [h0]⟩
    · exact ⟨_, _, rfl⟩
   have HO : Hid _ := k1
   have HR : Hid _ := hr
   have HB : Hid (Below w.heap.size w w') := by
    refine ⟨k2.os.trans b1.os, k2.tape.trans b1.tape, k2.output.trans b1.output, Nat.le_trans b1.size k2.size, fun b hb => (k2.block b (by omega) (fun e => ?_)).trans (b1.block b hb)⟩
    simp only [Value.ownBlock, Option.some.injEq] at e
    omega
   have heq : ∀ w, (binOp .eql 26 (.slice (some ad) m d) (.slice none 0 0)).run Try.prog w = .ok (.bool false) w := fun w => Lib.run_eql_slice_nil w 26 5 (some ad) m d 0 0 Try.underlying26
   clear hr k1 k2 k4 hown hB hB1 ht hi hz hsize hby hzs hpos V1 b1 z1
   go_enter Try.func60, Try.ntmps60
   go_wp2_with (at_builtin; refine Lib.wpList_append_run _ rfl _ _ _ _ rfl _ _ rfl rfl _ _ HR.out ?_)
   go_ret
   exact ⟨_, _, rfl, HO.out, HB.out⟩
end Go.Proofs.Ytoophkmnppoppaa
