/-
  The page's example of a map holds of the program. Conditions: none.
-/
import Derived.Test.YtlpmfbinemmikaaXN
namespace Go.Proofs.Ytlpmfbinemmikaa
open Go.RowKit
set_option linter.unusedVariables false

theorem num5_u (n : Int) (w : World) : Calls Try.prog 18 #[.int .i64 n] w fun e w' => e = .returned (.int .i64 n) ∧ w = w' := by
  go_enter Try.func18, Try.ntmps18
  go_wp2
  go_ret
  exact ⟨rfl, rfl⟩

theorem OwnE.lone (e : TypeId) (w : World) (base : Nat) (hb : base ≤ w.heap.size) (x : Ext) (hx : In3 x) :
    OwnE e (w.alloc (.cells #[.int .i64 x.1, .int .i64 x.2.1, .int .i64 x.2.2] e)) base (.slice (some ⟨w.heap.size, 0, none⟩) 1 1) [x] :=
  ⟨⟨rfl, .inr ⟨w.heap.size, 1, _, rfl, hb, heap_alloc_new w _, Nat.le_refl 1, by decide, rfl, rfl⟩⟩, fun y hy => by rw [List.mem_singleton.1 hy]; exact hx⟩

def alx : Ext := (0, 100, 10)
theorem al_cutE : Ex.cutE [alx] 4 2 = 0 := by decide +kernel
theorem al_cutL : Ex.cutL [alx] 4 2 = [(0, 100, 4), (6, 106, 4)] := by decide +kernel
theorem al_in : In3 alx := by unfold In3 In64 alx; decide

set_option maxHeartbeats 2000000 in
theorem alive5_u (w : World) : Calls Try.prog 22 #[] w fun e w' => e = .returned (.bool true) ∧ Below w.heap.size w w' := by
  have HL := (OwnE.lone 24 w w.heap.size (Nat.le_refl _) alx al_in).rd (by decide)
  go_enter Try.func22, Try.ntmps22
  go_wp2_with fail
  refine (extCut_u _ _ _ _ _ [alx] HL 4 2 (by decide)).mono ?_
  rintro e w1 ⟨b, rfl, ho, b1⟩
  rw [al_cutL] at ho
  rw [al_cutE]
  obtain ⟨a, c, rfl, -, -⟩ := ho.slice
  obtain ⟨g, rfl, -, -, -, hat⟩ := ho.at (by decide)
  obtain ⟨c0, c1, c2, -⟩ := hat 0 (by decide)
  obtain ⟨c3, c4, c5, -⟩ := hat 1 (by decide)
  simp only [List.getElem_cons_zero, List.getElem_cons_succ, Nat.zero_mul, Nat.zero_add, Nat.one_mul, Nat.reduceAdd] at c0 c1 c2 c3 c4 c5
  have HB : Hid (Below w.heap.size w w1) := on ((Below.refl _ _).alloc (Nat.le_refl _) _) b1
  clear ho hat b1 HL
  go_wp2_with (go_at_call 18; refine (num5_u _ _).mono ?_; rintro e w9 ⟨rfl, rfl⟩)
  go_ret
  exact ⟨rfl, HB.out⟩

end Go.Proofs.Ytlpmfbinemmikaa
