/-
  The page's example of a state holds of the program. Conditions: none.
-/
import Derived.Test.YtbbjbajdoekheaaYL
import Derived.Test.YtbbjbajdoekheaaFLaw
namespace Go.Proofs.Ytbbjbajdoekheaa
open Go.RowKit
set_option linter.unusedVariables false

theorem OwnS.lit2 (e : TypeId) (w : World) (base : Nat) (hb : base ≤ w.heap.size) (x y : Spn) (hx : In2 x) (hy : In2 y) :
    OwnS e (w.alloc (.cells #[.int .i64 x.1, .int .i64 x.2, .int .i64 y.1, .int .i64 y.2] e)) base (.slice (some ⟨w.heap.size, 0, none⟩) 2 2) [x, y] :=
  ⟨⟨rfl, .inr ⟨w.heap.size, 2, _, rfl, hb, heap_alloc_new w _, Nat.le_refl 2, by decide, rfl, rfl⟩⟩, fun u hu => by
    rcases List.mem_cons.1 hu with rfl | hu
    · exact hx
    · rw [List.mem_singleton.1 hu]; exact hy⟩

def al1 : Spn := (0, 5)
def al2 : Spn := (10, 3)
theorem al_E : Fr.allocE 20 [al1, al2] 2 20 = 0 := by decide +kernel
theorem al_L : Fr.allocL 20 [al1, al2] 2 20 = [(0, 5), (12, 1)] := by decide +kernel
theorem al_Z : Fr.allocZ 20 [al1, al2] 2 20 = 20 := by decide +kernel
theorem al_A : Fr.bestA 20 [al1, al2] 2 20 = 10 := by decide +kernel
theorem al_in1 : In2 al1 := by unfold In2 In64 al1; decide
theorem al_in2 : In2 al2 := by unfold In2 In64 al2; decide

set_option maxRecDepth 20000 in
set_option maxHeartbeats 2000000 in
theorem alive6_u (w : World) : Calls Try.prog 22 #[] w fun e w' => e = .returned (.bool true) ∧ Below w.heap.size w w' := by
  have HL := (OwnS.lit2 26 w w.heap.size (Nat.le_refl _) al1 al2 al_in1 al_in2).rd (by decide)
  have heq := equal_spn
  go_enter Try.func22, Try.ntmps22
  go_wp2_with fail
  refine (freeAlloc_u _ _ 20 _ _ _ [al1, al2] HL 2 20 (by decide) (by decide) (by decide)).mono ?_
  rintro e w1 ⟨v, rfl, ho, b1⟩
  rw [al_L] at ho
  rw [al_E, al_Z, al_A]
  obtain ⟨a, c, hv, -, -⟩ := ho.slice
  subst hv
  obtain ⟨g, rfl, -, hgl, -, hat⟩ := ho.at (by decide)
  obtain ⟨c2, c3, -⟩ := hat 1 (by decide)
  simp only [List.getElem_cons_zero, List.getElem_cons_succ, Nat.one_mul, Nat.reduceAdd] at c2 c3
  have HB : Hid (Below w.heap.size w w1) := on ((Below.refl _ _).alloc (Nat.le_refl _) _) b1
  obtain ⟨w2, hw2, V2, b2, z2⟩ := boxedRow w1 27 [.int .i64 20, .slice (some ⟨g, 0, none⟩) [((0 : Int), (5 : Int)), (12, 1)].length c]
  have hw2' : w2 = w1.alloc (.cells #[.int .i64 20, .slice (some ⟨g, 0, none⟩) [((0 : Int), (5 : Int)), (12, 1)].length c] 27) := hw2.symm
  have HB2 : Hid (Below w.heap.size w w2) := on HB.out b2
  have e2 : w2.cell? ⟨g, 2, none⟩ = some (.int .i64 12) := (b2.cell (p := ⟨g, 2, none⟩) hgl).trans c2
  have e3 : w2.cell? ⟨g, 3, none⟩ = some (.int .i64 1) := (b2.cell (p := ⟨g, 3, none⟩) hgl).trans c3
  clear ho hat b1 HL hw2 V2 b2 z2
  subst hw2'
  have hse := heq (w1.alloc (.cells #[.int .i64 20, .slice (some ⟨g, 0, none⟩) [((0 : Int), (5 : Int)), (12, 1)].length c] 27)) (12, 1) (12, 1)
  go_wp2_with (go_at_call 18; refine (num6_u _ _).mono ?_; rintro e w9 ⟨rfl, rfl⟩)
  go_ret
  exact ⟨rfl, HB2.out⟩

end Go.Proofs.Ytbbjbajdoekheaa
