/-
  The page's example of references holds of the program. Conditions: none.
-/
import Derived.Test.YtinlgoljaiolnabNAsk
import Derived.Test.YtinlgoljaiolnabNOf
import Derived.Test.YtinlgoljaiolnabREql
namespace Go.Proofs.Ytinlgoljaiolnab
open Go.RowKit
set_option linter.unusedVariables false

def al9 : List Mpr := [(0, [(0, 3, 4)]), (1, [(9, 3, 4)])]
theorem al9_E : Rf.whoE allS al9 = 0 := by decide +kernel
theorem al9_L : Rf.cntL allS al9 = [(3, 4, 2)] := by decide +kernel

theorem one_exts {w : World} {P : Nat → Prop} {b : Nat} {x : Ext} (hP : P b) (hx : In3 x) (h0 : w.cell? ⟨b, 0, none⟩ = some (.int .i64 x.1)) (h1 : w.cell? ⟨b, 1, none⟩ = some (.int .i64 x.2.1)) (h2 : w.cell? ⟨b, 2, none⟩ = some (.int .i64 x.2.2)) : rExts.rd w P [.slice (some ⟨b, 0, none⟩) 1 1] [x] := by
  refine ⟨_, _, _, rfl, rfl, Nat.le_refl _, (fun e => by cases e), by decide, fun y hy j hj => ?_⟩
  cases hy
  obtain rfl : j = 0 := by simp at hj; omega
  refine ⟨hP, ext3 x, rExt_rd.2 ⟨rfl, hx⟩, fun k v hv => ?_⟩
  rw [Addr.add_lit]
  match k, hv with
  | 0, hv => simp [ext3] at hv; subst hv; simpa using h0
  | 1, hv => simp [ext3] at hv; subst hv; simpa using h1
  | 2, hv => simp [ext3] at hv; subst hv; simpa using h2

theorem two_maps {w : World} {P : Nat → Prop} {b : Nat} {o1 o2 : Int} {v1 v2 : Value} {l1 l2 : List Ext} (hP : P b) (h1 : In64 o1) (h2 : In64 o2) (r1 : rExts.rd w P [v1] l1) (r2 : rExts.rd w P [v2] l2)
    (c0 : w.cell? ⟨b, 0, none⟩ = some (.int .i64 o1)) (c1 : w.cell? ⟨b, 1, none⟩ = some v1) (c2 : w.cell? ⟨b, 2, none⟩ = some (.int .i64 o2)) (c3 : w.cell? ⟨b, 3, none⟩ = some v2) : rMps.rd w P [.slice (some ⟨b, 0, none⟩) 2 2] [(o1, l1), (o2, l2)] := by
  refine ⟨_, _, _, rfl, rfl, Nat.le_refl _, (fun e => by cases e), by decide, fun y hy j hj => ?_⟩
  cases hy
  match j, hj with
  | 0, _ =>
    refine ⟨hP, [.int .i64 o1, v1], ⟨[.int .i64 o1], [v1], rfl, ⟨rfl, h1⟩, r1⟩, fun k v hv => ?_⟩
    rw [Addr.add_lit]
    match k, hv with
    | 0, hv => simp at hv; subst hv; simpa using c0
    | 1, hv => simp at hv; subst hv; simpa using c1
  | 1, _ =>
    refine ⟨hP, [.int .i64 o2, v2], ⟨[.int .i64 o2], [v2], rfl, ⟨rfl, h2⟩, r2⟩, fun k v hv => ?_⟩
    rw [Addr.add_lit]
    match k, hv with
    | 0, hv => simp at hv; subst hv; exact c2
    | 1, hv => simp at hv; subst hv; exact c3

set_option maxHeartbeats 4000000 in
theorem alive9_u (w : World) : Calls Try.prog 4 #[] w fun e w' => e = .returned (.bool true) ∧ Below w.heap.size w w' := by
  obtain ⟨w1, hw1, V1, b1, z1⟩ := boxedRow w 43 [.int .i64 0, .int .i64 3, .int .i64 4]
  obtain ⟨w2, hw2, V2, b2, z2⟩ := boxedRow w1 43 [.int .i64 9, .int .i64 3, .int .i64 4]
  obtain ⟨w3, hw3, V3, b3, z3⟩ := boxedRow w2 31 [.int .i64 0, .slice (some ⟨w.heap.size, 0, none⟩) 1 1, .int .i64 1, .slice (some ⟨w1.heap.size, 0, none⟩) 1 1]
  have U1 := (V1.below b2).below b3
  have U2 := V2.below b3
  have HM : Hid (rMps.rd w3 (fun _ => True) [.slice (some ⟨w2.heap.size, 0, none⟩) 2 2] al9) :=
    two_maps trivial (by unfold In64; decide) (by unfold In64; decide) (one_exts (x := (0, 3, 4)) trivial (by unfold In3 In64; decide) U1.three.1 U1.three.2.1 U1.three.2.2) (one_exts (x := (9, 3, 4)) trivial (by unfold In3 In64; decide) U2.three.1 U2.three.2.1 U2.three.2.2) V3.four.1 V3.four.2.1 V3.four.2.2.1 V3.four.2.2.2
  have B3 : Hid (Below w.heap.size w w3) := on (on b1 b2) b3
  clear U1 U2 V1 V2 V3 b1 b2 b3 z1 z2 z3
  go_enter Try.func4, Try.ntmps4
  go_wp2_with fail
  refine (refsCounts_u _ _ _ _ _ al9 HM.out).mono ?_
  rintro e w4 ⟨b, rfl, ho, b4⟩
  rw [al9_E]
  rw [al9_L] at ho
  obtain ⟨a4, c4, rfl, -, -⟩ := ho.slice
  obtain ⟨g, rfl, -, -, -, hat⟩ := ho.at (by decide)
  obtain ⟨c0, c1, c2, -⟩ := hat 0 (by decide)
  simp only [List.getElem_cons_zero, Nat.zero_mul, Nat.zero_add] at c0 c1 c2
  have HB : Hid (Below w.heap.size w w4) := on B3.out b4
  clear ho hat b4
  go_wp2_with (go_at_call 6; refine (num9_u _ _).mono ?_; rintro e w9 ⟨rfl, rfl⟩)
  go_ret
  exact ⟨rfl, HB.out⟩

end Go.Proofs.Ytinlgoljaiolnab
