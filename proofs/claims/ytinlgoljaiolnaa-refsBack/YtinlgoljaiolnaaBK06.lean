/-
  Facts that the proof rests on, part 7. Conditions: those that each of them names.
-/
import Derived.Deep.RegionHeldLaw
import Derived.Test.YtinlgoljaiolnaaBK05
namespace Go.Proofs.Ytinlgoljaiolnaa
open Go.RowKit
set_option linter.unusedVariables false
theorem wpAnyH_takeL {P : Program} {ops : Array Oper} {Q : Exit → Go.Act → World → Prop} {md : Region.Mode} {S : World → Prop} {i k : Nat} {oi : Oper} {v : Value} {fuel : Nat} {listed : Array Bool} {l : List Value} {d : List Deferred} {w : World} (hi : ops[i]? = some oi) (hk : oi.dst = some k)
    (hs : Region.noSelect ops = true) (hf : Region.free md ops listed i = true) (hr : (Region.ready md ops listed).contains i = true) (hQ : ∀ c a w, Q (.panic c) (a.put oi.dst v) w → Q (.panic c) a w) (hy : YieldsIf P ops S oi v ⟨l.toArray, d⟩)
    (hS : S w) (h : wpAnyH P md ops Q S fuel (listed.setIfInBounds i true) ⟨(l.set k v).toArray, d⟩ w) : wpAnyH P md ops Q S (fuel + 1) listed ⟨l.toArray, d⟩ w := by
  refine wpAnyH_take hi hs hf hr hQ hy hS ?_
  have e : Go.Act.put ⟨l.toArray, d⟩ oi.dst v = ⟨(l.set k v).toArray, d⟩ := by rw [hk]; simp [Go.Act.put]
  rw [e]
  exact h
theorem wpAnyH_passL {P : Program} {ops : Array Oper} {Q : Exit → Go.Act → World → Prop} {md : Region.Mode} {S : World → Prop} {i k : Nat} {oi : Oper} {fuel : Nat} {listed : Array Bool} {l : List Value} {d : List Deferred} {w : World} (hi : ops[i]? = some oi) (hk : oi.dst = some k)
    (hs : Region.noSelect ops = true) (hf : Region.free md ops listed i = true) (hr : (Region.ready md ops listed).contains i = true) (hw : Region.wanted oi (yielded ops l.toArray) = false)
    (hQ : ∀ c a w, Q (.panic c) (a.put oi.dst undef) w → Q (.panic c) a w) (hS : S w) (h : wpAnyH P md ops Q S fuel (listed.setIfInBounds i true) ⟨(l.set k undef).toArray, d⟩ w) : wpAnyH P md ops Q S (fuel + 1) listed ⟨l.toArray, d⟩ w :=
  wpAnyH_takeL (v := undef) hi hk hs hf hr hQ (Or.inr ⟨hw, rfl⟩) hS h
theorem Row.three {w : World} {b : Nat} {t : TypeId} {x0 x1 x2 : Value} (V : Row w b t [x0, x1, x2]) : w.cell? ⟨b, 0, none⟩ = some x0 ∧ w.cell? ⟨b, 1, none⟩ = some x1 ∧ w.cell? ⟨b, 2, none⟩ = some x2 := ⟨V.cell (j := 0) rfl, V.cell (j := 1) rfl, V.cell (j := 2) rfl⟩
set_option maxHeartbeats 800000 in
theorem virtEnd_u (w : World) (x : Ext) (hx : In64 (x.1 + x.2.2)) :
    Calls Try.prog 73 #[.agg #[.int .i64 x.1, .int .i64 x.2.1, .int .i64 x.2.2]] w fun e w' => e = .returned (.int .i64 (x.1 + x.2.2)) ∧ Below w.heap.size w w' := by
  unfold In64 at hx
  obtain ⟨w0, hw0, V0, b0, z0⟩ := boxedRow w 80 [.int .i64 x.1, .int .i64 x.2.1, .int .i64 x.2.2]
  obtain ⟨d0, d1, d2⟩ := V0.three
  have B0 : Hid (Below w.heap.size w w0) := b0
  clear V0 z0 b0
  go_enter Try.func73, Try.ntmps73
  go_wp2
  go_ret
  exact ⟨rfl, B0.out⟩
set_option maxHeartbeats 800000 in
theorem isWithin_u (w : World) (a n : Int) (hn : 0 ≤ n) (hn2 : n ≤ 9223372036854775807) (r : Bool) (hr : decide (Ex.Fits a n) = r) :
    Calls Try.prog 72 #[.int .i64 a, .int .i64 n, .int .i64 65536] w fun e w' => e = .returned (.bool r) ∧ w = w' := by
  subst hr
  have HF : Hid (decide (Ex.Fits a n) = true ↔ 0 ≤ a ∧ 0 ≤ n ∧ a ≤ 65536 ∧ n ≤ 65536 - a) := by unfold Hid; exact ⟨fun h => of_decide_eq_true h, fun h => decide_eq_true h⟩
  generalize decide (Ex.Fits a n) = r at *
  go_enter Try.func72, Try.ntmps72
  go_wp2
  all_goals go_ret
  all_goals refine ⟨ret_flag ?_, rfl⟩
  all_goals rw [HF.out]
  all_goals first
    | omega
    | (simp only [decide_eq_true_eq]; omega)
    | (simp only [Bool.false_eq_true, false_iff]; omega)
set_option maxHeartbeats 800000 in
theorem mayBe_u (w : World) (x : Ext) (hx : In3 x) (r : Bool) (hr : decide (Ex.One x) = r) :
    Calls Try.prog 59 #[.agg #[.int .i64 x.1, .int .i64 x.2.1, .int .i64 x.2.2]] w fun e w' => e = .returned (.bool r) ∧ Below w.heap.size w w' := by
  subst hr
  unfold In3 In64 at hx
  obtain ⟨⟨i1, i2⟩, ⟨i3, i4⟩, i5, i6⟩ := hx
  have HF : Hid (decide (Ex.One x) = true ↔ 1 ≤ x.2.2 ∧ Ex.Fits x.1 x.2.2 ∧ Ex.Fits x.2.1 x.2.2) := by unfold Hid; exact ⟨fun h => of_decide_eq_true h, fun h => decide_eq_true h⟩
  generalize decide (Ex.One x) = r at *
  obtain ⟨w0, hw0, V0, b0, z0⟩ := boxedRow w 80 [.int .i64 x.1, .int .i64 x.2.1, .int .i64 x.2.2]
  obtain ⟨d0, d1, d2⟩ := V0.three
  have B0 : Hid (Below w.heap.size w w0) := b0
  clear V0 z0 b0
  by_cases e1 : 1 ≤ x.2.2
  · cases e2 : decide (Ex.Fits x.1 x.2.2)
    · have HR : Hid (r = false) := Bool.eq_false_iff.2 (fun h => absurd (HF.out.1 h).2.1 (of_decide_eq_false e2))
      go_enter Try.func59, Try.ntmps59
      go_wp2_with fail
      refine (isWithin_u _ _ _ (by omega) i6 _ e2).mono ?_
      rintro e w9 ⟨rfl, rfl⟩
      go_wp2
      go_ret
      exact ⟨by rw [HR.out]; rfl, B0.out⟩
    · cases e3 : decide (Ex.Fits x.2.1 x.2.2)
      · have HR : Hid (r = false) := Bool.eq_false_iff.2 (fun h => absurd (HF.out.1 h).2.2 (of_decide_eq_false e3))
        go_enter Try.func59, Try.ntmps59
        go_wp2_with fail
        refine (isWithin_u _ _ _ (by omega) i6 _ e2).mono ?_
        rintro e w9 ⟨rfl, rfl⟩
        go_wp2_with fail
        refine (isWithin_u _ _ _ (by omega) i6 _ e3).mono ?_
        rintro e w9 ⟨rfl, rfl⟩
        go_wp2
        go_ret
        exact ⟨by rw [HR.out]; rfl, B0.out⟩
      · have HR : Hid (r = true) := HF.out.2 ⟨e1, of_decide_eq_true e2, of_decide_eq_true e3⟩
        go_enter Try.func59, Try.ntmps59
        go_wp2_with fail
        refine (isWithin_u _ _ _ (by omega) i6 _ e2).mono ?_
        rintro e w9 ⟨rfl, rfl⟩
        go_wp2_with fail
        refine (isWithin_u _ _ _ (by omega) i6 _ e3).mono ?_
        rintro e w9 ⟨rfl, rfl⟩
        go_wp2
        go_ret
        exact ⟨by rw [HR.out]; rfl, B0.out⟩
  · have HR : Hid (r = false) := Bool.eq_false_iff.2 (fun h => e1 (HF.out.1 h).1)
    go_enter Try.func59, Try.ntmps59
    go_wp2
    go_ret
    exact ⟨by rw [HR.out]; rfl, B0.out⟩
theorem two_boxes (w : World) (T : TypeId) (y x : Ext) : ∃ w1 w0, w.alloc (.cells #[.int .i64 y.1, .int .i64 y.2.1, .int .i64 y.2.2] T) = w1 ∧ w1.alloc (.cells #[.int .i64 x.1, .int .i64 x.2.1, .int .i64 x.2.2] T) = w0 ∧ w1.heap.size = w.heap.size + 1 ∧
    Row w0 w.heap.size T (ext3 y) ∧ Row w0 (w.heap.size + 1) T (ext3 x) ∧ Below w.heap.size w w0 := by
  obtain ⟨w1, h1, V1, b1, z1⟩ := boxedRow w T (ext3 y)
  obtain ⟨w0, h0, V0, b0, z0⟩ := boxedRow w1 T (ext3 x)
  exact ⟨w1, w0, h1, h0, z1, V1.below b0, z1 ▸ V0, on b1 b0⟩
theorem six_kept {w w' : World} {B : Nat} {T : TypeId} {y x : Ext} (h1 : Row w B T (ext3 y)) (h2 : Row w (B + 1) T (ext3 x)) (k : Below w.heap.size w w') :
    w'.cell? ⟨B, 0, none⟩ = some (.int .i64 y.1) ∧ w'.cell? ⟨B, 1, none⟩ = some (.int .i64 y.2.1) ∧ w'.cell? ⟨B, 2, none⟩ = some (.int .i64 y.2.2) ∧ w'.cell? ⟨B + 1, 0, none⟩ = some (.int .i64 x.1) ∧ w'.cell? ⟨B + 1, 1, none⟩ = some (.int .i64 x.2.1) ∧ w'.cell? ⟨B + 1, 2, none⟩ = some (.int .i64 x.2.2) :=
  ⟨(h1.below k).three.1, (h1.below k).three.2.1, (h1.below k).three.2.2, (h2.below k).three.1, (h2.below k).three.2.1, (h2.below k).three.2.2⟩
end Go.Proofs.Ytinlgoljaiolnaa
