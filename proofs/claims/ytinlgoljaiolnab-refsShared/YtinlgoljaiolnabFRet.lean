/-
  A record of two cells as a result. It imports no program. Conditions: those that each lemma names.
-/
import Derived.Test.YtinlgoljaiolnabRBox
namespace Go.Proofs.Ytinlgoljaiolnab
open Go.RowKit
set_option linter.unusedVariables false

/-- A variable of two cells, written whole. -/
theorem Row.whole2 {w : World} {b : Nat} {t : TypeId} {x0 x1 : Value} (V : Row w b t [x0, x1]) (u0 u1 : Value) :
    ∃ w', (w.setCell ⟨b, 0, none⟩ u0).setCell ⟨b, 1, none⟩ u1 = w' ∧ Row w' b t [u0, u1] ∧ Kept (· ≠ b) w w' :=
  ⟨_, rfl, (V.set 0 u0).set 1 u1, ((Kept.refl _ w).setCell (p := ⟨b, 0, none⟩) (fun h => h rfl) u0).setCell (p := ⟨b, 1, none⟩) (fun h => h rfl) u1⟩

theorem st_ret {Pr : Program} {fn : Func} {p q : Tmp} {ty t : TypeId} {tmps : Array Value} {w w2 : World} {b : Nat} {d : TypeDesc} {x0 x1 : Value} (V : Row w2 b t [x0, x1]) (bel : Below w.heap.size w w2) (hb : w.heap.size ≤ b)
    (u0 u1 : Value) (err : Int) (h : fn.results = #[.cell p ty, .tmp q]) (hp : tmps.getD p undef = .pointer (some ⟨b, 0, none⟩)) (hq : tmps.getD q undef = .int .i64 err)
    (hu : Pr.underlying ty = some d) (hd : d.isRow = true) (hi : (Pr.info? ty).map (·.size) = some 2) {R : Ending → World → Prop}
    (hR : ∀ w', Kept (· ≠ b) w2 w' → Below w.heap.size w w' → R (.returned (.tuple #[.agg #[u0, u1], .int .i64 err])) w') :
    bodyPost Pr fn R .ret { tmps := tmps, defers := [] } ((w2.setCell ⟨b, 0, none⟩ u0).setCell ⟨b, 1, none⟩ u1) := by
  obtain ⟨w', hw, V', K'⟩ := V.whole2 u0 u1
  rw [hw]
  have hr := results_rowt (Pr := Pr) (fn := fn) h hp V' hu hd hi
  rw [hq] at hr
  exact bodyPost_ret hr rfl (hR w' K' (Kept.belowOf bel K' hb))

theorem st_ret3 {Pr : Program} {fn : Func} {p q r : Tmp} {ty t : TypeId} {tmps : Array Value} {w w2 : World} {b : Nat} {d : TypeDesc} {x0 x1 : Value} (V : Row w2 b t [x0, x1]) (bel : Below w.heap.size w w2) (hb : w.heap.size ≤ b)
    (u0 u1 : Value) (num err : Int) (h : fn.results = #[.cell p ty, .tmp q, .tmp r]) (hp : tmps.getD p undef = .pointer (some ⟨b, 0, none⟩)) (hq : tmps.getD q undef = .int .i64 num) (hr : tmps.getD r undef = .int .i64 err)
    (hu : Pr.underlying ty = some d) (hd : d.isRow = true) (hi : (Pr.info? ty).map (·.size) = some 2) {R : Ending → World → Prop}
    (hR : ∀ w', Kept (· ≠ b) w2 w' → Below w.heap.size w w' → R (.returned (.tuple #[.agg #[u0, u1], .int .i64 num, .int .i64 err])) w') :
    bodyPost Pr fn R .ret { tmps := tmps, defers := [] } ((w2.setCell ⟨b, 0, none⟩ u0).setCell ⟨b, 1, none⟩ u1) := by
  obtain ⟨w', hw, V', K'⟩ := V.whole2 u0 u1
  rw [hw]
  have hx := results_rowtt (Pr := Pr) (fn := fn) h hp V' hu hd hi
  rw [hq, hr] at hx
  exact bodyPost_ret hx rfl (hR w' K' (Kept.belowOf bel K' hb))

theorem st_ret1 {Pr : Program} {fn : Func} {p : Tmp} {ty t : TypeId} {tmps : Array Value} {w w2 : World} {b : Nat} {d : TypeDesc} {x0 x1 : Value} (V : Row w2 b t [x0, x1]) (bel : Below w.heap.size w w2) (hb : w.heap.size ≤ b)
    (u0 u1 : Value) (h : fn.results = #[.cell p ty]) (hp : tmps.getD p undef = .pointer (some ⟨b, 0, none⟩))
    (hu : Pr.underlying ty = some d) (hd : d.isRow = true) (hi : (Pr.info? ty).map (·.size) = some 2) {R : Ending → World → Prop}
    (hR : ∀ w', Kept (· ≠ b) w2 w' → Below w.heap.size w w' → R (.returned (.agg #[u0, u1])) w') :
    bodyPost Pr fn R .ret { tmps := tmps, defers := [] } ((w2.setCell ⟨b, 0, none⟩ u0).setCell ⟨b, 1, none⟩ u1) := by
  obtain ⟨w', hw, V', K'⟩ := V.whole2 u0 u1
  rw [hw]
  have hr := results_row (Pr := Pr) (fn := fn) h hp V' hu hd hi
  exact bodyPost_ret hr rfl (hR w' K' (Kept.belowOf bel K' hb))

end Go.Proofs.Ytinlgoljaiolnab
