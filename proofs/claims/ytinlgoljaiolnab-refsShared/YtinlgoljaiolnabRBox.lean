/-
  Variables of any number of cells, as rows known whole. It imports no program. Conditions: those that each lemma names.
-/
import Derived.Test.YtinlgoljaiolnabRRow
namespace Go.Proofs.Ytinlgoljaiolnab
open Go.RowKit
set_option linter.unusedVariables false

theorem boxedRow (w : World) (T : TypeId) (xs : List Value) : ∃ w0, w.alloc (.cells xs.toArray T) = w0 ∧ Row w0 w.heap.size T xs ∧ Below w.heap.size w w0 ∧ w0.heap.size = w.heap.size + 1 :=
  ⟨_, rfl, row_new _ _ _, (Below.refl _ _).alloc (Nat.le_refl _) _, by simp⟩

theorem Row.range {w : World} {g : Nat} {t : TypeId} {xs : List Value} (h : Row w g t xs) : w.rangeAt g 0 xs := by
  intro j v hv
  rw [Nat.zero_add]
  exact h.cell hv

/-- A result that lies in a variable of its own. -/
theorem results_row {Pr : Program} {fn : Func} {p : Tmp} {ty t : TypeId} {tmps : Array Value} {w : World} {b : Nat} {xs : List Value} {d : TypeDesc} (h : fn.results = #[.cell p ty]) (hp : tmps.getD p undef = .pointer (some ⟨b, 0, none⟩))
    (V : Row w b t xs) (hu : Pr.underlying ty = some d) (hd : d.isRow = true) (hi : (Pr.info? ty).map (·.size) = some xs.length) : (results fn tmps).run Pr w = .ok (.agg xs.toArray) w := by
  have hp' : tmps[p]?.getD undef = .pointer (some ⟨b, 0, none⟩) := by simpa using hp
  simp [results, h, hp', asAddr, run_loadVar_mid w b 0 ty xs d V.range hu hd hi]

/-- .. and a number beside it. -/
theorem results_rowt {Pr : Program} {fn : Func} {p q : Tmp} {ty t : TypeId} {tmps : Array Value} {w : World} {b : Nat} {xs : List Value} {d : TypeDesc} (h : fn.results = #[.cell p ty, .tmp q]) (hp : tmps.getD p undef = .pointer (some ⟨b, 0, none⟩))
    (V : Row w b t xs) (hu : Pr.underlying ty = some d) (hd : d.isRow = true) (hi : (Pr.info? ty).map (·.size) = some xs.length) : (results fn tmps).run Pr w = .ok (.tuple #[.agg xs.toArray, tmps.getD q undef]) w := by
  have hp' : tmps[p]?.getD undef = .pointer (some ⟨b, 0, none⟩) := by simpa using hp
  simp [results, h, hp', asAddr, run_loadVar_mid w b 0 ty xs d V.range hu hd hi]

/-- .. and two numbers. -/
theorem results_rowtt {Pr : Program} {fn : Func} {p q r : Tmp} {ty t : TypeId} {tmps : Array Value} {w : World} {b : Nat} {xs : List Value} {d : TypeDesc} (h : fn.results = #[.cell p ty, .tmp q, .tmp r]) (hp : tmps.getD p undef = .pointer (some ⟨b, 0, none⟩))
    (V : Row w b t xs) (hu : Pr.underlying ty = some d) (hd : d.isRow = true) (hi : (Pr.info? ty).map (·.size) = some xs.length) : (results fn tmps).run Pr w = .ok (.tuple #[.agg xs.toArray, tmps.getD q undef, tmps.getD r undef]) w := by
  have hp' : tmps[p]?.getD undef = .pointer (some ⟨b, 0, none⟩) := by simpa using hp
  simp [results, h, hp', asAddr, run_loadVar_mid w b 0 ty xs d V.range hu hd hi]

/-- A variable of seven cells, written whole. -/
theorem Row.whole7 {w : World} {b : Nat} {t : TypeId} {x0 x1 x2 x3 x4 x5 x6 : Value} (V : Row w b t [x0, x1, x2, x3, x4, x5, x6]) (u0 u1 u2 u3 u4 u5 u6 : Value) :
    ∃ w', ((((((w.setCell ⟨b, 0, none⟩ u0).setCell ⟨b, 1, none⟩ u1).setCell ⟨b, 2, none⟩ u2).setCell ⟨b, 3, none⟩ u3).setCell ⟨b, 4, none⟩ u4).setCell ⟨b, 5, none⟩ u5).setCell ⟨b, 6, none⟩ u6 = w' ∧
      Row w' b t [u0, u1, u2, u3, u4, u5, u6] ∧ Kept (· ≠ b) w w' :=
  ⟨_, rfl, ((((((V.set 0 u0).set 1 u1).set 2 u2).set 3 u3).set 4 u4).set 5 u5).set 6 u6,
    ((((((((Kept.refl _ w).setCell (p := ⟨b, 0, none⟩) (fun h => h rfl) u0).setCell (p := ⟨b, 1, none⟩) (fun h => h rfl) u1).setCell (p := ⟨b, 2, none⟩) (fun h => h rfl) u2).setCell (p := ⟨b, 3, none⟩) (fun h => h rfl) u3).setCell (p := ⟨b, 4, none⟩) (fun h => h rfl) u4).setCell (p := ⟨b, 5, none⟩) (fun h => h rfl) u5).setCell (p := ⟨b, 6, none⟩) (fun h => h rfl) u6)⟩

end Go.Proofs.Ytinlgoljaiolnab
