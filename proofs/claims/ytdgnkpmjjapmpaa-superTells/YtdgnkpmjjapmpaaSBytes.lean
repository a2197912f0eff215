/-
  Superblocks as octets in memory. Conditions: those that each lemma names.
-/
import Derived.Test.YtdgnkpmjjapmpaaSBox
import Derived.Test.YtdgnkpmjjapmpaaONums
import Derived.Test.YtdgnkpmjjapmpaaBZeros
namespace Go.Proofs.Ytdgnkpmjjapmpaa
open Go.RowKit
set_option linter.unusedVariables false

/-- A row known whole, read as numbers. -/
theorem Row.isN {w : World} {g : Nat} {t : TypeId} {k : IntKind} {l : List Int} (h : Row w g t (l.map (Value.int k))) {n : Nat} (hn : l.length = n) : IsN k w (some ⟨g, 0, none⟩) n l := by
  refine ⟨hn, fun (e : some _ = none) => (by cases e), fun x hx j hj => ?_⟩
  simp only [Option.some.injEq] at hx
  subst hx
  rw [Addr.add_lit, Nat.zero_add]
  exact h.cell (by simp [List.getElem?_eq_getElem hj])

/-- Seven numbers in a new row. -/
theorem nums7 (w : World) (T : TypeId) (a b c d e f g : Nat) (ha : a ≤ 1099511627776) (hb : b ≤ 1099511627776) (hc : c ≤ 1099511627776) (hd : d ≤ 1099511627776) (he : e ≤ 1099511627776) (hf : f ≤ 1099511627776) (hg : g ≤ 1099511627776) :
    IsN .u64 (w.alloc (.cells #[.int .u64 (IntKind.u64.wrap a), .int .u64 (IntKind.u64.wrap b), .int .u64 (IntKind.u64.wrap c), .int .u64 (IntKind.u64.wrap d), .int .u64 (IntKind.u64.wrap e), .int .u64 (IntKind.u64.wrap f), .int .u64 (IntKind.u64.wrap g)] T)) (some ⟨w.heap.size, 0, none⟩) 7 ([a, b, c, d, e, f, g].map fun (v : Nat) => (v : Int)) := by
  rw [u64_nat a (by omega), u64_nat b (by omega), u64_nat c (by omega), u64_nat d (by omega), u64_nat e (by omega), u64_nat f (by omega), u64_nat g (by omega)]
  exact (row_new w T (([a, b, c, d, e, f, g].map fun (v : Nat) => (v : Int)).map (Value.int .u64))).isN rfl

theorem Row.isB {w : World} {g : Nat} {t : TypeId} {l : List UInt8} (h : Row w g t (cellsOf l)) {n : Nat} (hn : l.length = n) : IsB w (some ⟨g, 0, none⟩) n l := by
  refine ⟨hn, fun (e : some _ = none) => (by cases e), fun x hx j hj => ?_⟩
  simp only [Option.some.injEq] at hx
  subst hx
  rw [Addr.add_lit, Nat.zero_add]
  exact h.cell (by simp [cellsOf, List.getElem?_eq_getElem hj])

theorem body_cells (s : Super) : cellsOf (Sup.body s) = cellsOf (Sup.head ++ Oct.packL Sup.widths (Sup.vals s)) ++ List.replicate 20 (.int .u8 0) := by
  unfold Sup.body
  rw [cellsOf_append]
  congr 1

theorem IsB.mid {w : World} {b o n : Nat} {l : List UInt8} (h : IsB w (some ⟨b, o, none⟩) n l) (i k : Nat) (hik : i + k ≤ n) : IsB w (some ⟨b, o + i, none⟩) k ((l.drop i).take k) := by
  have hl := h.1
  refine ⟨by rw [List.length_take, List.length_drop]; omega, fun (e : some _ = none) => (by cases e), fun x hx j hj => ?_⟩
  simp only [Option.some.injEq] at hx
  subst hx
  rw [List.length_take, List.length_drop] at hj
  have := h.2.2 _ rfl (i + j) (by omega)
  rw [Addr.add_lit] at this ⊢
  rw [List.getElem_take, List.getElem_drop, Nat.add_assoc]
  exact this

end Go.Proofs.Ytdgnkpmjjapmpaa
