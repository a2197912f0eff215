/-
  Items made at once and written one by one. Conditions: those that each lemma names.
-/
import Derived.Test.YtbglgplfjhiafaaIKid
import Derived.Test.YtbglgplfjhiafaaLfLand
namespace Go.Proofs.Ytbglgplfjhiafaa
open Go.RowKit
set_option linter.unusedVariables false

theorem itmCells_cons (x : Itm) (l : List Itm) : itmCells (x :: l) = .int .u64 (x.1.toNat : Int) :: .int .u64 (x.2.toNat : Int) :: itmCells l := rfl

theorem itmCells_zeros : ∀ n : Nat, itmCells (List.replicate n (0, 0)) = List.replicate (n * 2) (.int .u64 0)
  | 0 => rfl
  | n + 1 => by rw [List.replicate_succ, itmCells_cons, itmCells_zeros n, Nat.succ_mul, List.replicate_succ, List.replicate_succ]; rfl

theorem madeCells_itms (n : Nat) : (madeCells #[.int .u64 0, .int .u64 0] (n * 2)).toList = itmCells (List.replicate n (0, 0)) := by
  rw [itmCells_zeros]
  apply List.ext_getElem?
  intro j
  by_cases hj : j < n * 2
  · have h2 : j % 2 = 0 ∨ j % 2 = 1 := by omega
    rcases h2 with h | h <;> simp [madeCells, hj, h]
  · simp [madeCells, hj]

theorem itmCells_set1 : ∀ (l : List Itm) (k : Nat) (h : k < l.length) (x : UInt64), (itmCells l).set (k * 2) (.int .u64 (x.toNat : Int)) = itmCells (l.set k (x, l[k].2))
  | y :: l, 0, _, x => rfl
  | y :: l, k + 1, h, x => by
    have ih := itmCells_set1 l k (by simpa using h) x
    rw [itmCells_cons, show (k + 1) * 2 = k * 2 + 1 + 1 by omega, List.set_cons_succ, List.set_cons_succ, ih]
    rfl

theorem itmCells_set2 : ∀ (l : List Itm) (k : Nat) (h : k < l.length) (x : UInt64), (itmCells l).set (k * 2 + 1) (.int .u64 (x.toNat : Int)) = itmCells (l.set k (l[k].1, x))
  | y :: l, 0, _, x => rfl
  | y :: l, k + 1, h, x => by
    have ih := itmCells_set2 l k (by simpa using h) x
    rw [itmCells_cons, show (k + 1) * 2 + 1 = k * 2 + 1 + 1 + 1 by omega, List.set_cons_succ, List.set_cons_succ, ih]
    rfl

theorem itmCells_get {l : List Itm} {k : Nat} (h : k < l.length) : (itmCells l)[k * 2]? = some (.int .u64 (l[k].1.toNat : Int)) ∧ (itmCells l)[k * 2 + 1]? = some (.int .u64 (l[k].2.toNat : Int)) := by
  induction l generalizing k with
  | nil => simp at h
  | cons y l ih =>
    cases k with
    | zero => exact ⟨rfl, rfl⟩
    | succ k =>
      obtain ⟨h1, h2⟩ := ih (k := k) (by simpa using h)
      rw [itmCells_cons, show (k + 1) * 2 = k * 2 + 1 + 1 by omega]
      exact ⟨by rw [List.getElem?_cons_succ, List.getElem?_cons_succ]; exact h1, by rw [show k * 2 + 1 + 1 + 1 = (k * 2 + 1) + 1 + 1 by omega, List.getElem?_cons_succ, List.getElem?_cons_succ]; exact h2⟩

namespace Lf
/-- The items when k keys are read. -/
def itemsK (b : List UInt8) (k : Nat) : List Itm := (List.range (cnt b)).map fun i => (if i < k then keyR b i else 0, 0)
/-- .. and when all keys and k values are. -/
def itemsV (b : List UInt8) (k : Nat) : List Itm := (List.range (cnt b)).map fun i => (keyR b i, if i < k then valR b i else 0)
def kidsR (b : List UInt8) (k : Nat) : List Int := (List.range k).map (kidR b)

theorem itemsK_len (b : List UInt8) (k : Nat) : (itemsK b k).length = cnt b := by simp [itemsK]
theorem itemsV_len (b : List UInt8) (k : Nat) : (itemsV b k).length = cnt b := by simp [itemsV]
theorem itemsK_zero (b : List UInt8) : itemsK b 0 = List.replicate (cnt b) (0, 0) := by
  refine List.ext_getElem (by simp [itemsK]) fun i h1 h2 => ?_
  simp [itemsK]
theorem itemsV_zero (b : List UInt8) : itemsV b 0 = itemsK b (cnt b) := by
  refine List.ext_getElem (by simp [itemsK, itemsV]) fun i h1 h2 => ?_
  have : i < cnt b := by simpa [itemsV] using h1
  simp [itemsK, itemsV, this]
theorem itemsK_next {b : List UInt8} {k : Nat} (h : k < cnt b) : (itemsK b k).set k (keyR b k, ((itemsK b k)[k]'(by rw [itemsK_len]; exact h)).2) = itemsK b (k + 1) := by
  refine List.ext_getElem (by simp [itemsK]) fun i h1 h2 => ?_
  rw [List.getElem_set]
  by_cases e : k = i
  · subst e; simp [itemsK]
  · rw [if_neg e]
    simp only [itemsK, List.getElem_map, List.getElem_range]
    by_cases e2 : i < k
    · rw [if_pos e2, if_pos (by omega)]
    · rw [if_neg e2, if_neg (by omega)]
theorem itemsV_next {b : List UInt8} {k : Nat} (h : k < cnt b) : (itemsV b k).set k (((itemsV b k)[k]'(by rw [itemsV_len]; exact h)).1, valR b k) = itemsV b (k + 1) := by
  refine List.ext_getElem (by simp [itemsV]) fun i h1 h2 => ?_
  rw [List.getElem_set]
  by_cases e : k = i
  · subst e; simp [itemsV]
  · rw [if_neg e]
    simp only [itemsV, List.getElem_map, List.getElem_range]
    by_cases e2 : i < k
    · rw [if_pos e2, if_pos (by omega)]
    · rw [if_neg e2, if_neg (by omega)]
theorem itemsV_all {b : List UInt8} (h : b.getD 0 0 = 1) : itemsV b (cnt b) = readI b := by
  unfold itemsV readI
  refine List.map_congr_left fun i hi => ?_
  rw [if_pos (List.mem_range.1 hi), if_pos h]
theorem itemsK_all {b : List UInt8} (h : b.getD 0 0 = 2) : itemsK b (cnt b) = readI b := by
  unfold itemsK readI
  refine List.map_congr_left fun i hi => ?_
  rw [if_pos (List.mem_range.1 hi), if_neg (by rw [h]; decide)]
theorem kidsR_next (b : List UInt8) (k : Nat) : kidsR b (k + 1) = kidsR b k ++ [kidR b k] := by simp [kidsR, List.range_succ]
theorem readK_leaf {b : List UInt8} (h : b.getD 0 0 = 1) : readK b = [] := by unfold readK; rw [if_neg (by rw [h]; decide)]
theorem readK_kids {b : List UInt8} (h : b.getD 0 0 = 2) : readK b = kidsR b (cnt b + 1) := by unfold readK kidsR; rw [if_pos h]

theorem num_one (x : UInt8) : Oct.num [x] = x.toNat := by simp [Oct.num]
theorem getN_one {b : List UInt8} {p : Nat} (h : p + 1 ≤ b.length) : getN b p 1 = (b.getD p 0).toNat := by
  rw [getN_in (by decide) (by decide) h]
  have e : Oct.cut b p 1 = [b.getD p 0] := by
    unfold Oct.cut
    rw [List.drop_eq_getElem_cons (show p < b.length by omega), show b.getD p 0 = b[p]'(by omega) by simp [List.getD, List.getElem?_eq_getElem (show p < b.length by omega)], List.take_succ_cons, List.take_zero]
  rw [e, num_one]
end Lf

set_option maxHeartbeats 400000 in
/-- 'make([]Item, n)'. -/
theorem make_itms (w : World) {ops : Array Oper} {rest : List Oper} {o : Oper} {a : Go.Act} {Q : Exit → Go.Act → World → Prop}
    (hg : o.guard = none) (l c : Operand) (hop : o.op = Op.makeSlice 22 l c)
    (n : Nat) (C : Int) (hC : C = (n : Int)) (hl : a.eval l = .int .i64 C) (hc : a.eval c = .int .i64 C) (hn : n ≤ 1000000)
    (hK : ∀ w', Hid (Row w' w.heap.size 53 (itmCells (List.replicate n (0, 0)))) → Below w.heap.size w w' → w'.heap.size = w.heap.size + 1 → wpList Try.prog ops Q rest (a.put o.dst (.slice (some ⟨w.heap.size, 0, none⟩) n n)) w') :
    wpList Try.prog ops Q (o :: rest) a w := by
  subst hC
  obtain ⟨i, hi, hz0, hz1, hz2⟩ := info_parts (show (Try.prog.info? 53).map (fun i => (i.zero, i.size, i.bytes)) = some (some (.agg #[.int .u64 0, .int .u64 0]), 2, 16) by kernel_rfl)
  refine wpList_plain hg fun K hK' => ?_
  have hr := run_make (P := Try.prog) w 22 53 i (.agg #[.int .u64 0, .int .u64 0]) Try.underlying22 hi hz0 .i64 .i64 n n (by omega) (Int.le_refl _) (by rw [hz2]; omega) (by omega)
  simp only [Int.toNat_natCast, hz1] at hr
  unfold Oper.wp
  simp only [execOp, hop, hl, hc, hr, Result.andThen, Sem.run_bind, Sem.run_pure]
  have e : (madeCells (Value.agg #[.int .u64 0, .int .u64 0]).cells (n * 2)) = (itmCells (List.replicate n (0, 0))).toArray := by
    rw [← madeCells_itms, Array.toArray_toList]; rfl
  rw [e]
  exact hK' _ _ (hK _ (row_new w _ _) ((Below.refl _ _).alloc (Nat.le_refl _) _) (by simp))

end Go.Proofs.Ytbglgplfjhiafaa
