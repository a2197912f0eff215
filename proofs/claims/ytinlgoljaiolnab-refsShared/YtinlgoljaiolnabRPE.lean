/-
  The plain package over lists of extents and of spans: held against one another, copied. Conditions: those that each contract names.
-/
import Derived.Test.YtinlgoljaiolnabEOwn
import Derived.Test.YtinlgoljaiolnabREB
import Derived.Test.YtinlgoljaiolnabREql
import Derived.Deep.QuietTactic
import Derived.Lib.AppendZeros
namespace Go.Proofs.Ytinlgoljaiolnab
open Go.RowKit
set_option linter.unusedVariables false

def ints3 (s : Ext) : List Int := [s.1, s.2.1, s.2.2]
def ints2 (s : Spn) : List Int := [s.1, s.2]

theorem ints3_eq (s t : Ext) : (ints3 s == ints3 t) = decide (s = t) := by
  rw [Bool.eq_iff_iff, beq_iff_eq, decide_eq_true_eq]
  constructor
  · intro h
    simp only [ints3, List.cons.injEq, and_true] at h
    exact Prod.ext h.1 (Prod.ext h.2.1 h.2.2)
  · intro h
    rw [h]

theorem ints2_eq (s t : Spn) : (ints2 s == ints2 t) = decide (s = t) := by
  rw [Bool.eq_iff_iff, beq_iff_eq, decide_eq_true_eq]
  constructor
  · intro h
    simp only [ints2, List.cons.injEq, and_true] at h
    exact Prod.ext h.1 h.2
  · intro h
    rw [h]

theorem equal_ext (w : World) (s t : Ext) : (Op.equalIn 10000 43 (.agg #[.int .i64 s.1, .int .i64 s.2.1, .int .i64 s.2.2]) (.agg #[.int .i64 t.1, .int .i64 t.2.1, .int .i64 t.2.2])).run Try.prog w = .ok (decide (s = t)) w := by
  rw [← ints3_eq]
  exact equal_ints (ti := 3) Try.underlying3 (by kernel_rfl) (by kernel_rfl) 3 (by kernel_rfl) (by kernel_rfl) (by kernel_rfl) w (ints3 s) (ints3 t) rfl rfl

theorem equal_spn (w : World) (s t : Spn) : (Op.equalIn 10000 24 (.agg #[.int .i64 s.1, .int .i64 s.2]) (.agg #[.int .i64 t.1, .int .i64 t.2])).run Try.prog w = .ok (decide (s = t)) w := by
  rw [← ints2_eq]
  exact equal_ints (ti := 3) Try.underlying3 (by kernel_rfl) (by kernel_rfl) 2 (by kernel_rfl) (by kernel_rfl) (by kernel_rfl) w (ints2 s) (ints2 t) rfl rfl

theorem take_next {α : Type} {l m : List α} {j : Nat} (h : l.take j = m.take j) (h1 : j < l.length) (h2 : j < m.length) (e : l[j] = m[j]) : l.take (j + 1) = m.take (j + 1) := by
  rw [List.take_succ_eq_append_getElem h1, List.take_succ_eq_append_getElem h2, h, e]

theorem extCells_at : ∀ (l : List Ext) (j : Nat) (u : Value), (extCells l)[j]? = some u → ∃ q, ∃ hq : q < l.length, ∃ r, j = q * 3 + r ∧ (ext3 l[q])[r]? = some u
  | [], j, u, h => by simp [extCells] at h
  | x :: l, j, u, h => by
    rw [show extCells (x :: l) = ext3 x ++ extCells l from List.flatMap_cons] at h
    by_cases hj : j < 3
    · rw [List.getElem?_append_left (show j < 3 from hj)] at h
      exact ⟨0, by simp, j, by omega, h⟩
    · rw [List.getElem?_append_right (show 3 ≤ j by omega)] at h
      obtain ⟨q, hq, r, e, k⟩ := extCells_at l (j - 3) u h
      exact ⟨q + 1, by simpa using hq, r, by omega, by simpa using k⟩

theorem rExts_cells {w : World} {P : Nat → Prop} {ad : Addr} {n c : Nat} {l : List Ext} (h : rExts.rd w P [.slice (some ad) n c] l) (hn : 0 < n) : ∀ j u, (extCells l)[j]? = some u → w.cell? (ad.add j) = some u := by
  obtain ⟨b, off, e, -, -, hat⟩ := rExts_at h hn
  simp only [Option.some.injEq] at e
  subst e
  intro j u hj
  obtain ⟨q, hq, r, rfl, k⟩ := extCells_at l j u hj
  obtain ⟨c0, c1, c2, -⟩ := hat q hq
  rw [Addr.add_lit, ← Nat.add_assoc]
  match r, k with
  | 0, k => simp only [ext3, List.getElem?_cons_zero, Option.some.injEq] at k; rw [← k]; exact c0
  | 1, k => simp only [ext3, List.getElem?_cons_succ, List.getElem?_cons_zero, Option.some.injEq] at k; rw [← k]; exact c1
  | 2, k => simp only [ext3, List.getElem?_cons_succ, List.getElem?_cons_zero, Option.some.injEq] at k; rw [← k]; exact c2
  | r + 3, k => simp [ext3] at k

/-- 'append(nil, l...)', extents. -/
theorem run_append_exts {w : World} {P : Nat → Prop} {a : Option Addr} {n c : Nat} {l : List Ext} (h : rExts.rd w P [.slice a n c] l) (ty : TypeId) :
    ∃ v' w', (Builtin.append_ #[22, 22] ty #[.slice none 0 0, .slice a n c]).run Try.prog w = .ok v' w' ∧ OwnE 43 w' w.heap.size v' l ∧ Below w.heap.size w w' := by
  obtain ⟨ht, i, z, hi, hz, hsize, hby, hzs, hpos⟩ := elem_ext
  obtain ⟨hl, hnc, hnil, hb⟩ := rList_len h
  have hn : n ≤ 5864062014634 := by have : n * 24 ≤ 140737488351232 := hb; omega
  have hrow : w.ownsRow w.heap.size 43 3 (.slice none 0 0) 0 [] := World.ownsRow_nil w w.heap.size 43 3
  cases a with
  | none =>
    obtain rfl := hnil rfl
    obtain rfl : n = 0 := by omega
    obtain rfl : l = [] := List.length_eq_zero_iff.1 hl
    exact ⟨.slice none 0 0, w, run_append_owned_none (P := Try.prog) (w := w) w.heap.size 22 ty 43 i 3 ht hi (.slice none 0 0) 0 [] hrow, OwnE.nil _ _ _, Below.refl _ _⟩
  | some ad =>
    obtain ⟨v', w', hr, k1, k2, -, -⟩ := run_append_own_at (P := Try.prog) w w.heap.size 22 ty 43 i z 3 24 ht hi hz hsize hby hzs (by decide) (.slice none 0 0) 0 [] hrow ad n c (extCells l) (by rw [extCells_length, hl])
      (fun j u hj => by
        by_cases h0 : 0 < n
        · exact rExts_cells h h0 j u hj
        · obtain rfl : n = 0 := by omega
          obtain rfl : l = [] := List.length_eq_zero_iff.1 hl
          simp [extCells] at hj)
      (fun u hu => by
        obtain ⟨x, hx, hux⟩ := List.mem_flatMap.1 hu
        exact rExt.one (rExt_rd.2 ⟨rfl, rExts_in h x hx⟩ : rExt.rd w (fun _ => True) _ x) u hux) (by unfold maxLen; omega) (by omega) (Nat.le_refl _)
    rw [Nat.zero_add, List.nil_append] at k1
    exact ⟨v', w', hr, ⟨by rw [hl]; exact k1, rExts_in h⟩, (Below.refl _ _).grown k2 (Nat.le_refl _) (fun k hk => by cases hk)⟩

end Go.Proofs.Ytinlgoljaiolnab
