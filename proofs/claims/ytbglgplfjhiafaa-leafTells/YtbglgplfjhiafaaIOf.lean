/-
  A node in memory of its own; error numbers. Conditions: those that each contract names.
-/
import Derived.Test.YtbglgplfjhiafaaILaw
import Derived.Test.YtbglgplfjhiafaaIKid
import Derived.Deep.RegionWith
namespace Go.Proofs.Ytbglgplfjhiafaa
open Go.RowKit
set_option linter.unusedVariables false

theorem num7_u (n : Int) (w : World) : Calls Try.prog 16 #[.int .i64 n] w fun e w' => e = .returned (.int .i64 n) ∧ w = w' := by
  go_enter Try.func16, Try.ntmps16
  go_wp2
  go_ret
  exact ⟨rfl, rfl⟩

/-- 'append(nil, l...)' of items, l anywhere. -/
theorem run_copy_itms {w : World} {P : Nat → Prop} {a : Option Addr} {n c : Nat} {m : List Itm} (h : rItms.rd w P [.slice a n c] m) (ty : TypeId) :
    ∃ v' w', (Builtin.append_ #[22, 22] ty #[.slice none 0 0, .slice a n c]).run Try.prog w = .ok v' w' ∧ OwnI 53 w' w.heap.size v' m ∧ Below w.heap.size w w' := by
  obtain ⟨ht, i, z, hi, hz, hsize, hby, hzs, hpos⟩ := elem_itm
  obtain ⟨hl, hnc, hnil, hb⟩ := rList_len h
  rw [show rItm.bytes = 16 from rfl] at hb
  cases a with
  | none =>
    obtain rfl := hnil rfl
    obtain rfl : n = 0 := by omega
    obtain rfl : m = [] := List.length_eq_zero_iff.1 hl
    exact ⟨.slice none 0 0, w, run_append_owned_none (P := Try.prog) (w := w) w.heap.size 22 ty 53 i 2 ht hi _ 0 [] (World.ownsRow_nil w _ _ 2), OwnI.nil _ _ _, Below.refl _ _⟩
  | some ad =>
    obtain ⟨v', w', hr, k1, k2, -, k4⟩ := run_append_own_at (P := Try.prog) w w.heap.size 22 ty 53 i z 2 16 ht hi hz hsize hby hzs (by decide) (.slice none 0 0) 0 [] (World.ownsRow_nil w _ _ 2) ad n c (itmCells m) (by rw [itmCells_length, hl])
      (fun j u hj => by
        by_cases h0 : 0 < n
        · exact rItms_cells h h0 j u hj
        · obtain rfl : n = 0 := by omega
          obtain rfl : m = [] := List.length_eq_zero_iff.1 hl
          simp [itmCells] at hj)
      (fun u hu => by
        obtain ⟨x, hx, hux⟩ := List.mem_flatMap.1 hu
        exact rItm.one (rItm_rd.2 rfl : rItm.rd w (fun _ => True) _ x) u hux) (by unfold maxLen; omega) (by omega) (Nat.le_refl _)
    refine ⟨v', w', hr, ⟨by rw [hl]; simpa using k1⟩, (Below.refl _ w).grown k2 (Nat.le_refl _) (fun k hk => by cases hk)⟩

theorem rKids_cells {w : World} {P : Nat → Prop} {ad : Addr} {n c : Nat} {l : List Int} (h : rKids.rd w P [.slice (some ad) n c] l) (hn : 0 < n) : ∀ j u, (kidCells l)[j]? = some u → w.cell? (ad.add j) = some u := by
  obtain ⟨b, off, e, -, -, hat⟩ := rKids_at h hn
  simp only [Option.some.injEq] at e
  subst e
  intro j u hj
  have hlt : j < l.length := by have := (List.getElem?_eq_some_iff.1 hj).1; simpa [kidCells] using this
  rw [Addr.add_lit, (hat j hlt).1, ← hj]
  simp [kidCells, List.getElem?_eq_getElem hlt]

theorem rKids_ins {w : World} {P : Nat → Prop} {a : Option Addr} {n c : Nat} {l : List Int} (h : rKids.rd w P [.slice a n c] l) : ∀ x ∈ l, -9223372036854775808 ≤ x ∧ x ≤ 9223372036854775807 := by
  intro x hx
  obtain ⟨j, hj, rfl⟩ := List.getElem_of_mem hx
  have hl := (rList_len h).1
  obtain ⟨b, off, e, -, -, hat⟩ := rKids_at h (by omega)
  exact (hat j hj).2

theorem run_copy_kids {w : World} {P : Nat → Prop} {a : Option Addr} {n c : Nat} {m : List Int} (h : rKids.rd w P [.slice a n c] m) (ty : TypeId) :
    ∃ v' w', (Builtin.append_ #[23, 23] ty #[.slice none 0 0, .slice a n c]).run Try.prog w = .ok v' w' ∧ OwnK 3 w' w.heap.size v' m ∧ Below w.heap.size w w' := by
  obtain ⟨ht, i, z, hi, hz, hsize, hby, hzs, hpos⟩ := elem_kid
  have hin := rKids_ins h
  obtain ⟨hl, hnc, hnil, hb⟩ := rList_len h
  rw [show rInt.bytes = 8 from rfl] at hb
  cases a with
  | none =>
    obtain rfl := hnil rfl
    obtain rfl : n = 0 := by omega
    obtain rfl : m = [] := List.length_eq_zero_iff.1 hl
    exact ⟨.slice none 0 0, w, run_append_owned_none (P := Try.prog) (w := w) w.heap.size 23 ty 3 i 1 ht hi _ 0 [] (World.ownsRow_nil w _ _ 1), OwnK.nil _ _ _, Below.refl _ _⟩
  | some ad =>
    obtain ⟨v', w', hr, k1, k2, -, k4⟩ := run_append_own_at (P := Try.prog) w w.heap.size 23 ty 3 i z 1 8 ht hi hz hsize hby hzs (by decide) (.slice none 0 0) 0 [] (World.ownsRow_nil w _ _ 1) ad n c (kidCells m) (by simp [kidCells, hl])
      (fun j u hj => by
        by_cases h0 : 0 < n
        · exact rKids_cells h h0 j u hj
        · obtain rfl : n = 0 := by omega
          obtain rfl : m = [] := List.length_eq_zero_iff.1 hl
          simp [kidCells] at hj)
      (fun u hu => by
        simp only [kidCells, List.mem_map] at hu
        obtain ⟨x, -, rfl⟩ := hu
        rfl) (by unfold maxLen; omega) (by omega) (Nat.le_refl _)
    refine ⟨v', w', hr, ⟨by rw [hl]; simpa using k1, hin⟩, (Below.refl _ w).grown k2 (Nat.le_refl _) (fun k hk => by cases hk)⟩

end Go.Proofs.Ytbglgplfjhiafaa
