/-
  Plain functions: which sectors are shared. It imports no program. Conditions: those that each lemma names.
-/
import Derived.Test.YtinlgoljaiolnabNLaw2
namespace Go.Proofs.Ytinlgoljaiolnab
set_option linter.unusedVariables false

namespace Rf

theorem says_ex : ∀ {l : List Cnr} {p : Int}, says l p ≠ 0 → ∃ c ∈ l, c.1 ≤ p ∧ p < c.1 + c.2.1 ∧ says l p = c.2.2
  | [], p, h => absurd rfl h
  | x :: l, p, h => by
    unfold says at h ⊢
    by_cases c : x.1 ≤ p ∧ p < x.1 + x.2.1
    · rw [if_pos c]
      exact ⟨x, by simp, c.1, c.2, rfl⟩
    · rw [if_neg c] at h ⊢
      obtain ⟨y, hy, r⟩ := says_ex h
      exact ⟨y, by simp [hy], r⟩

theorem often_cut (x : Spn) (p : Int) : ∀ l : List Rfr, often (cutA x l) p = if x.1 ≤ p ∧ p < x.1 + x.2 then often l p else 0
  | [] => by simp [cutA, often]
  | r :: l => by
    have ih := often_cut x p l
    rw [often_cons]
    unfold cutA at *
    by_cases c : max r.1 x.1 < min (r.1 + r.2.1) (x.1 + x.2)
    · have e : cutR x r = some (max r.1 x.1, min (r.1 + r.2.1) (x.1 + x.2) - max r.1 x.1, r.2.2.1, r.2.2.2 + max r.1 x.1 - r.1) := by
        unfold cutR
        rw [if_pos c]
      rw [List.filterMap_cons_some e, often_cons, ih]
      by_cases cp : x.1 ≤ p ∧ p < x.1 + x.2
      · rw [if_pos cp, if_pos cp]
        by_cases cr : r.1 ≤ p ∧ p < r.1 + r.2.1
        · rw [if_pos cr, if_pos (by simp only; omega)]
        · rw [if_neg cr, if_neg (by simp only; omega)]
      · rw [if_neg cp, if_neg cp, if_neg (by simp only; omega)]
    · have e : cutR x r = none := by
        unfold cutR
        rw [if_neg c]
      rw [List.filterMap_cons_none e, ih]
      by_cases cp : x.1 ≤ p ∧ p < x.1 + x.2
      · rw [if_pos cp, if_pos cp, if_neg (by omega)]
        omega
      · rw [if_neg cp, if_neg cp]
theorem often_who (x : Spn) (M : List Mpr) (p : Int) : often (whoR x M) p = if x.1 ≤ p ∧ p < x.1 + x.2 then often (allR M) p else 0 := by
  unfold whoR
  rw [often_sort, often_cut]

/-- Whether one of them is counted more than once. -/
def many (C : List Cnr) : Bool := C.any fun c => decide (1 < c.2.2)
theorem many_says {C : List Cnr} {b n : Int} (h : Steps b n C) : many C = true ↔ ∃ p, 1 < says C p := by
  unfold many
  rw [List.any_eq_true]
  constructor
  · rintro ⟨c, hc, hd⟩
    rw [decide_eq_true_eq] at hd
    obtain ⟨k1, k2, k3, k4⟩ := says_mem h hc
    exact ⟨c.1, by rw [k4 c.1 (Int.le_refl _) (by omega)]; exact hd⟩
  · rintro ⟨p, hp⟩
    obtain ⟨c, hc, -, -, e⟩ := says_ex (show says C p ≠ 0 by omega)
    exact ⟨c, hc, by rw [decide_eq_true_eq]; omega⟩
theorem many_who {x : Spn} {M : List Mpr} (h : checkM M = 0) : many (countsD (whoR x M)) = true ↔ ∃ p, x.1 ≤ p ∧ p < x.1 + x.2 ∧ 1 < often (allR M) p := by
  have hl := who_low (x := x) h
  obtain ⟨h1, h2⟩ := countsD_ok (l := whoR x M) (fun y hy => ⟨(hl y hy).1, (hl y hy).2.1⟩)
  rw [many_says h1]
  constructor
  · rintro ⟨p, hp⟩
    rw [h2, often_who] at hp
    by_cases c : x.1 ≤ p ∧ p < x.1 + x.2
    · rw [if_pos c] at hp
      exact ⟨p, c.1, c.2, by omega⟩
    · rw [if_neg c] at hp; simp at hp
  · rintro ⟨p, c1, c2, hp⟩
    exact ⟨p, by rw [h2, often_who, if_pos ⟨c1, c2⟩]; omega⟩

/-- As the document asks it: of all counts, those that meet the sectors. -/
def manyIn (x : Spn) (C : List Cnr) : Bool := C.any fun c => decide (1 < c.2.2) && decide (x.1 < c.1 + c.2.1) && (decide (c.1 < x.1) || decide (c.1 - x.1 < x.2))
theorem many_one {x : Spn} {M : List Mpr} (h : checkM M = 0) (hx : 1 ≤ x.2) : manyIn x (countsD (whoR (0, 65536) M)) = many (countsD (whoR x M)) := by
  rw [Bool.eq_iff_iff, many_who h]
  have hl := who_low (x := (0, 65536)) h
  obtain ⟨h1, h2⟩ := countsD_ok (l := whoR (0, 65536) M) (fun y hy => ⟨(hl y hy).1, (hl y hy).2.1⟩)
  unfold manyIn
  rw [List.any_eq_true]
  have e : ∀ p, says (countsD (whoR (0, 65536) M)) p = (often (allR M) p : Int) := fun p => by rw [h2, who_all h, often_sort]
  constructor
  · rintro ⟨c, hc, hd⟩
    simp only [Bool.and_eq_true, Bool.or_eq_true, decide_eq_true_eq] at hd
    obtain ⟨k1, k2, k3, k4⟩ := says_mem h1 hc
    have g := k4 (max c.1 x.1) (by omega) (by omega)
    rw [e] at g
    exact ⟨max c.1 x.1, by omega, by omega, by omega⟩
  · rintro ⟨p, c1, c2, hp⟩
    have ep := e p
    obtain ⟨c, hc, g1, g2, g3⟩ := says_ex (l := countsD (whoR (0, 65536) M)) (p := p) (by omega)
    refine ⟨c, hc, ?_⟩
    simp only [Bool.and_eq_true, Bool.or_eq_true, decide_eq_true_eq]
    omega

end Rf
end Go.Proofs.Ytinlgoljaiolnab
