/-
  Plain functions: one map under two owners. It imports no program. Conditions: those that each lemma names.
-/
import Derived.Test.YtinlgoljaiolnabNShrP
namespace Go.Proofs.Ytinlgoljaiolnab
set_option linter.unusedVariables false

namespace Rf

def m1 (l : List Ext) : List Mpr := [(3, l)]
def m2 (l : List Ext) : List Mpr := [(3, l), (4, l)]
def dbl (c : Cnr) : Cnr := (c.1, c.2.1, 2 * c.2.2)

theorem check_two (l : List Ext) : checkM (m2 l) = checkM (m1 l) := by
  have e1 : checkM (m1 l) = if Ex.checkE l = 0 then 0 else 9 := by
    unfold checkM m1 maysM maysM
    by_cases h : Ex.checkE l = 0
    · rw [if_pos h, if_pos (by simp [h])]
    · rw [if_neg h, if_neg (by simp [h])]
  have e2 : checkM (m2 l) = if Ex.checkE l = 0 then 0 else 9 := by
    unfold checkM m2 maysM maysM maysM
    by_cases h : Ex.checkE l = 0
    · rw [if_pos h, if_pos (by simp [h])]
    · rw [if_neg h, if_neg (by simp [h])]
  rw [e1, e2]

theorem often_owner (o o' : Int) (p : Int) : ∀ l : List Ext, often (l.map fun e => (e.2.1, e.2.2, o, e.1)) p = often (l.map fun e => (e.2.1, e.2.2, o', e.1)) p
  | [] => rfl
  | e :: l => by rw [List.map_cons, List.map_cons, often_cons, often_cons, often_owner o o' p l]
theorem often_append (a b : List Rfr) (p : Int) : often (a ++ b) p = often a p + often b p := by
  unfold often
  rw [List.filter_append, List.length_append]
theorem often_two (l : List Ext) (p : Int) : often (allR (m2 l)) p = 2 * often (allR (m1 l)) p := by
  unfold allR m1 m2
  simp only [List.flatMap_cons, List.flatMap_nil, List.append_nil]
  rw [often_append, often_owner 4 3]
  omega

theorem steps_dbl : ∀ {C : List Cnr} {b n : Int}, Steps b n C → Steps b (2 * n) (C.map dbl)
  | [], _, _, _ => trivial
  | x :: l, b, n, ⟨h1, h2, h3, h4, h5⟩ => by
    refine ⟨h1, h2, by show 1 ≤ 2 * x.2.2; omega, fun e => ?_, steps_dbl h5⟩
    have := h4 e
    show 2 * x.2.2 ≠ 2 * n
    omega
theorem says_dbl (p : Int) : ∀ C : List Cnr, says (C.map dbl) p = 2 * says C p
  | [] => rfl
  | x :: l => by
    rw [List.map_cons]
    unfold says
    rw [says_dbl p l]
    show (if x.1 ≤ p ∧ p < x.1 + x.2.1 then 2 * x.2.2 else _) = _
    split <;> rfl
theorem counts_two {l : List Ext} (h : checkM (m1 l) = 0) : countsD (whoR (0, 65536) (m2 l)) = (countsD (whoR (0, 65536) (m1 l))).map dbl := by
  have h' : checkM (m2 l) = 0 := (check_two l).trans h
  have l1 := who_low (x := (0, 65536)) h
  have l2 := who_low (x := (0, 65536)) h'
  obtain ⟨a1, a2⟩ := countsD_ok (l := whoR (0, 65536) (m1 l)) (fun y hy => ⟨(l1 y hy).1, (l1 y hy).2.1⟩)
  obtain ⟨b1, b2⟩ := countsD_ok (l := whoR (0, 65536) (m2 l)) (fun y hy => ⟨(l2 y hy).1, (l2 y hy).2.1⟩)
  refine steps_unique b1 (steps_dbl a1) (fun p => ?_)
  rw [b2, says_dbl, a2, who_all h, who_all h', often_sort, often_sort, often_two]
  omega

theorem who_some {x : Spn} {M : List Mpr} (h : checkM M = 0) : 0 < (whoR x M).length ↔ ∃ p, x.1 ≤ p ∧ p < x.1 + x.2 ∧ 0 < often (allR M) p := by
  constructor
  · intro hl
    obtain ⟨r, hr⟩ := List.exists_mem_of_length_pos hl
    have hlow := who_low h r hr
    unfold Low at hlow
    have ho : 0 < often (whoR x M) r.1 := by
      unfold often
      exact List.length_pos_of_mem (List.mem_filter.2 ⟨hr, by rw [decide_eq_true_eq]; omega⟩)
    rw [often_who] at ho
    by_cases c : x.1 ≤ r.1 ∧ r.1 < x.1 + x.2
    · rw [if_pos c] at ho
      exact ⟨r.1, c.1, c.2, ho⟩
    · rw [if_neg c] at ho; omega
  · rintro ⟨p, c1, c2, ho⟩
    have h2 : 0 < often (whoR x M) p := by rw [often_who, if_pos ⟨c1, c2⟩]; exact ho
    exact Nat.lt_of_lt_of_le h2 (often_le _ _)
theorem many_two {x : Spn} {l : List Ext} (h : checkM (m1 l) = 0) : many (countsD (whoR x (m2 l))) = decide (0 < (whoR x (m1 l)).length) := by
  rw [Bool.eq_iff_iff, many_who ((check_two l).trans h), decide_eq_true_eq, who_some h]
  constructor
  · rintro ⟨p, c1, c2, hp⟩
    rw [often_two] at hp
    exact ⟨p, c1, c2, by omega⟩
  · rintro ⟨p, c1, c2, hp⟩
    exact ⟨p, c1, c2, by rw [often_two]; omega⟩

end Rf
end Go.Proofs.Ytinlgoljaiolnab
