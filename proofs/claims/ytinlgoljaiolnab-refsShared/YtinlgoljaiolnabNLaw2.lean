/-
  Plain functions: counts added up at a sector are the references into it; it is used just if there is one. It imports no program. Conditions: those that each lemma names.
-/
import Derived.Test.YtinlgoljaiolnabNUse
namespace Go.Proofs.Ytinlgoljaiolnab
set_option linter.unusedVariables false

namespace Rf

def sumAt (p : Int) : List Cnr → Int
  | [] => 0
  | x :: l => (if x.1 ≤ p ∧ p < x.1 + x.2.1 then x.2.2 else 0) + sumAt p l

theorem sum_append (p : Int) : ∀ a b : List Cnr, sumAt p (a ++ b) = sumAt p a + sumAt p b
  | [], b => by simp [sumAt]
  | x :: a, b => by
    show _ + sumAt p (a ++ b) = _
    rw [sum_append p a b]
    simp only [sumAt]
    omega
theorem sum_take {p : Int} {C : List Cnr} {k : Nat} (hk : k < C.length) : sumAt p (C.take (k + 1)) = sumAt p (C.take k) + if C[k].1 ≤ p ∧ p < C[k].1 + C[k].2.1 then C[k].2.2 else 0 := by
  rw [List.take_succ_eq_append_getElem hk, sum_append]
  simp only [sumAt, Int.add_zero]
theorem sum_bound {p : Int} : ∀ {C : List Cnr}, (∀ c ∈ C, Cin c) → 0 ≤ sumAt p C ∧ sumAt p C ≤ 9216 * (C.length : Int)
  | [], _ => by simp [sumAt]
  | x :: l, h => by
    have hx := h x (by simp)
    have ih := sum_bound (p := p) (C := l) (fun c hc => h c (by simp [hc]))
    unfold Cin at hx
    simp only [sumAt, List.length_cons]
    split <;> omega
theorem sum_says {p : Int} : ∀ {l : List Cnr} {b n : Int}, Steps b n l → sumAt p l = says l p
  | [], _, _, _ => rfl
  | x :: l, b, n, ⟨h1, h2, h3, h4, h5⟩ => by
    have ih := sum_says (p := p) h5
    unfold sumAt says
    by_cases c : x.1 ≤ p ∧ p < x.1 + x.2.1
    · rw [if_pos c, if_pos c, ih, h5.low (by omega)]
      omega
    · rw [if_neg c, if_neg c, ih]
      omega

theorem cut_one (p : Int) : ∀ l : List Rfr, (cutA (p, 1) l).length = often l p
  | [] => rfl
  | r :: l => by
    have ih := cut_one p l
    rw [often_cons]
    unfold cutA at *
    by_cases c : r.1 ≤ p ∧ p < r.1 + r.2.1
    · have e : cutR (p, 1) r = some (max r.1 p, min (r.1 + r.2.1) (p + 1) - max r.1 p, r.2.2.1, r.2.2.2 + max r.1 p - r.1) := by
        unfold cutR
        rw [if_pos (by simp only; omega)]
      rw [List.filterMap_cons_some e, List.length_cons, ih, if_pos c]
      omega
    · have e : cutR (p, 1) r = none := by
        unfold cutR
        rw [if_neg (by simp only; omega)]
      rw [List.filterMap_cons_none e, ih, if_neg c]
      omega
theorem who_one (p : Int) (M : List Mpr) : (whoR (p, 1) M).length = often (allR M) p := by
  unfold whoR
  rw [(sort_perm _).length_eq, cut_one]

theorem who_all {M : List Mpr} (h : checkM M = 0) : whoR (0, 65536) M = sort (allR M) := by
  unfold whoR
  rw [cut_all (fun r hr => by have := all_low h r hr; unfold Low at this; simp only; omega)]

/-- What the counts and the used spans say of a sector. -/
theorem counts_said {M : List Mpr} (h : checkM M = 0) (p : Int) :
    sumAt p (countsD (whoR (0, 65536) M)) = ((whoR (p, 1) M).length : Int) ∧ ((∃ x ∈ usedC (countsD (whoR (0, 65536) M)), Ex.inSpan x p) ↔ 0 < (whoR (p, 1) M).length) := by
  have hl := who_low (x := (0, 65536)) h
  obtain ⟨h1, h2⟩ := countsD_ok (l := whoR (0, 65536) M) (fun x hx => ⟨(hl x hx).1, (hl x hx).2.1⟩)
  have e : says (countsD (whoR (0, 65536) M)) p = ((whoR (p, 1) M).length : Int) := by rw [h2, who_one, who_all h, often_sort]
  refine ⟨by rw [sum_says h1, e], ?_⟩
  obtain ⟨k1, k2⟩ := used_all (out := []) h1 trivial (fun y hy => by cases hy) (fun c hc => (counts_in hl (who_few h) c hc).1)
  have k3 := k2 p
  rw [e] at k3
  show Ex.has (List.foldl glueC [] (countsD (whoR (0, 65536) M))) p ↔ _
  rw [k3]
  constructor
  · rintro (⟨z, hz, -⟩ | k)
    · cases hz
    · omega
  · exact fun k => .inr (by omega)

end Rf
end Go.Proofs.Ytinlgoljaiolnab
