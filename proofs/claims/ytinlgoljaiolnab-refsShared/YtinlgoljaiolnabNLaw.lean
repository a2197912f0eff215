/-
  Plain functions: each reference leads back to where it stands. It imports no program. Conditions: those that each lemma names.
-/
import Derived.Test.YtinlgoljaiolnabNMay
namespace Go.Proofs.Ytinlgoljaiolnab
set_option linter.unusedVariables false

namespace Rf

theorem at_of {l : List Ext} (h : Ex.Ok l) {e : Ext} (he : e ∈ l) {v : Int} (h1 : e.1 ≤ v) (h2 : v < e.1 + e.2.2) : Ex.at_ l v = e.2.1 + (v - e.1) := by
  obtain ⟨-, -, -, k⟩ := Ex.get_of_mem (h.good).from_ he
  have ho := Ex.good_phys h.good he
  unfold Ex.One Ex.Fits at ho
  unfold Ex.at_
  rw [k v h1 h2]
  show Ex.val e v = _
  unfold Ex.val
  rw [if_neg (by omega)]
  omega

theorem who_leads {x : Spn} {m : List Mpr} (h : checkM m = 0) : ∀ r ∈ whoR x m, (∃ k, ∃ hk : k < m.length, m[k].1 = r.2.2.1 ∧ Ex.at_ m[k].2 r.2.2.2 = r.1) ∧ x.1 ≤ r.1 ∧ r.1 + r.2.1 ≤ x.1 + x.2 := by
  intro r hr
  have h1 := (sort_perm _).mem_iff.1 hr
  unfold cutA at h1
  obtain ⟨r0, h2, h3⟩ := List.mem_filterMap.1 h1
  unfold allR at h2
  obtain ⟨o, ho, h2⟩ := List.mem_flatMap.1 h2
  obtain ⟨e, he, rfl⟩ := List.mem_map.1 h2
  obtain ⟨k, hk, rfl⟩ := List.mem_iff_getElem.1 ho
  obtain ⟨-, -, -, hOk⟩ := (mays_all (checkM_zero.1 h).2).1 _ ho
  unfold cutR at h3
  simp only at h3
  split at h3
  · cases h3
    simp only
    refine ⟨⟨k, hk, rfl, ?_⟩, by omega, by omega⟩
    rw [at_of hOk he (by omega) (by omega)]
    omega
  · cases h3

end Rf
end Go.Proofs.Ytinlgoljaiolnab
