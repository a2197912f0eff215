/-
  Plain functions: how many sectors are free, the longest span, where the best one begins: bounds and steps. It imports no program. Conditions: those that each lemma names.
-/
import Derived.Test.YtbbjbajdoekheaaFBst
import Derived.Test.YtbbjbajdoekheaaFSaid
namespace Go.Proofs.Ytbbjbajdoekheaa
set_option linter.unusedVariables false

theorem Fr.total_bound : ∀ {l : List Spn}, (∀ y ∈ l, Fr.Mid y) → 0 ≤ Fr.total l ∧ Fr.total l ≤ 65536 * (l.length : Int)
  | [], _ => ⟨Int.le_refl _, by simp [Fr.total]⟩
  | y :: l, h => by
    have hy := h y (by simp)
    unfold Fr.Mid at hy
    have ih := Fr.total_bound (l := l) (fun z hz => h z (by simp [hz]))
    simp only [Fr.total, List.length_cons]
    omega

theorem Fr.total_next {l : List Spn} {k : Nat} (hk : k < l.length) : Fr.total (l.take (k + 1)) = Fr.total (l.take k) + l[k].2 := by
  rw [List.take_succ_eq_append_getElem hk, Fr.total_append]
  simp [Fr.total]

theorem Fr.longest_next {l : List Spn} {k : Nat} (hk : k < l.length) : Fr.longest (l.take (k + 1)) = max (Fr.longest (l.take k)) l[k].2 := by
  unfold Fr.longest
  rw [List.take_succ_eq_append_getElem hk, List.foldl_append]
  rfl

theorem Fr.bestA_in {z : Int} {l : List Spn} {q line : Int} : 0 ≤ Fr.bestA z l q line ∧ Fr.bestA z l q line ≤ 65536 := by
  unfold Fr.bestA
  by_cases h : Fr.bestE z l q line = 0
  · rw [if_pos h]
    have ho : Fr.okB z l = true := by
      cases e : Fr.okB z l with
      | true => rfl
      | false => rw [(Fr.best_no e).1] at h; cases h
    have hO := Fr.ok_iff.1 ho
    rcases Fr.best_ok (n := q) (line := line) hO.fit.gaps with hb | hb
    · have hr : 1 ≤ q ∧ 0 ≤ line := by
        by_cases hr : 1 ≤ q ∧ 0 ≤ line
        · exact hr
        · rw [(Fr.best_range ho hr).1] at h; cases h
      rw [(Fr.best_said ho hr.1 hr.2).1, if_pos hb.1] at h
      cases h
    · obtain ⟨h0, y, hy, e, -⟩ := hb
      have := hO.mid y hy
      unfold Fr.Mid at this
      omega
  · rw [if_neg h]; omega

theorem Fr.high_last {z : Int} {m : List Spn} {y : Spn} : Fr.high z (m ++ [y]) = if y.1 + y.2 = z then y.1 else z := by
  unfold Fr.high
  simp only [List.getLast?_append, List.getLast?_singleton, Option.some_or]

end Go.Proofs.Ytbbjbajdoekheaa
