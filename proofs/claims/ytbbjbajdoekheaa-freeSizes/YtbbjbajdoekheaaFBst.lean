/-
  Plain functions: the span that fits best, step by step. It imports no program. Conditions: those that each lemma names.
-/
import Derived.Test.YtbbjbajdoekheaaFAns
namespace Go.Proofs.Ytbbjbajdoekheaa
set_option linter.unusedVariables false

/-- Where the best one so far begins, and how short it is (0: there is none). -/
def Fr.bAt (b : Int × Int) : Int := if b.2 < 0 then 0 else b.2
def Fr.bSh (b : Int × Int) : Int := if b.2 < 0 then 0 else b.1

/-- None so far, or one that has so many. -/
def Fr.BInv (q : Int) (b : Int × Int) : Prop := (b.2 < 0 ∧ b = (0, -1)) ∨ (0 ≤ b.2 ∧ q ≤ b.1)

theorem Fr.best_next {l : List Spn} {k : Nat} {q line : Int} (hk : k < l.length) : (l.take (k + 1)).foldl (Fr.better q line) (0, -1) = Fr.better q line ((l.take k).foldl (Fr.better q line) (0, -1)) l[k] := by
  rw [List.take_succ_eq_append_getElem hk, List.foldl_append]
  rfl

theorem Fr.better_said {q line rm : Int} {b : Int × Int} {y : Spn} (h : Fr.BInv q b) (hq : 1 ≤ q) (hy : 0 ≤ y.1) (hr : Fr.room line y = rm) :
    ((decide (q ≤ rm) && (decide (Fr.bSh b = 0) || decide (rm < Fr.bSh b))) = true → Fr.better q line b y = (rm, y.1) ∧ Fr.BInv q (rm, y.1)) ∧ ((decide (q ≤ rm) && (decide (Fr.bSh b = 0) || decide (rm < Fr.bSh b))) = false → Fr.better q line b y = b) := by
  have key : (decide (q ≤ rm) && (decide (Fr.bSh b = 0) || decide (rm < Fr.bSh b))) = true ↔ q ≤ rm ∧ (b.2 < 0 ∨ rm < b.1) := by
    simp only [Bool.and_eq_true, Bool.or_eq_true, decide_eq_true_eq]
    unfold Fr.bSh
    rcases h with ⟨h1, h2⟩ | ⟨h1, h2⟩
    · rw [if_pos h1]
      exact ⟨fun k => ⟨k.1, .inl h1⟩, fun k => ⟨k.1, .inl rfl⟩⟩
    · rw [if_neg (by omega)]
      exact ⟨fun k => ⟨k.1, .inr (by rcases k.2 with k | k <;> omega)⟩, fun k => ⟨k.1, .inr (by rcases k.2 with k | k <;> omega)⟩⟩
  constructor
  · intro hc
    have hk := key.1 hc
    unfold Fr.better
    rw [hr, if_pos hk]
    exact ⟨rfl, .inr ⟨hy, hk.1⟩⟩
  · intro hc
    unfold Fr.better
    rw [hr, if_neg (fun hk => by rw [key.2 hk] at hc; cases hc)]

theorem Fr.best_no {z : Int} {l : List Spn} {q line : Int} (h : Fr.okB z l = false) : Fr.bestE z l q line = 9 ∧ Fr.bestA z l q line = 0 := by
  have e : Fr.bestE z l q line = 9 := by unfold Fr.bestE; rw [h]; rfl
  exact ⟨e, by unfold Fr.bestA; rw [e]; rfl⟩

theorem Fr.best_range {z : Int} {l : List Spn} {q line : Int} (h : Fr.okB z l = true) (hr : ¬ (1 ≤ q ∧ 0 ≤ line)) : Fr.bestE z l q line = 4 ∧ Fr.bestA z l q line = 0 := by
  have e : Fr.bestE z l q line = 4 := by unfold Fr.bestE; rw [h, if_pos rfl, if_neg hr]
  exact ⟨e, by unfold Fr.bestA; rw [e]; rfl⟩

theorem Fr.best_said {z : Int} {l : List Spn} {q line : Int} (h : Fr.okB z l = true) (h1 : 1 ≤ q) (h2 : 0 ≤ line) : Fr.bestE z l q line = (if (Fr.best q line l).2 < 0 then 51 else 0) ∧ Fr.bestA z l q line = Fr.bAt (Fr.best q line l) := by
  have e : Fr.bestE z l q line = (if (Fr.best q line l).2 < 0 then 51 else 0) := by unfold Fr.bestE; rw [h, if_pos rfl, if_pos ⟨h1, h2⟩]
  refine ⟨e, ?_⟩
  unfold Fr.bestA Fr.bAt
  rw [e]
  by_cases c : (Fr.best q line l).2 < 0
  · rw [if_pos c, if_pos c, if_neg (by decide)]
  · rw [if_neg c, if_neg c, if_pos rfl]

end Go.Proofs.Ytbbjbajdoekheaa
