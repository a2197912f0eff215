/-
  Lists of values of one cell each. It imports no program. Conditions: those that each lemma names.
-/
import Derived.Test.YtinlgoljaiolnabRep
import Derived.Test.YtinlgoljaiolnabROpen
namespace Go.Proofs.Ytinlgoljaiolnab
open Go.RowKit
set_option linter.unusedVariables false

/-- Values of one cell each, one for one. -/
structure Each {α : Type} (A : Rep α) (w : World) (P : Nat → Prop) (xs : List Value) (l : List α) : Prop where
  len : xs.length = l.length
  rd : ∀ (j : Nat) (v : Value) (x : α), xs[j]? = some v → l[j]? = some x → A.rd w P [v] x

theorem Each.nil {α : Type} (A : Rep α) (w : World) (P : Nat → Prop) : Each A w P [] [] := ⟨rfl, fun j v x h => by simp at h⟩

theorem Each.all {α : Type} {A : Rep α} {w : World} {P : Nat → Prop} : ∀ {xs : List Value} {l : List α}, Each A w P xs l → rdAll A w P xs l
  | [], [], _ => rfl
  | [], _ :: _, h => by have := h.len; simp at this
  | _ :: _, [], h => by have := h.len; simp at this
  | v :: xs, x :: l, h => ⟨[v], xs, rfl, h.rd 0 v x rfl rfl, Each.all ⟨by have := h.len; simpa using this, fun j v' x' h1 h2 => h.rd (j + 1) v' x' (by simpa using h1) (by simpa using h2)⟩⟩

theorem Each.keep {α : Type} {A : Rep α} {w w' : World} {P : Nat → Prop} {xs : List Value} {l : List α} (h : Each A w P xs l) (hk : ∀ b, P b → b < w.heap.size → w'.heap[b]? = w.heap[b]?) : Each A w' P xs l :=
  ⟨h.len, fun j v x h1 h2 => A.keep (h.rd j v x h1 h2) hk⟩

theorem Each.set {α : Type} {A : Rep α} {w : World} {P : Nat → Prop} {xs : List Value} {l : List α} (h : Each A w P xs l) (k : Nat) {v : Value} {x : α} (hv : A.rd w P [v] x) : Each A w P (xs.set k v) (l.set k x) := by
  refine ⟨by simp [h.len], fun j v' x' h1 h2 => ?_⟩
  rw [List.getElem?_set] at h1 h2
  by_cases e : k = j
  · subst e
    rw [if_pos rfl] at h1 h2
    split at h1
    · split at h2
      · cases h1; cases h2; exact hv
      · cases h2
    · cases h1
  · rw [if_neg e] at h1 h2
    exact h.rd j v' x' h1 h2

theorem Each.append {α : Type} {A : Rep α} {w : World} {P : Nat → Prop} {xs ys : List Value} {l m : List α} (h : Each A w P xs l) (k : Each A w P ys m) : Each A w P (xs ++ ys) (l ++ m) := by
  refine ⟨by simp [h.len, k.len], fun j v x h1 h2 => ?_⟩
  by_cases e : j < xs.length
  · rw [List.getElem?_append_left e] at h1
    rw [List.getElem?_append_left (by rw [← h.len]; exact e)] at h2
    exact h.rd j v x h1 h2
  · rw [List.getElem?_append_right (by omega)] at h1
    rw [List.getElem?_append_right (by rw [← h.len]; omega), ← h.len] at h2
    exact k.rd _ v x h1 h2

theorem Each.take {α : Type} {A : Rep α} {w : World} {P : Nat → Prop} {xs : List Value} {l : List α} (h : Each A w P xs l) (k : Nat) : Each A w P (xs.take k) (l.take k) := by
  refine ⟨by simp [h.len], fun j v x h1 h2 => ?_⟩
  rw [List.getElem?_take] at h1 h2
  split at h1
  · rename_i hj
    rw [if_pos hj] at h2
    exact h.rd j v x h1 h2
  · cases h1

theorem Each.replicate {α : Type} {A : Rep α} {w : World} {P : Nat → Prop} {v : Value} {x : α} (n : Nat) (h : A.rd w P [v] x) : Each A w P (List.replicate n v) (List.replicate n x) := by
  refine ⟨by simp, fun j v' x' h1 h2 => ?_⟩
  rw [List.getElem?_replicate] at h1 h2
  split at h1
  · rename_i hj
    rw [if_pos hj] at h2
    cases h1; cases h2; exact h
  · cases h1

/-- A list whose elements have one cell each: their values. -/
theorem values_of {α : Type} {A : Rep α} {hs : 0 < A.size} (h1 : A.size = 1) {w : World} {P : Nat → Prop} {a : Option Addr} {n c : Nat} {l : List α} (h : (rList A hs).rd w P [.slice a n c] l) :
    ∃ xs : List Value, Each A w P xs l ∧ (∀ v ∈ xs, v.oneCell' = true) ∧ (0 < xs.length → ∃ ad, a = some ad ∧ ∀ (j : Nat) (v : Value), xs[j]? = some v → w.cell? (ad.add j) = some v) := by
  obtain ⟨a', n', c', e, g1, g2, g3, g4, g5⟩ := h
  simp only [List.cons.injEq, Value.slice.injEq, and_true] at e
  obtain ⟨rfl, rfl, rfl⟩ := e
  cases a with
  | none =>
    have hn := g3 rfl
    have hl : l = [] := List.eq_nil_of_length_eq_zero (by omega)
    subst hl
    exact ⟨[], Each.nil _ _ _, (fun v hv => by cases hv), (fun h => by simp at h)⟩
  | some ad =>
    have hE := g5 ad rfl
    have each : ∀ j, j < l.length → ∃ v : Value, ∀ x, l[j]? = some x → A.rd w P [v] x ∧ w.cell? (ad.add j) = some v := by
      intro j hj
      obtain ⟨_, cj, k1, k2⟩ := hE j hj
      have hl := A.len k1
      rw [h1] at hl
      obtain ⟨v, rfl⟩ := List.length_eq_one_iff.1 hl
      refine ⟨v, fun x hx => ?_⟩
      rw [List.getElem?_eq_getElem hj] at hx
      cases hx
      refine ⟨k1, ?_⟩
      have := k2 0 v rfl
      rwa [h1, Nat.mul_one, Nat.add_zero] at this
    obtain ⟨xs, hx1, hx2⟩ := exists_list l.length each
    have hE : Each A w P xs l := ⟨hx1, fun j v x h3 h4 => by
      obtain ⟨hj, rfl⟩ := List.getElem?_eq_some_iff.1 h3
      exact (hx2 j hj x h4).1⟩
    refine ⟨xs, hE, fun v hv => ?_, fun _ => ⟨ad, rfl, fun j v h3 => ?_⟩⟩
    · obtain ⟨j, hj, rfl⟩ := List.getElem_of_mem hv
      have hj' : j < l.length := by omega
      exact A.one (hx2 j hj _ (List.getElem?_eq_getElem hj')).1 _ (by simp)
    · obtain ⟨hj, rfl⟩ := List.getElem?_eq_some_iff.1 h3
      have hj' : j < l.length := by omega
      exact (hx2 j hj _ (List.getElem?_eq_getElem hj')).2

end Go.Proofs.Ytinlgoljaiolnab
