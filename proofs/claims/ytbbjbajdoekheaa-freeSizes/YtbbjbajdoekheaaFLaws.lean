/-
  Plain functions: spans freed in parts, sizes, what is left of all. It imports no program. Conditions: those that each lemma names.
-/
import Derived.Test.YtbbjbajdoekheaaFBest
namespace Go.Proofs.Ytbbjbajdoekheaa.Fr
open Ex
set_option linter.unusedVariables false

/-- Freed in two parts, the hind one first: as if freed at once. -/
theorem freed_parts {l : List Spn} {x : Spn} {k : Int} (h : Gaps 0 l) (hx0 : 0 ≤ x.1) (hk1 : 1 ≤ k) (hk2 : k < x.2) (hs : some_ l x = false) :
    some_ l (x.1 + k, x.2 - k) = false ∧ some_ (withR (x.1 + k, x.2 - k) false l) (x.1, k) = false ∧ withR (x.1, k) false (withR (x.1 + k, x.2 - k) false l) = withR x false l := by
  have hno := apart_of hs
  have hs1 : some_ l (x.1 + k, x.2 - k) = false := by
    cases e : some_ l (x.1 + k, x.2 - k) with
    | false => rfl
    | true =>
      obtain ⟨y, hy, k1, k2⟩ := some_mem.1 e
      have := hno y hy
      have := Gaps_mem h hy
      simp only at k1 k2
      omega
  obtain ⟨r1, r2⟩ := withR_ok (b := 0) (x := (x.1 + k, x.2 - k)) h (by show 0 ≤ x.1 + k; omega) (by show 1 ≤ x.2 - k; omega) (apart_of hs1)
  have hs2 : some_ (withR (x.1 + k, x.2 - k) false l) (x.1, k) = false := by
    cases e : some_ (withR (x.1 + k, x.2 - k) false l) (x.1, k) with
    | false => rfl
    | true =>
      obtain ⟨p, hp, hq⟩ := (some_has r1 (x := (x.1, k)) hk1).1 e
      rcases (r2 p).1 hq with hq | hq
      · have := (some_has h (x := x) (by omega)).2 ⟨p, by unfold inSpan at hp ⊢; simp only at hp; omega, hq⟩
        rw [hs] at this
        cases this
      · unfold inSpan at hp hq
        simp only at hp hq
        omega
  obtain ⟨q1, q2⟩ := withR_ok (b := 0) (x := (x.1, k)) r1 hx0 hk1 (apart_of hs2)
  obtain ⟨t1, t2⟩ := withR_ok (b := 0) (x := x) h hx0 (by omega) hno
  refine ⟨hs1, hs2, gaps_unique q1 t1 (fun p => ?_)⟩
  rw [q2, r2, t2, or_assoc]
  have e : (inSpan (x.1 + k, x.2 - k) p ∨ inSpan (x.1, k) p) ↔ inSpan x p := by unfold inSpan; simp only; omega
  rw [e]

/-- A size made greater and smaller again. -/
theorem grown_back {l : List Spn} {size more : Int} (h : Fit size l) (hs : 0 ≤ size) (hm : 1 ≤ more) : some_ l (size, more) = false ∧ Fit (size + more) (withR (size, more) false l) ∧ without (withR (size, more) false l) (size, more) = l ∧ total (withR (size, more) false l) = total l + more := by
  have hs1 : some_ l (size, more) = false := by
    cases e : some_ l (size, more) with
    | false => rfl
    | true =>
      obtain ⟨y, hy, k1, -⟩ := some_mem.1 e
      have := h.ends y hy
      simp only at k1
      omega
  obtain ⟨r1, r2⟩ := withR_ok (b := 0) (x := (size, more)) h.gaps hs hm (apart_of hs1)
  refine ⟨hs1, ⟨r1, fun y hy => ?_⟩, (freed_back h.gaps hm hs hs1).2, total_withR h.gaps hm (apart_of hs1)⟩
  have hg := Gaps_mem r1 hy
  rcases (r2 (y.1 + y.2 - 1)).1 ⟨y, hy, by unfold inSpan; omega⟩ with ⟨z, hz, hq⟩ | hq
  · have := h.ends z hz
    unfold inSpan at hq
    omega
  · unfold inSpan at hq
    simp only at hq
    omega

/-- What is in none of some spans. -/
def leftOf (l : List Spn) (used : List Spn) : List Spn := used.foldl without l

theorem leftOf_ok : ∀ {used l : List Spn} {b : Int}, Gaps b l → (∀ x ∈ used, 1 ≤ x.2) → Gaps b (leftOf l used) ∧ ∀ p, has (leftOf l used) p ↔ has l p ∧ ∀ x ∈ used, ¬ inSpan x p
  | [], l, b, h, _ => ⟨h, fun p => ⟨fun k => ⟨k, fun x hx => by cases hx⟩, fun k => k.1⟩⟩
  | x :: used, l, b, h, hx => by
    obtain ⟨w1, w2⟩ := without_ok (x := x) h (hx x (by simp))
    obtain ⟨i1, i2⟩ := leftOf_ok (used := used) w1 (fun y hy => hx y (by simp [hy]))
    refine ⟨i1, fun p => ?_⟩
    have e : leftOf l (x :: used) = leftOf (without l x) used := rfl
    rw [e, i2, w2]
    constructor
    · rintro ⟨⟨k1, k2⟩, k3⟩
      refine ⟨k1, fun y hy => ?_⟩
      rcases List.mem_cons.1 hy with rfl | hy
      · exact k2
      · exact k3 y hy
    · rintro ⟨k1, k2⟩
      exact ⟨⟨k1, k2 x (by simp)⟩, fun y hy => k2 y (by simp [hy])⟩

/-- A part of a state's spans taken: what is left is within the size. -/
theorem fit_without {size : Int} {l : List Spn} {x : Spn} (h : Fit size l) (hx : 1 ≤ x.2) : Fit size (without l x) := by
  obtain ⟨w1, w2⟩ := without_ok (x := x) h.gaps hx
  refine ⟨w1, fun y hy => ?_⟩
  have hg := Gaps_mem w1 hy
  obtain ⟨z, hz, hq⟩ := ((w2 (y.1 + y.2 - 1)).1 ⟨y, hy, by unfold inSpan; omega⟩).1
  have := h.ends z hz
  unfold inSpan at hq
  omega

end Go.Proofs.Ytbbjbajdoekheaa.Fr
