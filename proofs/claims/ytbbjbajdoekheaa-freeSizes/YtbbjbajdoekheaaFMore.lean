/-
  Plain functions: states of free spans; what is free, taken, freed; how many sectors. It imports no program. Conditions: those that each lemma names.
-/
import Derived.Test.YtbbjbajdoekheaaFSpec
namespace Go.Proofs.Ytbbjbajdoekheaa.Fr
open Ex
set_option linter.unusedVariables false

/-- Spans in order, with gaps, within a size. -/
structure Fit (size : Int) (l : List Spn) : Prop where
  gaps : Gaps 0 l
  ends : ∀ x ∈ l, x.1 + x.2 ≤ size

/-- What a check asks of the k-th span. -/
def Step (size : Int) (l : List Spn) (k : Nat) (h : k < l.length) : Prop := Inside l[k] size ∧ ∀ j (hj : j + 1 = k), (l[j]'(by omega)).1 + (l[j]'(by omega)).2 < l[k].1

theorem gaps_steps : ∀ {l : List Spn} {b : Int}, (∀ x ∈ l, 1 ≤ x.2) → (∀ x, l.head? = some x → b ≤ x.1) → (∀ k (h : k + 1 < l.length), l[k].1 + l[k].2 < l[k + 1].1) → Gaps b l
  | [], _, _, _, _ => trivial
  | x :: l, b, h1, h2, h3 => by
    refine ⟨h2 x rfl, h1 x (by simp), gaps_steps (fun y hy => h1 y (by simp [hy])) (fun y hy => ?_) (fun k h => ?_)⟩
    · cases l with
      | nil => cases hy
      | cons z l =>
        simp only [List.head?_cons, Option.some.injEq] at hy
        subst hy
        have := h3 0 (by simp)
        simp only [List.getElem_cons_zero, List.getElem_cons_succ] at this
        omega
    · have := h3 (k + 1) (by simpa using h)
      simpa using this

theorem steps_gaps : ∀ {l : List Spn} {b : Int}, Gaps b l → ∀ k (h : k + 1 < l.length), l[k].1 + l[k].2 < l[k + 1].1
  | x :: y :: l, b, ⟨_, _, h⟩, 0, _ => by
    have := h.1
    simp only [List.getElem_cons_zero, List.getElem_cons_succ]
    omega
  | x :: l, b, ⟨_, _, h⟩, k + 1, hk => by
    have := steps_gaps h k (by simpa using hk)
    simpa using this

theorem fit_steps {size : Int} {l : List Spn} : Fit size l ↔ ∀ k (h : k < l.length), Step size l k h := by
  constructor
  · intro h k hk
    have hm := Gaps_mem h.gaps (List.getElem_mem hk)
    have he := h.ends _ (List.getElem_mem hk)
    refine ⟨⟨hm.2, hm.1, by omega, by omega⟩, fun j hj => ?_⟩
    subst hj
    exact steps_gaps h.gaps j hk
  · intro h
    have hin : ∀ x ∈ l, Inside x size := fun x hx => by
      obtain ⟨k, hk, rfl⟩ := List.mem_iff_getElem.1 hx
      exact (h k hk).1
    refine ⟨gaps_steps (fun x hx => (hin x hx).1) (fun x hx => ?_) (fun k hk => (h (k + 1) hk).2 k rfl), fun x hx => ?_⟩
    · have := hin x (List.mem_of_head? hx)
      exact this.2.1
    · have := hin x hx
      omega

/-- Are all sectors of a span free? -/
def whole (l : List Spn) (x : Spn) : Bool := l.any fun y => decide (y.1 ≤ x.1) && decide (x.1 + x.2 ≤ y.1 + y.2)
/-- Is one of them? -/
def some_ (l : List Spn) (x : Spn) : Bool := l.any fun y => decide (x.1 < y.1 + y.2) && decide (y.1 < x.1 + x.2)

theorem whole_mem {l : List Spn} {x : Spn} : whole l x = true ↔ ∃ y ∈ l, y.1 ≤ x.1 ∧ x.1 + x.2 ≤ y.1 + y.2 := by
  unfold whole
  rw [List.any_eq_true]
  simp only [Bool.and_eq_true, decide_eq_true_eq]

theorem some_mem {l : List Spn} {x : Spn} : some_ l x = true ↔ ∃ y ∈ l, x.1 < y.1 + y.2 ∧ y.1 < x.1 + x.2 := by
  unfold some_
  rw [List.any_eq_true]
  simp only [Bool.and_eq_true, decide_eq_true_eq]

theorem whole_has : ∀ {l : List Spn} {b : Int} {x : Spn}, Gaps b l → 1 ≤ x.2 → (whole l x = true ↔ ∀ p, inSpan x p → has l p)
  | [], b, x, _, hx => by
    rw [whole_mem]
    constructor
    · rintro ⟨y, hy, -⟩; cases hy
    · intro h
      obtain ⟨y, hy, -⟩ := h x.1 ⟨Int.le_refl _, by omega⟩
      cases hy
  | y :: l, b, x, ⟨h1, h2, h3⟩, hx => by
    have ih := whole_has (x := x) h3 hx
    rw [whole_mem]
    constructor
    · rintro ⟨z, hz, k1, k2⟩ p hp
      refine ⟨z, hz, ?_⟩
      unfold inSpan at hp ⊢
      omega
    · intro h
      by_cases c : y.1 ≤ x.1 ∧ x.1 + x.2 ≤ y.1 + y.2
      · exact ⟨y, by simp, c⟩
      · have hx1 := h x.1 ⟨Int.le_refl _, by omega⟩
        have hx2 := h (x.1 + x.2 - 1) ⟨by omega, by omega⟩
        have hlow : ¬ inSpan y x.1 := by
          intro hy
          unfold inSpan at hy
          have hmid : inSpan x (y.1 + y.2) := by unfold inSpan; omega
          rcases has_cons.1 (h _ hmid) with k | k
          · unfold inSpan at k; omega
          · exact h3.low (by omega) k
        have hge : y.1 + y.2 < x.1 := by
          rcases has_cons.1 hx1 with k | k
          · exact absurd k hlow
          · by_cases c2 : x.1 < y.1 + y.2 + 1
            · exact absurd k (h3.low c2)
            · omega
        have hr : whole l x = true := ih.2 (fun p hp => by
          rcases has_cons.1 (h p hp) with k | k
          · unfold inSpan at k hp; omega
          · exact k)
        obtain ⟨z, hz, k⟩ := whole_mem.1 hr
        exact ⟨z, by simp [hz], k⟩

theorem some_has {l : List Spn} {b : Int} {x : Spn} (h : Gaps b l) (hx : 1 ≤ x.2) : some_ l x = true ↔ ∃ p, inSpan x p ∧ has l p := by
  rw [some_mem]
  constructor
  · rintro ⟨y, hy, k1, k2⟩
    have := Gaps_mem h hy
    refine ⟨max x.1 y.1, ?_, y, hy, ?_⟩
    · unfold inSpan; omega
    · unfold inSpan; omega
  · rintro ⟨p, hp, y, hy, hq⟩
    unfold inSpan at hp hq
    exact ⟨y, hy, by omega, by omega⟩

theorem apart_of {l : List Spn} {x : Spn} (h : some_ l x = false) : ∀ y ∈ l, y.1 + y.2 ≤ x.1 ∨ x.1 + x.2 ≤ y.1 := by
  intro y hy
  by_cases c : x.1 < y.1 + y.2 ∧ y.1 < x.1 + x.2
  · have := some_mem.2 ⟨y, hy, c⟩
    rw [h] at this
    cases this
  · omega

/-- What was taken, freed again: all is as it was. -/
theorem taken_back {l : List Spn} {x : Spn} (h : Gaps 0 l) (hx : 1 ≤ x.2) (hx0 : 0 ≤ x.1) (hw : whole l x = true) : whole (without l x) x = false ∧ some_ (without l x) x = false ∧ withR x false (without l x) = l := by
  obtain ⟨w1, w2⟩ := without_ok (x := x) h hx
  have hs : some_ (without l x) x = false := by
    cases e : some_ (without l x) x with
    | false => rfl
    | true =>
      obtain ⟨p, hp, hq⟩ := (some_has w1 hx).1 e
      exact absurd hp ((w2 p).1 hq).2
  have hnw : whole (without l x) x = false := by
    cases e : whole (without l x) x with
    | false => rfl
    | true =>
      have := (whole_has w1 hx).1 e x.1 ⟨Int.le_refl _, by omega⟩
      exact absurd ⟨Int.le_refl _, by omega⟩ ((w2 x.1).1 this).2
  obtain ⟨r1, r2⟩ := withR_ok (b := 0) w1 hx0 hx (apart_of hs)
  refine ⟨hnw, hs, gaps_unique r1 h (fun p => ?_)⟩
  rw [r2, w2]
  constructor
  · rintro (⟨k, -⟩ | k)
    · exact k
    · exact (whole_has h hx).1 hw p k
  · intro k
    by_cases c : inSpan x p
    · exact .inr c
    · exact .inl ⟨k, c⟩

/-- What was freed is taken again: all is as it was. -/
theorem freed_back {l : List Spn} {x : Spn} (h : Gaps 0 l) (hx : 1 ≤ x.2) (hx0 : 0 ≤ x.1) (hs : some_ l x = false) : whole (withR x false l) x = true ∧ without (withR x false l) x = l := by
  obtain ⟨r1, r2⟩ := withR_ok (b := 0) h hx0 hx (apart_of hs)
  obtain ⟨w1, w2⟩ := without_ok (x := x) r1 hx
  refine ⟨(whole_has r1 hx).2 (fun p hp => (r2 p).2 (.inr hp)), gaps_unique w1 h (fun p => ?_)⟩
  rw [w2, r2]
  constructor
  · rintro ⟨k | k, c⟩
    · exact k
    · exact absurd k c
  · intro k
    refine ⟨.inl k, fun c => ?_⟩
    have := (some_has h hx).2 ⟨p, c, k⟩
    rw [hs] at this
    cases this

end Go.Proofs.Ytbbjbajdoekheaa.Fr
