/-
  Plain functions: what is in none of some spans, step by step; what follows of it. It imports no program. Conditions: those that each lemma names.
-/
import Derived.Test.YtbbjbajdoekheaaFBack
namespace Go.Proofs.Ytbbjbajdoekheaa
open Ex
set_option linter.unusedVariables false

theorem Fr.wo_not {z : Int} {u : List Spn} {q : Int} (h : Fr.withoutE z u = q) (hq : q ≠ 0) : Fr.withoutE z u = q ∧ Fr.withoutL z u = [] ∧ Fr.withoutZ z u = 0 := by
  refine ⟨h, ?_, ?_⟩
  · unfold Fr.withoutL; rw [h, if_neg hq]
  · unfold Fr.withoutZ; rw [h, if_neg hq]

theorem Fr.wo_range {z : Int} {u : List Spn} (h : Fr.sizeB z = false) : Fr.withoutE z u = 4 ∧ Fr.withoutL z u = [] ∧ Fr.withoutZ z u = 0 := Fr.wo_not (by unfold Fr.withoutE; rw [h]; rfl) (by decide)

theorem Fr.wo_count {z : Int} {u : List Spn} (h : Fr.sizeB z = true) (hc : ¬ u.length ≤ 1024) : Fr.withoutE z u = 3 ∧ Fr.withoutL z u = [] ∧ Fr.withoutZ z u = 0 := Fr.wo_not (by unfold Fr.withoutE; rw [h, if_pos rfl, if_neg hc]) (by decide)

theorem Fr.all_in {z : Int} {u : List Spn} (h : u.any (fun y => !Fr.inB z y) = false) : ∀ x ∈ u, Fr.Inside x z := by
  intro x hx
  have := List.any_eq_false.1 h x hx
  exact Fr.inB_iff.1 (by simpa using this)

theorem Fr.wo_out {z : Int} {u : List Spn} (h : Fr.sizeB z = true) (hc : u.length ≤ 1024) (ha : u.any (fun y => !Fr.inB z y) = true) : Fr.withoutE z u = 4 ∧ Fr.withoutL z u = [] ∧ Fr.withoutZ z u = 0 := by
  refine Fr.wo_not ?_ (by decide)
  unfold Fr.withoutE
  have : u.all (Fr.inB z) = false := by
    obtain ⟨x, hx, hn⟩ := List.any_eq_true.1 ha
    rw [← Bool.not_eq_true, List.all_eq_true]
    intro hall
    rw [hall x hx] at hn
    cases hn
  rw [h, if_pos rfl, if_pos hc, this]
  rfl

theorem Fr.wo_said {z : Int} {u : List Spn} (h : Fr.sizeB z = true) (hc : u.length ≤ 1024) (ha : ∀ x ∈ u, Fr.Inside x z) : Fr.withoutE z u = Fr.manyE (Fr.leftOf (Fr.newL z) u) ∧ Fr.withoutL z u = Fr.manyL (Fr.leftOf (Fr.newL z) u) ∧ Fr.withoutZ z u = Fr.manyZ z (Fr.leftOf (Fr.newL z) u) := by
  have hall : u.all (Fr.inB z) = true := List.all_eq_true.2 (fun x hx => Fr.inB_iff.2 (ha x hx))
  have e : Fr.withoutE z u = Fr.manyE (Fr.leftOf (Fr.newL z) u) := by unfold Fr.withoutE; rw [h, if_pos rfl, if_pos hc, hall, if_pos rfl]
  refine ⟨e, ?_, ?_⟩
  · unfold Fr.withoutL; rw [e]; unfold Fr.manyE Fr.manyL; split <;> rfl
  · unfold Fr.withoutZ; rw [e]; unfold Fr.manyE Fr.manyZ; split <;> rfl

theorem Fr.rising_of : ∀ {D : List Spn}, (∀ i j (hi : i < D.length) (hj : j < D.length), i < j → D[i].1 ≤ D[j].1) → Fr.Rising D
  | [], _ => trivial
  | x :: D, h => by
    refine ⟨fun y hy => ?_, Fr.rising_of (fun i j hi hj hij => h (i + 1) (j + 1) (by simpa using hi) (by simpa using hj) (by omega))⟩
    obtain ⟨j, hj, rfl⟩ := List.mem_iff_getElem.1 hy
    exact h 0 (j + 1) (by simp) (by simpa using hj) (by omega)

theorem Fr.gaps_len : ∀ {l : List Spn} {b z : Int}, Gaps b l → (∀ x ∈ l, x.1 + x.2 ≤ z) → (l.length : Int) ≤ max 0 (z - b)
  | [], b, z, _, _ => by simp; omega
  | x :: l, b, z, ⟨h1, h2, h3⟩, he => by
    have ih := Fr.gaps_len (z := z) h3 (fun y hy => he y (by simp [hy]))
    have hx := he x (by simp)
    rw [List.length_cons]
    omega

theorem Fr.left_fit {z : Int} {u : List Spn} (hz : 0 ≤ z) (hu : ∀ x ∈ u, 1 ≤ x.2) : Fr.Fit z (Fr.leftOf (Fr.newL z) u) := by
  obtain ⟨n1, n2⟩ := Fr.newL_gaps hz
  obtain ⟨l1, l2⟩ := Fr.leftOf_ok (used := u) n1 hu
  refine ⟨l1, fun y hy => ?_⟩
  have hg := Fr.Gaps_mem l1 hy
  have := ((l2 (y.1 + y.2 - 1)).1 ⟨y, hy, by unfold inSpan; omega⟩).1
  rw [n2] at this
  omega

theorem Fr.left_next {z : Int} {u : List Spn} {k : Nat} (hk : k < u.length) : Fr.leftOf (Fr.newL z) (u.take (k + 1)) = Fr.without (Fr.leftOf (Fr.newL z) (u.take k)) u[k] := by
  unfold Fr.leftOf
  rw [List.take_succ_eq_append_getElem hk, List.foldl_append]
  rfl

/-- Each sector is free just if no used span has it. -/
theorem Fr.all_said {z : Int} {u : List Spn} {p : Int} (h : Fr.withoutE z u = 0) (hp0 : 0 ≤ p) (hp1 : p < z) :
    Fr.withoutL z u = Fr.leftOf (Fr.newL z) u ∧ Fr.withoutZ z u = z ∧ Fr.checkE z (Fr.leftOf (Fr.newL z) u) = 0 ∧ (∀ x ∈ u, Fr.Inside x z) ∧ z ≤ 65536 ∧
    ((∃ x ∈ u, inSpan x p) → Fr.takeE z (Fr.leftOf (Fr.newL z) u) (p, 1) = 72) ∧ ((¬ ∃ x ∈ u, inSpan x p) → Fr.takeE z (Fr.leftOf (Fr.newL z) u) (p, 1) = 0 ∨ Fr.takeE z (Fr.leftOf (Fr.newL z) u) (p, 1) = 51) := by
  obtain ⟨⟨hz0, hz1⟩, hl, hI, hm⟩ := Fr.withoutE_zero.1 h
  have hu : ∀ x ∈ u, 1 ≤ x.2 := fun x hx => (hI x hx).1
  obtain ⟨n1, n2⟩ := Fr.newL_gaps hz0
  obtain ⟨l1, l2⟩ := Fr.leftOf_ok (used := u) n1 hu
  have hO : Fr.Ok z (Fr.leftOf (Fr.newL z) u) := ⟨hz0, hz1, hm, Fr.left_fit hz0 hu⟩
  have hin : Fr.Inside (p, 1) z := ⟨Int.le_refl _, hp0, by show p ≤ z; omega, by show 1 ≤ z - p; omega⟩
  have hs := Fr.spanE_of hO hin
  have hw : Fr.whole (Fr.leftOf (Fr.newL z) u) (p, 1) = true ↔ has (Fr.leftOf (Fr.newL z) u) p := by
    rw [Fr.whole_has l1 (show (1 : Int) ≤ ((p, 1) : Spn).2 from Int.le_refl _)]
    exact ⟨fun k => k p ⟨Int.le_refl _, by show p < p + 1; omega⟩, fun k q hq => by
      have : q = p := by unfold inSpan at hq; simp only at hq; omega
      rw [this]; exact k⟩
  refine ⟨if_pos h, if_pos h, (Fr.room_ok hO).1, hI, hz1, fun ⟨x, hx, hxp⟩ => ?_, fun hno => ?_⟩
  · refine ((Fr.take_said hs).2 ?_).1
    cases e : Fr.whole (Fr.leftOf (Fr.newL z) u) (p, 1) with
    | false => rfl
    | true => exact absurd hxp (((l2 p).1 (hw.1 e)).2 x hx)
  · have : Fr.whole (Fr.leftOf (Fr.newL z) u) (p, 1) = true := hw.2 ((l2 p).2 ⟨(n2 p).2 ⟨hp0, hp1⟩, fun x hx hxp => hno ⟨x, hx, hxp⟩⟩)
    rw [((Fr.take_said hs).1 this).1]
    unfold Fr.manyE
    split
    · exact .inl rfl
    · exact .inr rfl

end Go.Proofs.Ytbbjbajdoekheaa
