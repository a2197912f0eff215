/-
  Plain functions: free spans, some taken, some freed. It imports no program. Conditions: those that each lemma names.
-/
import Derived.Test.YtbbjbajdoekheaaESpans
namespace Go.Proofs.Ytbbjbajdoekheaa.Fr
open Ex
set_option linter.unusedVariables false

/-- Is a span within a size, and not empty? -/
abbrev Inside (x : Spn) (size : Int) : Prop := 1 ≤ x.2 ∧ 0 ≤ x.1 ∧ x.1 ≤ size ∧ x.2 ≤ size - x.1

theorem Gaps_weaken : ∀ {l : List Spn} {b c : Int}, Gaps c l → b ≤ c → Gaps b l
  | [], _, _, _, _ => trivial
  | x :: l, b, c, ⟨h1, h2, h3⟩, h => ⟨by omega, h2, h3⟩

theorem Gaps_mem : ∀ {l : List Spn} {b : Int}, Gaps b l → ∀ {x : Spn}, x ∈ l → b ≤ x.1 ∧ 1 ≤ x.2
  | y :: l, b, ⟨h1, h2, h3⟩, x, hx => by
    rcases List.mem_cons.1 hx with rfl | hx
    · exact ⟨h1, h2⟩
    · obtain ⟨r1, r2⟩ := Gaps_mem h3 hx
      exact ⟨by omega, r2⟩

/-- What is left of one free span. -/
def cutSpan (x y : Spn) : List Spn :=
  if min (y.1 + y.2) (x.1 + x.2) ≤ max y.1 x.1 then [y]
  else (if y.1 < max y.1 x.1 then [(y.1, max y.1 x.1 - y.1)] else []) ++ (if min (y.1 + y.2) (x.1 + x.2) < y.1 + y.2 then [(min (y.1 + y.2) (x.1 + x.2), y.1 + y.2 - min (y.1 + y.2) (x.1 + x.2))] else [])

/-- What is left of free spans. -/
def without (l : List Spn) (x : Spn) : List Spn := l.flatMap (cutSpan x)

theorem cutSpan_ok {x y : Spn} {b : Int} (hb : b ≤ y.1) (hy : 1 ≤ y.2) (hx : 1 ≤ x.2) : Gaps b (cutSpan x y) ∧ gapLast b (cutSpan x y) ≤ y.1 + y.2 + 1 ∧ ∀ p, has (cutSpan x y) p ↔ inSpan y p ∧ ¬ inSpan x p := by
  unfold cutSpan
  by_cases h : min (y.1 + y.2) (x.1 + x.2) ≤ max y.1 x.1
  · rw [if_pos h]
    refine ⟨⟨hb, hy, trivial⟩, Int.le_refl _, fun p => ?_⟩
    rw [has_one]
    unfold inSpan
    omega
  · rw [if_neg h]
    by_cases h1 : y.1 < max y.1 x.1
    · rw [if_pos h1]
      by_cases h2 : min (y.1 + y.2) (x.1 + x.2) < y.1 + y.2
      · rw [if_pos h2]
        refine ⟨⟨hb, by show 1 ≤ max y.1 x.1 - y.1; omega, by show y.1 + (max y.1 x.1 - y.1) + 1 ≤ min (y.1 + y.2) (x.1 + x.2); omega, by show 1 ≤ y.1 + y.2 - min (y.1 + y.2) (x.1 + x.2); omega, trivial⟩, by show min (y.1 + y.2) (x.1 + x.2) + (y.1 + y.2 - min (y.1 + y.2) (x.1 + x.2)) + 1 ≤ _; omega, fun p => ?_⟩
        rw [has_append, has_one, has_one]
        unfold inSpan
        simp only
        omega
      · rw [if_neg h2]
        refine ⟨⟨hb, by show 1 ≤ max y.1 x.1 - y.1; omega, trivial⟩, by show y.1 + (max y.1 x.1 - y.1) + 1 ≤ _; omega, fun p => ?_⟩
        rw [List.append_nil, has_one]
        unfold inSpan
        simp only
        omega
    · rw [if_neg h1]
      by_cases h2 : min (y.1 + y.2) (x.1 + x.2) < y.1 + y.2
      · rw [if_pos h2]
        refine ⟨⟨by show b ≤ min (y.1 + y.2) (x.1 + x.2); omega, by show 1 ≤ y.1 + y.2 - min (y.1 + y.2) (x.1 + x.2); omega, trivial⟩, by show min (y.1 + y.2) (x.1 + x.2) + (y.1 + y.2 - min (y.1 + y.2) (x.1 + x.2)) + 1 ≤ _; omega, fun p => ?_⟩
        rw [List.nil_append, has_one]
        unfold inSpan
        simp only
        omega
      · rw [if_neg h2]
        refine ⟨trivial, by show b ≤ _; omega, fun p => ?_⟩
        have e : has ([] ++ []) p ↔ False := by simp [has]
        rw [e, false_iff]
        unfold inSpan
        omega

theorem without_ok : ∀ {l : List Spn} {b : Int} {x : Spn}, Gaps b l → 1 ≤ x.2 → Gaps b (without l x) ∧ ∀ p, has (without l x) p ↔ has l p ∧ ¬ inSpan x p
  | [], b, x, _, _ => ⟨trivial, fun p => by simp [without, has]⟩
  | y :: l, b, x, ⟨h1, h2, h3⟩, hx => by
    obtain ⟨i1, i2⟩ := without_ok (x := x) h3 hx
    obtain ⟨c1, c2, c3⟩ := cutSpan_ok (x := x) h1 h2 hx
    have e : without (y :: l) x = cutSpan x y ++ without l x := rfl
    rw [e]
    refine ⟨Gaps_append.2 ⟨c1, Gaps_weaken i1 c2⟩, fun p => ?_⟩
    rw [has_append, c3, i2, has_cons]
    constructor
    · rintro (⟨h, k⟩ | ⟨h, k⟩)
      · exact ⟨.inl h, k⟩
      · exact ⟨.inr h, k⟩
    · rintro ⟨h | h, k⟩
      · exact .inl ⟨h, k⟩
      · exact .inr ⟨h, k⟩

/-- A span more, that overlaps none: those that touch it become one with it. -/
def withR (x : Spn) (laid : Bool) : List Spn → List Spn
  | [] => if laid then [] else [x]
  | y :: l =>
    if y.1 + y.2 = x.1 then withR (y.1, y.2 + x.2) laid l
    else if x.1 + x.2 = y.1 then withR (x.1, x.2 + y.2) laid l
    else if y.1 < x.1 then y :: withR x laid l
    else (if laid then [] else [x]) ++ y :: withR x true l

theorem withR_laid : ∀ {l : List Spn} {x : Spn}, 1 ≤ x.2 → (∀ y ∈ l, x.1 + x.2 < y.1 ∧ 1 ≤ y.2) → withR x true l = l
  | [], _, _, _ => rfl
  | y :: l, x, hx, h => by
    have hy := h y (by simp)
    unfold withR
    rw [if_neg (by omega), if_neg (by omega), if_neg (by omega), if_pos rfl, withR_laid hx (fun z hz => h z (by simp [hz]))]
    rfl

theorem withR_ok : ∀ {l : List Spn} {b : Int} {x : Spn}, Gaps b l → b ≤ x.1 → 1 ≤ x.2 → (∀ y ∈ l, y.1 + y.2 ≤ x.1 ∨ x.1 + x.2 ≤ y.1) →
    Gaps b (withR x false l) ∧ ∀ p, has (withR x false l) p ↔ has l p ∨ inSpan x p
  | [], b, x, _, hb, hx, _ => ⟨⟨hb, hx, trivial⟩, fun p => by
      have e : withR x false [] = [x] := rfl
      rw [e, has_one]
      have e2 : has [] p ↔ False := by simp [has]
      rw [e2, false_or]⟩
  | y :: l, b, x, ⟨h1, h2, h3⟩, hb, hx, hno => by
    have hy := hno y (by simp)
    have hl : ∀ z ∈ l, y.1 + y.2 + 1 ≤ z.1 ∧ 1 ≤ z.2 := fun z hz => Gaps_mem h3 hz
    unfold withR
    by_cases c1 : y.1 + y.2 = x.1
    · rw [if_pos c1]
      obtain ⟨i1, i2⟩ := withR_ok (l := l) (b := b) (x := (y.1, y.2 + x.2)) (Gaps_weaken h3 (by omega)) h1 (by show 1 ≤ y.2 + x.2; omega) (fun z hz => by
        have a := hl z hz
        have k := hno z (by simp [hz])
        simp only
        omega)
      refine ⟨i1, fun p => ?_⟩
      rw [i2, has_cons]
      have e : inSpan (y.1, y.2 + x.2) p ↔ inSpan y p ∨ inSpan x p := by unfold inSpan; simp only; omega
      rw [e]
      constructor
      · rintro (h | h | h)
        · exact .inl (.inr h)
        · exact .inl (.inl h)
        · exact .inr h
      · rintro ((h | h) | h)
        · exact .inr (.inl h)
        · exact .inl h
        · exact .inr (.inr h)
    · rw [if_neg c1]
      by_cases c2 : x.1 + x.2 = y.1
      · rw [if_pos c2]
        obtain ⟨i1, i2⟩ := withR_ok (l := l) (b := b) (x := (x.1, x.2 + y.2)) (Gaps_weaken h3 (by omega)) hb (by show 1 ≤ x.2 + y.2; omega) (fun z hz => by
          have a := hl z hz
          simp only
          omega)
        refine ⟨i1, fun p => ?_⟩
        rw [i2, has_cons]
        have e : inSpan (x.1, x.2 + y.2) p ↔ inSpan y p ∨ inSpan x p := by unfold inSpan; simp only; omega
        rw [e]
        constructor
        · rintro (h | h | h)
          · exact .inl (.inr h)
          · exact .inl (.inl h)
          · exact .inr h
        · rintro ((h | h) | h)
          · exact .inr (.inl h)
          · exact .inl h
          · exact .inr (.inr h)
      · rw [if_neg c2]
        by_cases c3 : y.1 < x.1
        · rw [if_pos c3]
          obtain ⟨i1, i2⟩ := withR_ok (l := l) (b := y.1 + y.2 + 1) (x := x) h3 (by omega) hx (fun z hz => hno z (by simp [hz]))
          refine ⟨⟨h1, h2, i1⟩, fun p => ?_⟩
          rw [has_cons, i2, has_cons, or_assoc]
        · rw [if_neg c3]
          have e : withR x true l = l := withR_laid hx (fun z hz => by have := hl z hz; omega)
          rw [e]
          refine ⟨⟨hb, hx, by show x.1 + x.2 + 1 ≤ y.1; omega, h2, h3⟩, fun p => ?_⟩
          have e2 : has ((if (false : Bool) = true then [] else [x]) ++ y :: l) p ↔ inSpan x p ∨ has (y :: l) p := by
            rw [if_neg (by decide), has_append, has_one]
          rw [e2]
          exact Or.comm

end Go.Proofs.Ytbbjbajdoekheaa.Fr
