/-
  Plain functions: how many sectors are free; the span that fits best. It imports no program. Conditions: those that each lemma names.
-/
import Derived.Test.YtbbjbajdoekheaaFMore
namespace Go.Proofs.Ytbbjbajdoekheaa.Fr
open Ex
set_option linter.unusedVariables false

/-- How many sectors spans have. -/
def total : List Spn → Int
  | [] => 0
  | x :: l => x.2 + total l

theorem total_append : ∀ (l m : List Spn), total (l ++ m) = total l + total m
  | [], m => by simp [total]
  | x :: l, m => by
    have := total_append l m
    simp only [List.cons_append, total]
    omega

theorem cutSpan_apart {x y : Spn} (h : x.1 + x.2 ≤ y.1 ∨ y.1 + y.2 ≤ x.1) : cutSpan x y = [y] := by
  unfold cutSpan
  rw [if_pos (by omega)]

theorem without_apart : ∀ {l : List Spn} {x : Spn}, (∀ y ∈ l, x.1 + x.2 ≤ y.1 ∨ y.1 + y.2 ≤ x.1) → without l x = l
  | [], _, _ => rfl
  | y :: l, x, h => by
    have e : without (y :: l) x = cutSpan x y ++ without l x := rfl
    rw [e, cutSpan_apart (h y (by simp)), without_apart (fun z hz => h z (by simp [hz]))]
    rfl

theorem total_cut {x y : Spn} (hx : 1 ≤ x.2) (h1 : y.1 ≤ x.1) (h2 : x.1 + x.2 ≤ y.1 + y.2) : total (cutSpan x y) = y.2 - x.2 := by
  unfold cutSpan
  rw [if_neg (by omega), total_append]
  have e1 : total (if y.1 < max y.1 x.1 then [(y.1, max y.1 x.1 - y.1)] else []) = x.1 - y.1 := by
    split
    · simp only [total]; omega
    · simp only [total]; omega
  have e2 : total (if min (y.1 + y.2) (x.1 + x.2) < y.1 + y.2 then [(min (y.1 + y.2) (x.1 + x.2), y.1 + y.2 - min (y.1 + y.2) (x.1 + x.2))] else []) = y.1 + y.2 - (x.1 + x.2) := by
    split
    · simp only [total]; omega
    · simp only [total]; omega
  rw [e1, e2]
  omega

theorem total_without : ∀ {l : List Spn} {b : Int} {x : Spn}, Gaps b l → 1 ≤ x.2 → whole l x = true → total (without l x) = total l - x.2
  | [], b, x, _, hx, hw => by obtain ⟨y, hy, -⟩ := whole_mem.1 hw; cases hy
  | y :: l, b, x, ⟨h1, h2, h3⟩, hx, hw => by
    have e : without (y :: l) x = cutSpan x y ++ without l x := rfl
    rw [e, total_append]
    by_cases c : y.1 ≤ x.1 ∧ x.1 + x.2 ≤ y.1 + y.2
    · rw [total_cut hx c.1 c.2, without_apart (fun z hz => .inl (by have := Gaps_mem h3 hz; omega))]
      simp only [total]
      omega
    · obtain ⟨z, hz, k1, k2⟩ := whole_mem.1 hw
      rcases List.mem_cons.1 hz with rfl | hz
      · exact absurd ⟨k1, k2⟩ c
      · have hzg := Gaps_mem h3 hz
        rw [cutSpan_apart (.inr (by omega)), total_without h3 hx (whole_mem.2 ⟨z, hz, k1, k2⟩)]
        simp only [total]
        omega

theorem total_withR : ∀ {l : List Spn} {b : Int} {x : Spn}, Gaps b l → 1 ≤ x.2 → (∀ y ∈ l, y.1 + y.2 ≤ x.1 ∨ x.1 + x.2 ≤ y.1) → total (withR x false l) = total l + x.2
  | [], b, x, _, _, _ => by
    have e : withR x false [] = [x] := rfl
    rw [e]
    simp only [total]
    omega
  | y :: l, b, x, ⟨h1, h2, h3⟩, hx, hno => by
    have hy := hno y (by simp)
    have hl : ∀ z ∈ l, y.1 + y.2 + 1 ≤ z.1 ∧ 1 ≤ z.2 := fun z hz => Gaps_mem h3 hz
    unfold withR
    by_cases c1 : y.1 + y.2 = x.1
    · rw [if_pos c1, total_withR (x := (y.1, y.2 + x.2)) h3 (by show 1 ≤ y.2 + x.2; omega) (fun z hz => by
        have a := hl z hz
        have k := hno z (by simp [hz])
        simp only
        omega)]
      simp only [total]
      omega
    · rw [if_neg c1]
      by_cases c2 : x.1 + x.2 = y.1
      · rw [if_pos c2, total_withR (x := (x.1, x.2 + y.2)) h3 (by show 1 ≤ x.2 + y.2; omega) (fun z hz => by
          have a := hl z hz
          simp only
          omega)]
        simp only [total]
        omega
      · rw [if_neg c2]
        by_cases c3 : y.1 < x.1
        · rw [if_pos c3]
          simp only [total]
          rw [total_withR h3 hx (fun z hz => hno z (by simp [hz]))]
          omega
        · rw [if_neg c3, withR_laid hx (fun z hz => by have := hl z hz; omega), if_neg (by decide), total_append]
          simp only [total]
          omega

/-- How many sectors of a span lie below a line, from its first one on. -/
def room (line : Int) (y : Spn) : Int := min (y.1 + y.2) line - y.1

/-- One span looked at: the best so far, and where it begins. -/
def better (n line : Int) (b : Int × Int) (y : Spn) : Int × Int := if n ≤ room line y ∧ (b.2 < 0 ∨ room line y < b.1) then (room line y, y.1) else b

def best (n line : Int) (l : List Spn) : Int × Int := l.foldl (better n line) (0, -1)

/-- What the best one is: of all that have so many sectors below the line the one with the fewest there, the lowest of like ones. -/
def IsBest (n line : Int) (l : List Spn) (a : Int) : Prop := ∃ y ∈ l, y.1 = a ∧ n ≤ room line y ∧ ∀ z ∈ l, n ≤ room line z → room line y < room line z ∨ room line y = room line z ∧ y.1 ≤ z.1

theorem isBest_unique {n line : Int} {l : List Spn} {a a' : Int} (h : IsBest n line l a) (h' : IsBest n line l a') : a = a' := by
  obtain ⟨y, hy, rfl, k1, k2⟩ := h
  obtain ⟨z, hz, rfl, m1, m2⟩ := h'
  have e1 := k2 z hz m1
  have e2 := m2 y hy k1
  omega

theorem best_step {n line : Int} : ∀ {l : List Spn} {m : List Spn} {b : Int × Int} {c : Int}, Gaps c l → 0 ≤ c → (∀ z ∈ m, z.1 < c) →
    (b.2 < 0 ∧ (∀ z ∈ m, room line z < n) ∨ 0 ≤ b.2 ∧ ∃ y ∈ m, y.1 = b.2 ∧ b.1 = room line y ∧ n ≤ room line y ∧ ∀ z ∈ m, n ≤ room line z → room line y < room line z ∨ room line y = room line z ∧ y.1 ≤ z.1) →
    ((l.foldl (better n line) b).2 < 0 ∧ (∀ z ∈ m ++ l, room line z < n) ∨ 0 ≤ (l.foldl (better n line) b).2 ∧ IsBest n line (m ++ l) (l.foldl (better n line) b).2)
  | [], m, b, c, _, _, _, h => by
    rw [List.append_nil]
    rcases h with h | ⟨h0, y, hy, e1, e2, e3, e4⟩
    · exact .inl h
    · exact .inr ⟨h0, y, hy, e1, e3, e4⟩
  | x :: l, m, b, c, ⟨g1, g2, g3⟩, hc, hm, h => by
    have e : m ++ x :: l = (m ++ [x]) ++ l := by simp
    rw [e, List.foldl_cons]
    refine best_step (m := m ++ [x]) g3 (by omega) (fun z hz => ?_) ?_
    · rcases List.mem_append.1 hz with hz | hz
      · have := hm z hz; omega
      · rw [List.mem_singleton.1 hz]; omega
    · unfold better
      by_cases hb : n ≤ room line x ∧ (b.2 < 0 ∨ room line x < b.1)
      · rw [if_pos hb]
        refine .inr ⟨by show 0 ≤ x.1; omega, x, by simp, rfl, rfl, hb.1, fun z hz hn => ?_⟩
        rcases List.mem_append.1 hz with hz | hz
        · rcases h with ⟨h1, h2⟩ | ⟨h0, y, hy, e1, e2, e3, e4⟩
          · have := h2 z hz; omega
          · have := e4 z hz hn
            have := hb.2
            omega
        · rw [List.mem_singleton.1 hz]; omega
      · rw [if_neg hb]
        rcases h with ⟨h1, h2⟩ | ⟨h0, y, hy, e1, e2, e3, e4⟩
        · refine .inl ⟨h1, fun z hz => ?_⟩
          rcases List.mem_append.1 hz with hz | hz
          · exact h2 z hz
          · rw [List.mem_singleton.1 hz]
            by_cases c : room line x < n
            · exact c
            · exact absurd ⟨by omega, .inl h1⟩ hb
        · refine .inr ⟨h0, y, by simp [hy], e1, e2, e3, fun z hz hn => ?_⟩
          rcases List.mem_append.1 hz with hz | hz
          · exact e4 z hz hn
          · rw [List.mem_singleton.1 hz] at hn ⊢
            have hy' := hm y hy
            by_cases c : room line x < b.1
            · exact absurd ⟨hn, .inr c⟩ hb
            · omega

theorem best_ok {n line : Int} {l : List Spn} (h : Gaps 0 l) : ((best n line l).2 < 0 ∧ (∀ z ∈ l, room line z < n)) ∨ (0 ≤ (best n line l).2 ∧ IsBest n line l (best n line l).2) := by
  have := best_step (n := n) (line := line) (m := []) (b := (0, -1)) h (Int.le_refl _) (fun z hz => by cases hz) (.inl ⟨by decide, fun z hz => by cases hz⟩)
  simpa [best] using this

end Go.Proofs.Ytbbjbajdoekheaa.Fr
