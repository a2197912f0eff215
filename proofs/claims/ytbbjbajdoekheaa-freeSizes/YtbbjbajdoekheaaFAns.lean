/-
  Plain functions: what the calls of a state of free spans answer, and what follows of them. It imports no program. Conditions: those that each lemma names.
-/
import Derived.Test.YtbbjbajdoekheaaFLay
namespace Go.Proofs.Ytbbjbajdoekheaa.Fr
open Ex
set_option linter.unusedVariables false

/-- Spans in order, with gaps, from b on, within a size: told. -/
def gapsB (z : Int) : Int → List Spn → Bool
  | _, [] => true
  | b, x :: l => decide (b ≤ x.1) && decide (1 ≤ x.2) && decide (x.1 + x.2 ≤ z) && gapsB z (x.1 + x.2 + 1) l

theorem gapsB_iff (z : Int) : ∀ (l : List Spn) (b : Int), gapsB z b l = true ↔ Gaps b l ∧ ∀ x ∈ l, x.1 + x.2 ≤ z
  | [], b => ⟨fun _ => ⟨trivial, fun x hx => by cases hx⟩, fun _ => rfl⟩
  | x :: l, b => by
    have ih := gapsB_iff z l (x.1 + x.2 + 1)
    simp only [gapsB, Bool.and_eq_true, decide_eq_true_eq, ih, Gaps]
    constructor
    · rintro ⟨⟨⟨h1, h2⟩, h3⟩, h4, h5⟩
      refine ⟨⟨h1, h2, h4⟩, fun y hy => ?_⟩
      rcases List.mem_cons.1 hy with rfl | hy
      · exact h3
      · exact h5 y hy
    · rintro ⟨⟨h1, h2, h4⟩, h5⟩
      exact ⟨⟨⟨h1, h2⟩, h5 x (by simp)⟩, h4, fun y hy => h5 y (by simp [hy])⟩

def sizeB (z : Int) : Bool := decide (0 ≤ z) && decide (z ≤ 65536)
def okB (z : Int) (l : List Spn) : Bool := sizeB z && decide (l.length ≤ 1024) && gapsB z 0 l

structure Ok (z : Int) (l : List Spn) : Prop where
  low : 0 ≤ z
  high : z ≤ 65536
  len : l.length ≤ 1024
  fit : Fit z l

theorem ok_iff {z : Int} {l : List Spn} : okB z l = true ↔ Ok z l := by
  unfold okB sizeB
  simp only [Bool.and_eq_true, decide_eq_true_eq, gapsB_iff]
  constructor
  · rintro ⟨⟨⟨h1, h2⟩, h3⟩, h4, h5⟩
    exact ⟨h1, h2, h3, ⟨h4, h5⟩⟩
  · rintro ⟨h1, h2, h3, ⟨h4, h5⟩⟩
    exact ⟨⟨⟨h1, h2⟩, h3⟩, h4, h5⟩

theorem ok_no {z : Int} {l : List Spn} (h : okB z l = false) : ¬ Ok z l := fun k => by rw [ok_iff.2 k] at h; cases h

theorem Ok.mid {z : Int} {l : List Spn} (h : Ok z l) : ∀ y ∈ l, Mid y := by
  intro y hy
  have a := Gaps_mem h.fit.gaps hy
  have b := h.fit.ends y hy
  have c := h.high
  unfold Mid
  omega

def checkE (z : Int) (l : List Spn) : Int := if okB z l then 0 else 9

theorem checkE_ok {z : Int} {l : List Spn} (h : okB z l = true) : checkE z l = 0 := if_pos h
theorem checkE_no {z : Int} {l : List Spn} (h : okB z l = false) : checkE z l = 9 := by unfold checkE; rw [h]; rfl

def inB (z : Int) (x : Spn) : Bool := decide (1 ≤ x.2) && decide (0 ≤ x.1) && decide (x.1 ≤ z - x.2)

theorem inB_iff {z : Int} {x : Spn} : inB z x = true ↔ Inside x z := by
  unfold inB Inside
  simp only [Bool.and_eq_true, decide_eq_true_eq]
  omega

/-- The error of a span that is asked for. -/
def spanE (z : Int) (l : List Spn) (x : Spn) : Int := if okB z l then (if inB z x then 0 else 4) else 9

def bestE (z : Int) (l : List Spn) (n line : Int) : Int :=
  if okB z l then (if 1 ≤ n ∧ 0 ≤ line then (if (best n line l).2 < 0 then 51 else 0) else 4) else 9
def bestA (z : Int) (l : List Spn) (n line : Int) : Int := if bestE z l n line = 0 then (best n line l).2 else 0

/-- What is told of spans that have been laid: too many are none. -/
def manyE (m : List Spn) : Int := if m.length ≤ 1024 then 0 else 51
def manyL (m : List Spn) : List Spn := if m.length ≤ 1024 then m else []
def manyZ (z : Int) (m : List Spn) : Int := if m.length ≤ 1024 then z else 0

def takeE (z : Int) (l : List Spn) (x : Spn) : Int := if spanE z l x = 0 then (if whole l x then manyE (without l x) else 72) else spanE z l x
def takeL (z : Int) (l : List Spn) (x : Spn) : List Spn := if takeE z l x = 0 then without l x else []
def takeZ (z : Int) (l : List Spn) (x : Spn) : Int := if takeE z l x = 0 then z else 0

def freeE (z : Int) (l : List Spn) (x : Spn) : Int := if spanE z l x = 0 then (if some_ l x then 6 else manyE (withR x false l)) else spanE z l x
def freeL (z : Int) (l : List Spn) (x : Spn) : List Spn := if freeE z l x = 0 then withR x false l else []
def freeZ (z : Int) (l : List Spn) (x : Spn) : Int := if freeE z l x = 0 then z else 0

def allocE (z : Int) (l : List Spn) (n line : Int) : Int := if bestE z l n line = 0 then takeE z l (bestA z l n line, n) else bestE z l n line
def allocL (z : Int) (l : List Spn) (n line : Int) : List Spn := if bestE z l n line = 0 then takeL z l (bestA z l n line, n) else []
def allocZ (z : Int) (l : List Spn) (n line : Int) : Int := if bestE z l n line = 0 then takeZ z l (bestA z l n line, n) else 0

/-- One behind the last sector that is not free. -/
def high (z : Int) (l : List Spn) : Int := match l.getLast? with
  | none => z
  | some y => if y.1 + y.2 = z then y.1 else z
def highA (z : Int) (l : List Spn) : Int := if okB z l then high z l else 0

def longest : List Spn → Int := fun l => l.foldl (fun a x => max a x.2) 0
def roomA (z : Int) (l : List Spn) : Int := if okB z l then total l else 0
def roomB (z : Int) (l : List Spn) : Int := if okB z l then longest l else 0

/-- The spans of a state of another size. -/
def resized (z : Int) (l : List Spn) (m : Int) : List Spn := if m < z then without l (m, z - m) else if m = z then l else withR (z, m - z) false l
def resizeE (z : Int) (l : List Spn) (m : Int) : Int := if okB z l then (if sizeB m then (if m < high z l then 72 else manyE (resized z l m)) else 4) else 9
def resizeL (z : Int) (l : List Spn) (m : Int) : List Spn := if resizeE z l m = 0 then resized z l m else []
def resizeZ (z : Int) (l : List Spn) (m : Int) : Int := if resizeE z l m = 0 then m else 0

def newL (z : Int) : List Spn := if z = 0 then [] else [(0, z)]
def newE (z : Int) : Int := if sizeB z then 0 else 4

def withoutE (z : Int) (used : List Spn) : Int :=
  if sizeB z then (if used.length ≤ 1024 then (if used.all (inB z) then manyE (leftOf (newL z) used) else 4) else 3) else 4
def withoutL (z : Int) (used : List Spn) : List Spn := if withoutE z used = 0 then leftOf (newL z) used else []
def withoutZ (z : Int) (used : List Spn) : Int := if withoutE z used = 0 then z else 0

theorem manyE_zero {m : List Spn} : manyE m = 0 ↔ m.length ≤ 1024 := by
  unfold manyE
  by_cases h : m.length ≤ 1024
  · rw [if_pos h]; exact ⟨fun _ => h, fun _ => rfl⟩
  · rw [if_neg h]; exact ⟨fun k => absurd k (by decide), fun k => absurd k h⟩

theorem spanE_zero {z : Int} {l : List Spn} {x : Spn} : spanE z l x = 0 ↔ Ok z l ∧ Inside x z := by
  unfold spanE
  cases h : okB z l
  · rw [if_neg (by decide)]; exact ⟨fun k => absurd k (by decide), fun k => absurd k.1 (ok_no h)⟩
  · rw [if_pos rfl]
    cases g : inB z x
    · rw [if_neg (by decide)]; exact ⟨fun k => absurd k (by decide), fun k => by rw [inB_iff.2 k.2] at g; cases g⟩
    · rw [if_pos rfl]; exact ⟨fun _ => ⟨ok_iff.1 h, inB_iff.1 g⟩, fun _ => rfl⟩

theorem takeE_zero {z : Int} {l : List Spn} {x : Spn} : takeE z l x = 0 ↔ Ok z l ∧ Inside x z ∧ whole l x = true ∧ (without l x).length ≤ 1024 := by
  unfold takeE
  by_cases h : spanE z l x = 0
  · rw [if_pos h]
    obtain ⟨h1, h2⟩ := spanE_zero.1 h
    cases g : whole l x
    · rw [if_neg (by decide)]; exact ⟨fun k => absurd k (by decide), fun k => by cases k.2.2.1⟩
    · rw [if_pos rfl, manyE_zero]; exact ⟨fun k => ⟨h1, h2, rfl, k⟩, fun k => k.2.2.2⟩
  · rw [if_neg h]; exact ⟨fun k => absurd k h, fun k => absurd (spanE_zero.2 ⟨k.1, k.2.1⟩) h⟩

theorem freeE_zero {z : Int} {l : List Spn} {x : Spn} : freeE z l x = 0 ↔ Ok z l ∧ Inside x z ∧ some_ l x = false ∧ (withR x false l).length ≤ 1024 := by
  unfold freeE
  by_cases h : spanE z l x = 0
  · rw [if_pos h]
    obtain ⟨h1, h2⟩ := spanE_zero.1 h
    cases g : some_ l x
    · rw [if_neg (by decide), manyE_zero]; exact ⟨fun k => ⟨h1, h2, rfl, k⟩, fun k => k.2.2.2⟩
    · rw [if_pos rfl]; exact ⟨fun k => absurd k (by decide), fun k => by cases k.2.2.1⟩
  · rw [if_neg h]; exact ⟨fun k => absurd k h, fun k => absurd (spanE_zero.2 ⟨k.1, k.2.1⟩) h⟩

theorem takeL_len (z : Int) (l : List Spn) (x : Spn) : (takeL z l x).length ≤ 1024 := by
  unfold takeL
  by_cases h : takeE z l x = 0
  · rw [if_pos h]; exact (takeE_zero.1 h).2.2.2
  · rw [if_neg h]; decide

theorem freeL_len (z : Int) (l : List Spn) (x : Spn) : (freeL z l x).length ≤ 1024 := by
  unfold freeL
  by_cases h : freeE z l x = 0
  · rw [if_pos h]; exact (freeE_zero.1 h).2.2.2
  · rw [if_neg h]; decide

theorem allocL_len (z : Int) (l : List Spn) (n line : Int) : (allocL z l n line).length ≤ 1024 := by
  unfold allocL
  split
  · exact takeL_len _ _ _
  · decide

theorem resizeE_zero {z : Int} {l : List Spn} {m : Int} : resizeE z l m = 0 ↔ Ok z l ∧ (0 ≤ m ∧ m ≤ 65536) ∧ high z l ≤ m ∧ (resized z l m).length ≤ 1024 := by
  unfold resizeE
  cases h : okB z l
  · rw [if_neg (by decide)]; exact ⟨fun k => absurd k (by decide), fun k => absurd k.1 (ok_no h)⟩
  · rw [if_pos rfl]
    have ho := ok_iff.1 h
    by_cases hs : 0 ≤ m ∧ m ≤ 65536
    · rw [if_pos (by unfold sizeB; simp [hs])]
      by_cases hh : m < high z l
      · rw [if_pos hh]; exact ⟨fun k => absurd k (by decide), fun k => by have := k.2.2.1; omega⟩
      · rw [if_neg hh, manyE_zero]; exact ⟨fun k => ⟨ho, hs, by omega, k⟩, fun k => k.2.2.2⟩
    · rw [if_neg (by unfold sizeB; simp; omega)]; exact ⟨fun k => absurd k (by decide), fun k => absurd k.2.1 hs⟩

theorem resizeL_len (z : Int) (l : List Spn) (m : Int) : (resizeL z l m).length ≤ 1024 := by
  unfold resizeL
  by_cases h : resizeE z l m = 0
  · rw [if_pos h]; exact (resizeE_zero.1 h).2.2.2
  · rw [if_neg h]; decide

theorem withoutE_zero {z : Int} {u : List Spn} : withoutE z u = 0 ↔ (0 ≤ z ∧ z ≤ 65536) ∧ u.length ≤ 1024 ∧ (∀ x ∈ u, Inside x z) ∧ (leftOf (newL z) u).length ≤ 1024 := by
  unfold withoutE
  by_cases hs : 0 ≤ z ∧ z ≤ 65536
  · rw [if_pos (by unfold sizeB; simp [hs])]
    by_cases hl : u.length ≤ 1024
    · rw [if_pos hl]
      cases ha : u.all (inB z)
      · rw [if_neg (by decide)]
        refine ⟨fun k => absurd k (by decide), fun k => ?_⟩
        have : u.all (inB z) = true := List.all_eq_true.2 (fun x hx => inB_iff.2 (k.2.2.1 x hx))
        rw [ha] at this; cases this
      · rw [if_pos rfl, manyE_zero]
        exact ⟨fun k => ⟨hs, hl, fun x hx => inB_iff.1 (List.all_eq_true.1 ha x hx), k⟩, fun k => k.2.2.2⟩
    · rw [if_neg hl]; exact ⟨fun k => absurd k (by decide), fun k => absurd k.2.1 hl⟩
  · rw [if_neg (by unfold sizeB; simp; omega)]; exact ⟨fun k => absurd k (by decide), fun k => absurd k.1 hs⟩

theorem withoutL_len (z : Int) (u : List Spn) : (withoutL z u).length ≤ 1024 := by
  unfold withoutL
  by_cases h : withoutE z u = 0
  · rw [if_pos h]; exact (withoutE_zero.1 h).2.2.2
  · rw [if_neg h]; decide

theorem newL_gaps {z : Int} (h : 0 ≤ z) : Gaps 0 (newL z) ∧ ∀ p, has (newL z) p ↔ 0 ≤ p ∧ p < z := by
  unfold newL
  by_cases e : z = 0
  · rw [if_pos e]
    exact ⟨trivial, fun p => by
      have : has [] p ↔ False := by simp [has]
      rw [this, false_iff]; omega⟩
  · rw [if_neg e]
    refine ⟨⟨Int.le_refl _, by show 1 ≤ z; omega, trivial⟩, fun p => ?_⟩
    rw [has_one]
    unfold inSpan
    simp only
    omega

/-- What is laid where a size is another. -/
def sizePs (z : Int) (l : List Spn) (m : Int) : List Pc := within l 0 m ++ [(z, m)]

theorem high_ends {z : Int} {l : List Spn} (h : Fit z l) (hz : 0 ≤ z) : 0 ≤ high z l ∧ high z l ≤ z ∧ ∀ p, high z l ≤ p → p < z → has l p := by
  unfold high
  rcases List.eq_nil_or_concat l with rfl | ⟨m, y, rfl⟩
  · exact ⟨hz, Int.le_refl _, fun p h1 h2 => by have h1 : z ≤ p := h1; omega⟩
  · rw [List.concat_eq_append] at h ⊢
    have a := Gaps_mem h.gaps (x := y) (by simp)
    have b := h.ends y (by simp)
    simp only [List.getLast?_append, List.getLast?_singleton, Option.some_or]
    by_cases e : y.1 + y.2 = z
    · rw [if_pos e]
      exact ⟨a.1, by omega, fun p h1 h2 => ⟨y, by simp, by unfold inSpan; omega⟩⟩
    · rw [if_neg e]
      exact ⟨hz, Int.le_refl _, fun p h1 h2 => by omega⟩

theorem sized_laid {z : Int} {l : List Spn} {m : Int} (h : Fit z l) (hz : 0 ≤ z) (hm : 0 ≤ m) (hh : high z l ≤ m) : layAll [] (sizePs z l m) = resized z l m := by
  have hr : RiseTo 0 (max m 0) (sizePs z l m) := by
    by_cases c : z < m
    · have h1 : RiseTo 0 z (within l 0 m) := by
        have e : within l 0 m = within l 0 z := by
          unfold within
          refine List.map_congr_left (fun y hy => ?_)
          have := h.ends y hy
          congr 1
          omega
        rw [e]
        exact within_rise (b := 0) h.gaps (Int.le_refl _) (by omega) hz
      have e : max m 0 = m := by omega
      rw [e]
      exact h1.append (riseOne (by omega))
    · have h1 : RiseTo 0 m (within l 0 m) := within_rise (b := 0) h.gaps (Int.le_refl _) (by omega) hm
      have e : max m 0 = m := by omega
      rw [e]
      exact h1.append (.inl ⟨by show m ≤ z; omega, Int.le_refl _⟩)
  obtain ⟨i1, i2, -⟩ := lay_ok (out := []) trivial (Int.le_refl 0) (fun y hy => by cases hy) hr
  have key : Gaps 0 (resized z l m) ∧ ∀ p, has (resized z l m) p ↔ (has l p ∧ p < m) ∨ (z ≤ p ∧ p < m) := by
    unfold resized
    by_cases c1 : m < z
    · rw [if_pos c1]
      obtain ⟨w1, w2⟩ := without_ok (x := (m, z - m)) h.gaps (by show 1 ≤ z - m; omega)
      refine ⟨w1, fun p => ?_⟩
      rw [w2]
      unfold inSpan
      simp only
      constructor
      · rintro ⟨⟨y, hy, hp⟩, k2⟩
        have := h.ends y hy
        unfold inSpan at hp
        exact .inl ⟨⟨y, hy, hp⟩, by omega⟩
      · rintro (⟨k1, k2⟩ | k)
        · exact ⟨k1, by omega⟩
        · omega
    · rw [if_neg c1]
      by_cases c2 : m = z
      · rw [if_pos c2]
        refine ⟨h.gaps, fun p => ?_⟩
        constructor
        · rintro ⟨y, hy, hp⟩
          have := h.ends y hy
          unfold inSpan at hp
          exact .inl ⟨⟨y, hy, hp⟩, by omega⟩
        · rintro (⟨k1, k2⟩ | k)
          · exact k1
          · omega
      · rw [if_neg c2]
        obtain ⟨w1, w2⟩ := withR_ok (b := 0) (x := (z, m - z)) h.gaps hz (by show 1 ≤ m - z; omega) (fun y hy => .inl (h.ends y hy))
        refine ⟨w1, fun p => ?_⟩
        rw [w2]
        unfold inSpan
        simp only
        constructor
        · rintro (⟨y, hy, hp⟩ | k)
          · have := h.ends y hy
            unfold inSpan at hp
            exact .inl ⟨⟨y, hy, hp⟩, by omega⟩
          · exact .inr (by omega)
        · rintro (⟨k1, k2⟩ | k)
          · exact .inl k1
          · exact .inr (by omega)
  refine gaps_unique i1 key.1 (fun p => ?_)
  rw [i2, key.2]
  have e : has [] p ↔ False := by simp [has]
  rw [e, false_or]
  unfold sizePs
  have e1 : hasP [(z, m)] p ↔ z ≤ p ∧ p < m := by
    rw [hasP_cons]
    have : hasP [] p ↔ False := by simp [hasP]
    rw [this, or_false]
  rw [hasP_append, within_has, e1]
  constructor
  · rintro (⟨k1, k2, k3⟩ | k)
    · exact .inl ⟨k1, k3⟩
    · exact .inr k
  · rintro (⟨k1, k2⟩ | k)
    · obtain ⟨y, hy, hp⟩ := k1
      have := Gaps_mem h.gaps hy
      unfold inSpan at hp
      exact .inl ⟨⟨y, hy, hp⟩, by omega, k2⟩
    · exact .inr k

/-- What is laid between used spans, by where they begin. -/
def gapPs (z : Int) : Int → List Spn → List Pc
  | a, [] => [(a, z)]
  | a, x :: D => (a, x.1) :: gapPs z (max a (x.1 + x.2)) D

def Rising : List Spn → Prop
  | [] => True
  | x :: D => (∀ y ∈ D, x.1 ≤ y.1) ∧ Rising D

theorem gapPs_rise {z : Int} : ∀ {D : List Spn} {a : Int}, a ≤ z → (∀ x ∈ D, Inside x z) → RiseTo a z (gapPs z a D)
  | [], a, h, _ => riseOne h
  | x :: D, a, h, hx => by
    have hxi := hx x (by simp)
    have ih := gapPs_rise (D := D) (a := max a (x.1 + x.2)) (by omega) (fun y hy => hx y (by simp [hy]))
    by_cases c : a < x.1
    · exact .inr ⟨Int.le_refl _, c, ih.weaken (by show x.1 ≤ _; omega)⟩
    · exact .inl ⟨by show x.1 ≤ a; omega, ih.weaken (by omega)⟩

theorem gapPs_has {z : Int} : ∀ {D : List Spn} {a : Int}, a ≤ z → (∀ x ∈ D, Inside x z) → Rising D → ∀ p, hasP (gapPs z a D) p ↔ a ≤ p ∧ p < z ∧ ∀ x ∈ D, ¬ inSpan x p
  | [], a, _, _, _, p => by
    have : hasP (gapPs z a []) p ↔ a ≤ p ∧ p < z := by
      show hasP [(a, z)] p ↔ _
      rw [hasP_cons]
      have : hasP [] p ↔ False := by simp [hasP]
      rw [this, or_false]
    rw [this]
    exact ⟨fun k => ⟨k.1, k.2, fun x hx => by cases hx⟩, fun k => ⟨k.1, k.2.1⟩⟩
  | x :: D, a, h, hx, ⟨r1, r2⟩, p => by
    have hxi := hx x (by simp)
    have ih := gapPs_has (D := D) (a := max a (x.1 + x.2)) (by omega) (fun y hy => hx y (by simp [hy])) r2 p
    show hasP ((a, x.1) :: gapPs z (max a (x.1 + x.2)) D) p ↔ _
    rw [hasP_cons, ih]
    constructor
    · rintro (⟨k1, k2⟩ | ⟨k1, k2, k3⟩)
      · simp only at k1 k2
        refine ⟨k1, by omega, fun y hy hp => ?_⟩
        unfold inSpan at hp
        rcases List.mem_cons.1 hy with rfl | hy
        · omega
        · have := r1 y hy; omega
      · refine ⟨by omega, k2, fun y hy hp => ?_⟩
        rcases List.mem_cons.1 hy with rfl | hy
        · unfold inSpan at hp; omega
        · exact k3 y hy hp
    · rintro ⟨k1, k2, k3⟩
      have kx := k3 x (by simp)
      unfold inSpan at kx
      by_cases c : p < x.1
      · exact .inl ⟨k1, c⟩
      · exact .inr ⟨by omega, k2, fun y hy => k3 y (by simp [hy])⟩

theorem gapPs_sec {z : Int} (hz : z ≤ 65536) : ∀ {D : List Spn} {a : Int}, 0 ≤ a → a ≤ z → (∀ x ∈ D, Inside x z) → ∀ q ∈ gapPs z a D, Sec q
  | [], a, h0, h, _, q, hq => by
    rw [show gapPs z a [] = [(a, z)] from rfl, List.mem_singleton] at hq
    subst hq
    unfold Sec
    simp only
    omega
  | x :: D, a, h0, h, hx, q, hq => by
    have hxi := hx x (by simp)
    rcases List.mem_cons.1 (show q ∈ (a, x.1) :: gapPs z (max a (x.1 + x.2)) D from hq) with rfl | hq
    · unfold Sec
      simp only
      omega
    · exact gapPs_sec hz (D := D) (a := max a (x.1 + x.2)) (by omega) (by omega) (fun y hy => hx y (by simp [hy])) q hq

theorem gapPs_len (z : Int) : ∀ (D : List Spn) (a : Int), (gapPs z a D).length = D.length + 1
  | [], _ => rfl
  | x :: D, a => by
    show (gapPs z (max a (x.1 + x.2)) D).length + 1 = _
    rw [gapPs_len z D]
    rfl

theorem left_laid {z : Int} {u D : List Spn} (hz : 0 ≤ z) (hu : ∀ x ∈ u, Inside x z) (hp : D.Perm u) (hs : Rising D) : layAll [] (gapPs z 0 D) = leftOf (newL z) u := by
  have hD : ∀ x ∈ D, Inside x z := fun x hx => hu x (hp.mem_iff.1 hx)
  obtain ⟨i1, i2, -⟩ := lay_ok (out := []) trivial (Int.le_refl 0) (fun y hy => by cases hy) (gapPs_rise hz hD)
  obtain ⟨n1, n2⟩ := newL_gaps hz
  obtain ⟨l1, l2⟩ := leftOf_ok (used := u) n1 (fun x hx => (hu x hx).1)
  refine gaps_unique i1 l1 (fun p => ?_)
  rw [i2, l2, n2, gapPs_has hz hD hs]
  have e : has [] p ↔ False := by simp [has]
  rw [e, false_or]
  constructor
  · rintro ⟨k1, k2, k3⟩
    exact ⟨⟨k1, k2⟩, fun x hx => k3 x (hp.mem_iff.2 hx)⟩
  · rintro ⟨⟨k1, k2⟩, k3⟩
    exact ⟨k1, k2, fun x hx => k3 x (hp.mem_iff.1 hx)⟩

end Go.Proofs.Ytbbjbajdoekheaa.Fr
