/-
  Plain functions: free spans laid piece by piece, neighbours made one. It imports no program. Conditions: those that each lemma names.
-/
import Derived.Test.YtbbjbajdoekheaaFLaws
namespace Go.Proofs.Ytbbjbajdoekheaa.Fr
open Ex
set_option linter.unusedVariables false

/-- A piece: from where, and up to where. -/
abbrev Pc := Int × Int

/-- One piece laid behind others: none if it is empty; it goes on with the last span, or is a new one. -/
def lay1 (out : List Spn) (x : Pc) : List Spn :=
  if x.2 ≤ x.1 then out
  else match out.getLast? with
    | none => out ++ [(x.1, x.2 - x.1)]
    | some y => if y.1 + y.2 = x.1 then out.dropLast ++ [(y.1, y.2 + (x.2 - x.1))] else out ++ [(x.1, x.2 - x.1)]

def layAll (out : List Spn) (ps : List Pc) : List Spn := ps.foldl lay1 out

theorem layAll_append (out : List Spn) (ps qs : List Pc) : layAll out (ps ++ qs) = layAll (layAll out ps) qs := List.foldl_append

theorem layAll_one (ps : List Pc) (x : Pc) : layAll [] (ps ++ [x]) = lay1 (layAll [] ps) x := by rw [layAll_append]; rfl

theorem lay1_none {out : List Spn} {x : Pc} (h : x.2 ≤ x.1) : lay1 out x = out := if_pos h

theorem lay1_first {x : Pc} (h : x.1 < x.2) : lay1 [] x = [(x.1, x.2 - x.1)] := by
  unfold lay1
  rw [if_neg (by omega)]
  rfl

theorem lay1_join {m : List Spn} {y : Spn} {x : Pc} (h : x.1 < x.2) (hy : y.1 + y.2 = x.1) : lay1 (m ++ [y]) x = (m ++ [y]).set m.length (y.1, y.2 + (x.2 - x.1)) := by
  unfold lay1
  rw [if_neg (by omega)]
  simp only [List.getLast?_append, List.getLast?_singleton, Option.some_or]
  rw [if_pos hy]
  simp

theorem lay1_more {m : List Spn} {y : Spn} {x : Pc} (h : x.1 < x.2) (hy : y.1 + y.2 ≠ x.1) : lay1 (m ++ [y]) x = m ++ [y] ++ [(x.1, x.2 - x.1)] := by
  unfold lay1
  rw [if_neg (by omega)]
  simp only [List.getLast?_append, List.getLast?_singleton, Option.some_or]
  rw [if_neg hy]

/-- Numbers that may be sectors of a host. -/
def Sec (x : Pc) : Prop := 0 ≤ x.1 ∧ x.1 ≤ 65536 ∧ 0 ≤ x.2 ∧ x.2 ≤ 65536
/-- A span that may be one of a host's. -/
def Mid (y : Spn) : Prop := 0 ≤ y.1 ∧ 1 ≤ y.2 ∧ y.1 + y.2 ≤ 65536

theorem lay1_mid {out : List Spn} {x : Pc} (h : ∀ y ∈ out, Mid y) (hx : Sec x) : ∀ y ∈ lay1 out x, Mid y := by
  unfold Sec at hx
  by_cases c : x.2 ≤ x.1
  · rw [lay1_none c]; exact h
  · rcases List.eq_nil_or_concat out with rfl | ⟨m, y, rfl⟩
    · rw [lay1_first (by omega)]
      intro y hy
      rw [List.mem_singleton.1 hy]
      unfold Mid
      simp only
      omega
    · rw [List.concat_eq_append] at h ⊢
      by_cases c2 : y.1 + y.2 = x.1
      · rw [lay1_join (by omega) c2]
        intro z hz
        rcases List.mem_or_eq_of_mem_set hz with hz | rfl
        · exact h z hz
        · have := h y (by simp)
          unfold Mid at this ⊢
          simp only
          omega
      · rw [lay1_more (by omega) c2]
        intro z hz
        rcases List.mem_append.1 hz with hz | hz
        · exact h z hz
        · rw [List.mem_singleton.1 hz]
          unfold Mid
          simp only
          omega

theorem layAll_mid : ∀ {ps : List Pc} {out : List Spn}, (∀ y ∈ out, Mid y) → (∀ x ∈ ps, Sec x) → ∀ y ∈ layAll out ps, Mid y
  | [], _, h, _ => h
  | x :: ps, out, h, hx => layAll_mid (ps := ps) (out := lay1 out x) (lay1_mid h (hx x (by simp))) (fun z hz => hx z (by simp [hz]))

theorem lay1_len (out : List Spn) (x : Pc) : (lay1 out x).length ≤ out.length + 1 := by
  by_cases c : x.2 ≤ x.1
  · rw [lay1_none c]; omega
  · rcases List.eq_nil_or_concat out with rfl | ⟨m, y, rfl⟩
    · rw [lay1_first (by omega)]; simp
    · rw [List.concat_eq_append]
      by_cases c2 : y.1 + y.2 = x.1
      · rw [lay1_join (by omega) c2, List.length_set]; omega
      · rw [lay1_more (by omega) c2, List.length_append]; simp

theorem layAll_len : ∀ (ps : List Pc) (out : List Spn), (layAll out ps).length ≤ out.length + ps.length
  | [], out => by simp [layAll]
  | x :: ps, out => by
    have h1 := layAll_len ps (lay1 out x)
    have h2 := lay1_len out x
    have e : layAll out (x :: ps) = layAll (lay1 out x) ps := rfl
    rw [e, List.length_cons]
    omega

/-- Pieces that rise from b up to c, the empty ones aside. -/
def RiseTo : Int → Int → List Pc → Prop
  | b, c, [] => b ≤ c
  | b, c, p :: ps => (p.2 ≤ p.1 ∧ RiseTo b c ps) ∨ (b ≤ p.1 ∧ p.1 < p.2 ∧ RiseTo p.2 c ps)

def hasP (ps : List Pc) (p : Int) : Prop := ∃ x ∈ ps, x.1 ≤ p ∧ p < x.2

theorem hasP_cons {x : Pc} {ps : List Pc} {p : Int} : hasP (x :: ps) p ↔ (x.1 ≤ p ∧ p < x.2) ∨ hasP ps p := by
  unfold hasP
  constructor
  · rintro ⟨y, hy, h⟩
    rcases List.mem_cons.1 hy with rfl | hy
    · exact .inl h
    · exact .inr ⟨y, hy, h⟩
  · rintro (h | ⟨y, hy, h⟩)
    · exact ⟨x, by simp, h⟩
    · exact ⟨y, by simp [hy], h⟩

theorem hasP_append {ps qs : List Pc} {p : Int} : hasP (ps ++ qs) p ↔ hasP ps p ∨ hasP qs p := by
  induction ps with
  | nil => simp [hasP]
  | cons x l ih => rw [List.cons_append, hasP_cons, hasP_cons, ih, or_assoc]

theorem RiseTo.le : ∀ {ps : List Pc} {b c : Int}, RiseTo b c ps → b ≤ c
  | [], _, _, h => h
  | p :: ps, b, c, h => by
    rcases h with ⟨_, h⟩ | ⟨h1, h2, h3⟩
    · exact h.le
    · have := h3.le; omega

theorem RiseTo.weaken : ∀ {ps : List Pc} {b b' c : Int}, RiseTo b c ps → b' ≤ b → RiseTo b' c ps
  | [], b, b', c, h, k => by have h : b ≤ c := h; show b' ≤ c; omega
  | p :: ps, b, b', c, h, k => by
    rcases h with ⟨h1, h⟩ | ⟨h1, h2, h3⟩
    · exact .inl ⟨h1, h.weaken k⟩
    · exact .inr ⟨by omega, h2, h3⟩

theorem RiseTo.append : ∀ {ps qs : List Pc} {b c d : Int}, RiseTo b c ps → RiseTo c d qs → RiseTo b d (ps ++ qs)
  | [], qs, b, c, d, h, k => RiseTo.weaken k h
  | p :: ps, qs, b, c, d, h, k => by
    rcases h with ⟨h1, h⟩ | ⟨h1, h2, h3⟩
    · exact .inl ⟨h1, h.append k⟩
    · exact .inr ⟨h1, h2, h3.append k⟩

theorem riseOne {b c : Int} (h : b ≤ c) : RiseTo b c [(b, c)] := by
  by_cases e : b < c
  · exact .inr ⟨Int.le_refl _, e, Int.le_refl _⟩
  · exact .inl ⟨by show c ≤ b; omega, h⟩

theorem lay_ok : ∀ {ps : List Pc} {out : List Spn} {b c : Int}, Gaps 0 out → 0 ≤ b → (∀ y ∈ out, y.1 + y.2 ≤ b) → RiseTo b c ps →
    Gaps 0 (layAll out ps) ∧ (∀ p, has (layAll out ps) p ↔ has out p ∨ hasP ps p) ∧ ∀ y ∈ layAll out ps, y.1 + y.2 ≤ c
  | [], out, b, c, h, hb, he, hr => ⟨h, fun p => by simp [layAll, hasP], fun y hy => by have := he y hy; have hr : b ≤ c := hr; omega⟩
  | x :: ps, out, b, c, h, hb, he, hr => by
    have e : layAll out (x :: ps) = layAll (lay1 out x) ps := rfl
    rcases hr with ⟨h1, hr⟩ | ⟨h1, h2, hr⟩
    · rw [e, lay1_none h1]
      obtain ⟨i1, i2, i3⟩ := lay_ok h hb he hr
      refine ⟨i1, fun p => ?_, i3⟩
      rw [i2, hasP_cons]
      constructor
      · rintro (k | k)
        · exact .inl k
        · exact .inr (.inr k)
      · rintro (k | k | k)
        · exact .inl k
        · omega
        · exact .inr k
    · have key : Gaps 0 (lay1 out x) ∧ (∀ p, has (lay1 out x) p ↔ has out p ∨ (x.1 ≤ p ∧ p < x.2)) ∧ ∀ y ∈ lay1 out x, y.1 + y.2 ≤ x.2 := by
        rcases List.eq_nil_or_concat out with rfl | ⟨m, y, rfl⟩
        · rw [lay1_first h2]
          refine ⟨⟨by show 0 ≤ x.1; omega, by show 1 ≤ x.2 - x.1; omega, trivial⟩, fun p => ?_, fun y hy => ?_⟩
          · rw [has_one]
            have e2 : has [] p ↔ False := by simp [has]
            rw [e2, false_or]
            unfold inSpan
            simp only
            omega
          · rw [List.mem_singleton.1 hy]; simp only; omega
        · rw [List.concat_eq_append] at h he ⊢
          have hye := he y (by simp)
          obtain ⟨g1, g2, g3, -⟩ := Gaps_append.1 h
          by_cases c2 : y.1 + y.2 = x.1
          · have e3 : lay1 (m ++ [y]) x = m ++ [(y.1, y.2 + (x.2 - x.1))] := by rw [lay1_join h2 c2]; simp
            rw [e3]
            refine ⟨Gaps_append.2 ⟨g1, g2, by show 1 ≤ y.2 + (x.2 - x.1); omega, trivial⟩, fun p => ?_, fun z hz => ?_⟩
            · rw [has_append, has_append, has_one, has_one, or_assoc]
              have : inSpan (y.1, y.2 + (x.2 - x.1)) p ↔ inSpan y p ∨ (x.1 ≤ p ∧ p < x.2) := by unfold inSpan; simp only; omega
              rw [this]
            · rcases List.mem_append.1 hz with hz | hz
              · have := he z (by simp [hz]); omega
              · rw [List.mem_singleton.1 hz]; simp only; omega
          · rw [lay1_more h2 c2]
            refine ⟨Gaps_append.2 ⟨h, ?_, by show 1 ≤ x.2 - x.1; omega, trivial⟩, fun p => ?_, fun z hz => ?_⟩
            · rw [gapLast_append]; simp only [gapLast]; omega
            · rw [has_append, has_one]
              have : inSpan (x.1, x.2 - x.1) p ↔ (x.1 ≤ p ∧ p < x.2) := by unfold inSpan; simp only; omega
              rw [this]
            · rcases List.mem_append.1 hz with hz | hz
              · have := he z hz; omega
              · rw [List.mem_singleton.1 hz]; simp only; omega
      obtain ⟨k1, k2, k3⟩ := key
      obtain ⟨i1, i2, i3⟩ := lay_ok k1 (by omega) k3 hr
      rw [e]
      refine ⟨i1, fun p => ?_, i3⟩
      rw [i2, k2, hasP_cons, or_assoc]

/-- What spans have of the sectors from f up to e. -/
def within (l : List Spn) (f e : Int) : List Pc := l.map fun y => (max y.1 f, min (y.1 + y.2) e)

theorem within_rise : ∀ {l : List Spn} {g b f e : Int}, Gaps g l → f ≤ b → b ≤ max g f → b ≤ e → RiseTo b e (within l f e)
  | [], g, b, f, e, _, _, _, h => h
  | y :: l, g, b, f, e, ⟨h1, h2, h3⟩, hf, hb, he => by
    by_cases c : min (y.1 + y.2) e ≤ max y.1 f
    · exact .inl ⟨c, within_rise h3 hf (by omega) he⟩
    · exact .inr ⟨by show b ≤ max y.1 f; omega, by show max y.1 f < min (y.1 + y.2) e; omega, within_rise h3 (by show f ≤ min (y.1 + y.2) e; omega) (by show min (y.1 + y.2) e ≤ _; omega) (by show min (y.1 + y.2) e ≤ e; omega)⟩

theorem within_has {l : List Spn} {f e p : Int} : hasP (within l f e) p ↔ has l p ∧ f ≤ p ∧ p < e := by
  unfold hasP within has
  constructor
  · rintro ⟨x, hx, h1, h2⟩
    obtain ⟨y, hy, rfl⟩ := List.mem_map.1 hx
    simp only at h1 h2
    exact ⟨⟨y, hy, by unfold inSpan; omega⟩, by omega, by omega⟩
  · rintro ⟨⟨y, hy, h⟩, h1, h2⟩
    unfold inSpan at h
    exact ⟨_, List.mem_map.2 ⟨y, hy, rfl⟩, by simp only; omega, by simp only; omega⟩

theorem within_sec {l : List Spn} {f e : Int} (h : ∀ y ∈ l, Mid y) (hf : 0 ≤ f) (hf1 : f ≤ 65536) (he : 0 ≤ e) (he1 : e ≤ 65536) : ∀ x ∈ within l f e, Sec x := by
  intro x hx
  obtain ⟨y, hy, rfl⟩ := List.mem_map.1 hx
  have := h y hy
  unfold Mid at this
  unfold Sec
  simp only
  omega

theorem within_len (l : List Spn) (f e : Int) : (within l f e).length = l.length := List.length_map _

/-- What is laid where a span is taken. -/
def takePs (z : Int) (l : List Spn) (x : Spn) : List Pc := within l 0 x.1 ++ within l (x.1 + x.2) z

theorem taken_laid {z : Int} {l : List Spn} {x : Spn} (h : Fit z l) (hx : Inside x z) : layAll [] (takePs z l x) = without l x := by
  have hr : RiseTo 0 z (takePs z l x) := (within_rise (b := 0) h.gaps (Int.le_refl _) (by omega) (by omega)).append ((within_rise (b := x.1 + x.2) h.gaps (Int.le_refl _) (by omega) (by omega)).weaken (by omega))
  obtain ⟨i1, i2, -⟩ := lay_ok (out := []) trivial (Int.le_refl 0) (fun y hy => by cases hy) hr
  obtain ⟨w1, w2⟩ := without_ok (x := x) h.gaps hx.1
  refine gaps_unique i1 w1 (fun p => ?_)
  rw [i2, w2]
  have e : has [] p ↔ False := by simp [has]
  rw [e, false_or]
  unfold takePs
  rw [hasP_append, within_has, within_has]
  unfold inSpan
  constructor
  · rintro (⟨k, k1, k2⟩ | ⟨k, k1, k2⟩)
    · exact ⟨k, by omega⟩
    · exact ⟨k, by omega⟩
  · rintro ⟨k, k1⟩
    obtain ⟨y, hy, hp⟩ := k
    have a1 := Gaps_mem h.gaps hy
    have a2 := h.ends y hy
    unfold inSpan at hp
    by_cases c : p < x.1
    · exact .inl ⟨⟨y, hy, hp⟩, by omega, c⟩
    · exact .inr ⟨⟨y, hy, hp⟩, by omega, by omega⟩

/-- What is laid where a span is freed. -/
def freePs (z : Int) (l : List Spn) (x : Spn) : List Pc := (within l 0 x.1 ++ [(x.1, x.1 + x.2)]) ++ within l (x.1 + x.2) z

theorem freed_laid {z : Int} {l : List Spn} {x : Spn} (h : Fit z l) (hx : Inside x z) (hs : some_ l x = false) : layAll [] (freePs z l x) = withR x false l := by
  have hr : RiseTo 0 z (freePs z l x) := ((within_rise (b := 0) h.gaps (Int.le_refl _) (by omega) (by omega)).append (riseOne (by omega))).append (within_rise (b := x.1 + x.2) h.gaps (Int.le_refl _) (by omega) (by omega))
  obtain ⟨i1, i2, -⟩ := lay_ok (out := []) trivial (Int.le_refl 0) (fun y hy => by cases hy) hr
  have hno := apart_of hs
  obtain ⟨w1, w2⟩ := withR_ok (b := 0) (x := x) h.gaps hx.2.1 hx.1 hno
  refine gaps_unique i1 w1 (fun p => ?_)
  rw [i2, w2]
  have e : has [] p ↔ False := by simp [has]
  rw [e, false_or]
  unfold freePs
  have e1 : hasP [(x.1, x.1 + x.2)] p ↔ inSpan x p := by
    rw [hasP_cons]
    have : hasP [] p ↔ False := by simp [hasP]
    rw [this, or_false]
    exact Iff.rfl
  rw [hasP_append, hasP_append, within_has, within_has, e1]
  constructor
  · rintro ((⟨k, k1, k2⟩ | k) | ⟨k, k1, k2⟩)
    · exact .inl k
    · exact .inr k
    · exact .inl k
  · rintro (k | k)
    · obtain ⟨y, hy, hp⟩ := k
      have a1 := Gaps_mem h.gaps hy
      have a2 := h.ends y hy
      have a3 := hno y hy
      unfold inSpan at hp
      by_cases c : p < x.1
      · exact .inl (.inl ⟨⟨y, hy, hp⟩, by omega, c⟩)
      · exact .inr ⟨⟨y, hy, hp⟩, by omega, by omega⟩
    · exact .inl (.inr k)

end Go.Proofs.Ytbbjbajdoekheaa.Fr
