/-
  Plain functions: spans, sorted and joined; lists of spans that have the same sectors are one. It imports no program. Conditions: those that each lemma names.
-/
import Derived.Test.YtinlgoljaiolnabEMaps
namespace Go.Proofs.Ytinlgoljaiolnab.Ex
set_option linter.unusedVariables false

def inSpan (x : Spn) (p : Int) : Prop := x.1 ≤ p ∧ p < x.1 + x.2
def has (l : List Spn) (p : Int) : Prop := ∃ x ∈ l, inSpan x p

/-- Spans in order, from b on, with a gap between any two. -/
def Gaps : Int → List Spn → Prop
  | _, [] => True
  | b, x :: l => b ≤ x.1 ∧ 1 ≤ x.2 ∧ Gaps (x.1 + x.2 + 1) l

def gapLast : Int → List Spn → Int
  | b, [] => b
  | _, x :: l => gapLast (x.1 + x.2 + 1) l

theorem has_cons {x : Spn} {l : List Spn} {p : Int} : has (x :: l) p ↔ inSpan x p ∨ has l p := by
  unfold has
  constructor
  · rintro ⟨y, hy, h⟩
    rcases List.mem_cons.1 hy with rfl | hy
    · exact .inl h
    · exact .inr ⟨y, hy, h⟩
  · rintro (h | ⟨y, hy, h⟩)
    · exact ⟨x, by simp, h⟩
    · exact ⟨y, by simp [hy], h⟩

theorem has_append {l m : List Spn} {p : Int} : has (l ++ m) p ↔ has l p ∨ has m p := by
  induction l with
  | nil => simp [has]
  | cons x l ih => rw [List.cons_append, has_cons, has_cons, ih, or_assoc]

theorem has_one {x : Spn} {p : Int} : has [x] p ↔ inSpan x p := by rw [has_cons]; simp [has]

theorem Gaps.low : ∀ {l : List Spn} {b : Int}, Gaps b l → ∀ {p : Int}, p < b → ¬ has l p
  | [], _, _, _, _, h => by obtain ⟨y, hy, _⟩ := h; cases hy
  | x :: l, b, ⟨h1, h2, h3⟩, p, hp, h => by
    rcases has_cons.1 h with h | h
    · unfold inSpan at h; omega
    · exact h3.low (by omega) h

theorem gaps_unique : ∀ {l m : List Spn} {b : Int}, Gaps b l → Gaps b m → (∀ p, has l p ↔ has m p) → l = m
  | [], [], _, _, _, _ => rfl
  | [], y :: m, b, _, ⟨h1, h2, _⟩, h => by
    obtain ⟨z, hz, _⟩ := (h y.1).2 (has_cons.2 (.inl ⟨by omega, by omega⟩))
    cases hz
  | x :: l, [], b, ⟨h1, h2, _⟩, _, h => by
    obtain ⟨z, hz, _⟩ := (h x.1).1 (has_cons.2 (.inl ⟨by omega, by omega⟩))
    cases hz
  | x :: l, y :: m, b, ⟨a1, a2, a3⟩, ⟨b1, b2, b3⟩, h => by
    have mem : ∀ {x y : Spn} {l m : List Spn}, 1 ≤ x.2 → 1 ≤ y.2 → Gaps (y.1 + y.2 + 1) m → (∀ p, has (x :: l) p ↔ has (y :: m) p) → y.1 ≤ x.1 := by
      intro x y l m g1 g0 g2 gh
      rcases has_cons.1 ((gh x.1).1 (has_cons.2 (.inl ⟨by omega, by omega⟩))) with k | k
      · exact k.1
      · by_cases c : y.1 ≤ x.1
        · exact c
        · exact absurd k (g2.low (by omega))
    have e1 : x.1 = y.1 := by
      have h1 := mem a2 b2 b3 h
      have h2 := mem b2 a2 a3 (fun p => (h p).symm)
      omega
    have longer : ∀ {x y : Spn} {l m : List Spn}, x.1 = y.1 → 1 ≤ x.2 → Gaps (x.1 + x.2 + 1) l → (∀ p, has (x :: l) p ↔ has (y :: m) p) → ¬ x.2 < y.2 := by
      intro x y l m f1 g1 g2 gh hlt
      rcases has_cons.1 ((gh (x.1 + x.2)).2 (has_cons.2 (.inl ⟨by omega, by omega⟩))) with k | k
      · unfold inSpan at k; omega
      · exact g2.low (by omega) k
    have l1 := longer e1 a2 a3 h
    have l2 := longer e1.symm b2 b3 (fun p => (h p).symm)
    have e : x = y := Prod.ext e1 (by omega)
    subst e
    congr 1
    refine gaps_unique a3 b3 (fun p => ?_)
    have hp := h p
    rw [has_cons, has_cons] at hp
    by_cases c : inSpan x p
    · constructor
      · intro k; exact absurd k (a3.low (by unfold inSpan at c; omega))
      · intro k; exact absurd k (b3.low (by unfold inSpan at c; omega))
    · constructor
      · intro k; exact (hp.1 (.inr k)).resolve_left c
      · intro k; exact (hp.2 (.inr k)).resolve_left c

/-- A span put among others, behind all that begin no later. -/
def insSpan (x : Spn) : List Spn → List Spn
  | [] => [x]
  | y :: l => if y.1 ≤ x.1 then y :: insSpan x l else x :: y :: l

def Sorted : List Spn → Prop
  | x :: y :: l => x.1 ≤ y.1 ∧ Sorted (y :: l)
  | _ => True

theorem insSpan_has (x : Spn) (p : Int) : ∀ l : List Spn, has (insSpan x l) p ↔ inSpan x p ∨ has l p
  | [] => by rw [insSpan, has_cons]
  | y :: l => by
    unfold insSpan
    split
    · rw [has_cons, insSpan_has x p l, has_cons]
      constructor
      · rintro (h | h | h)
        · exact .inr (.inl h)
        · exact .inl h
        · exact .inr (.inr h)
      · rintro (h | h | h)
        · exact .inr (.inl h)
        · exact .inl h
        · exact .inr (.inr h)
    · rw [has_cons]

theorem insSpan_mem (x : Spn) : ∀ (l : List Spn) (z : Spn), z ∈ insSpan x l ↔ z = x ∨ z ∈ l
  | [], z => by simp [insSpan]
  | y :: l, z => by
    unfold insSpan
    split
    · rw [List.mem_cons, insSpan_mem x l z, List.mem_cons]
      constructor
      · rintro (h | h | h)
        · exact .inr (.inl h)
        · exact .inl h
        · exact .inr (.inr h)
      · rintro (h | h | h)
        · exact .inr (.inl h)
        · exact .inl h
        · exact .inr (.inr h)
    · rw [List.mem_cons]

theorem insSpan_sorted (x : Spn) : ∀ l : List Spn, Sorted l → Sorted (insSpan x l)
  | [], _ => trivial
  | [y], _ => by
    unfold insSpan
    split
    · exact ⟨by assumption, trivial⟩
    · exact ⟨by omega, trivial⟩
  | y :: z :: l, ⟨h1, h2⟩ => by
    have ih := insSpan_sorted x (z :: l) h2
    unfold insSpan
    split
    · rename_i hy
      unfold insSpan at ih ⊢
      split at ih
      · rename_i hz
        rw [if_pos hz]
        exact ⟨h1, ih⟩
      · rename_i hz
        rw [if_neg hz]
        exact ⟨hy, ih⟩
    · exact ⟨by omega, h1, h2⟩

def sortSpans (l : List Spn) : List Spn := l.foldl (fun s x => insSpan x s) []

theorem sort_has : ∀ (l s : List Spn) (p : Int), has (l.foldl (fun s x => insSpan x s) s) p ↔ has l p ∨ has s p
  | [], s, p => by simp [has]
  | x :: l, s, p => by
    rw [List.foldl_cons, sort_has l _ p, insSpan_has, has_cons]
    constructor
    · rintro (h | h | h)
      · exact .inl (.inr h)
      · exact .inl (.inl h)
      · exact .inr h
    · rintro ((h | h) | h)
      · exact .inr (.inl h)
      · exact .inl h
      · exact .inr (.inr h)

theorem sort_sorted : ∀ (l s : List Spn), Sorted s → Sorted (l.foldl (fun s x => insSpan x s) s)
  | [], s, h => h
  | x :: l, s, h => sort_sorted l _ (insSpan_sorted x s h)

theorem sort_mem : ∀ (l s : List Spn) (z : Spn), z ∈ l.foldl (fun s x => insSpan x s) s ↔ z ∈ l ∨ z ∈ s
  | [], s, z => by simp
  | x :: l, s, z => by
    rw [List.foldl_cons, sort_mem l _ z, insSpan_mem, List.mem_cons]
    constructor
    · rintro (h | h | h)
      · exact .inl (.inr h)
      · exact .inl (.inl h)
      · exact .inr h
    · rintro ((h | h) | h)
      · exact .inr (.inl h)
      · exact .inl h
      · exact .inr (.inr h)

/-- A span put behind others: it goes on with the last one, or is a new one. -/
def glue (out : List Spn) (x : Spn) : List Spn :=
  match out.getLast? with
  | none => [x]
  | some y => if x.1 ≤ y.1 + y.2 then out.dropLast ++ [(y.1, max y.2 (x.1 + x.2 - y.1))] else out ++ [x]

theorem Gaps_append : ∀ {l m : List Spn} {b : Int}, Gaps b (l ++ m) ↔ Gaps b l ∧ Gaps (gapLast b l) m
  | [], m, b => by simp [Gaps, gapLast]
  | x :: l, m, b => by
    simp only [List.cons_append, Gaps, gapLast]
    rw [Gaps_append]
    constructor
    · rintro ⟨h1, h2, h3, h4⟩; exact ⟨⟨h1, h2, h3⟩, h4⟩
    · rintro ⟨⟨h1, h2, h3⟩, h4⟩; exact ⟨h1, h2, h3, h4⟩

theorem gapLast_append : ∀ (l m : List Spn) (b : Int), gapLast b (l ++ m) = gapLast (gapLast b l) m
  | [], _, _ => rfl
  | x :: l, m, b => gapLast_append l m _

theorem glue_ok {out : List Spn} {x : Spn} {b : Int} (h : Gaps b out) (hb : b ≤ x.1) (hx : 1 ≤ x.2) (hl : ∀ y, out.getLast? = some y → y.1 ≤ x.1) :
    Gaps b (glue out x) ∧ (∀ p, has (glue out x) p ↔ has out p ∨ inSpan x p) ∧ ∀ y, (glue out x).getLast? = some y → y.1 ≤ x.1 := by
  unfold glue
  rcases List.eq_nil_or_concat out with rfl | ⟨m, y, rfl⟩
  · simp only [List.getLast?_nil]
    exact ⟨⟨hb, hx, trivial⟩, fun p => by rw [has_one]; simp [has], fun y hy => by simp at hy; subst hy; exact Int.le_refl _⟩
  · rw [List.concat_eq_append] at h hl ⊢
    have hy := hl y (by simp)
    simp only [List.getLast?_append, List.getLast?_singleton, Option.some_or]
    obtain ⟨g1, g2, g3, -⟩ := Gaps_append.1 h
    split
    · rename_i hj
      have hd : (m ++ [y]).dropLast = m := by simp
      rw [hd]
      refine ⟨Gaps_append.2 ⟨g1, g2, by show 1 ≤ max y.2 _; omega, trivial⟩, fun p => ?_, fun z hz => ?_⟩
      · rw [has_append, has_append, has_one, has_one, or_assoc]
        constructor
        · rintro (k | k)
          · exact .inl k
          · refine .inr ?_
            unfold inSpan at k ⊢
            simp only at k
            omega
        · rintro (k | k)
          · exact .inl k
          · refine .inr ?_
            unfold inSpan at k ⊢
            simp only
            omega
      · simp only [List.getLast?_append, List.getLast?_singleton, Option.some_or, Option.some.injEq] at hz
        subst hz
        exact hy
    · rename_i hj
      refine ⟨Gaps_append.2 ⟨h, ?_, hx, trivial⟩, fun p => ?_, fun z hz => ?_⟩
      · rw [gapLast_append]; simp only [gapLast]; omega
      · rw [has_append, has_one]
      · simp only [List.getLast?_append, List.getLast?_singleton, Option.some_or, Option.some.injEq] at hz
        subst hz
        exact Int.le_refl _

theorem glue_all : ∀ {l out : List Spn} {b : Int}, Gaps b out → Sorted l → (∀ x ∈ l, b ≤ x.1 ∧ 1 ≤ x.2) → (∀ x y, l.head? = some x → out.getLast? = some y → y.1 ≤ x.1) →
    Gaps b (l.foldl glue out) ∧ ∀ p, has (l.foldl glue out) p ↔ has out p ∨ has l p
  | [], out, b, h, _, _, _ => ⟨h, fun p => by simp [has]⟩
  | x :: l, out, b, h, hs, hx, hl => by
    obtain ⟨x1, x2⟩ := hx x (by simp)
    obtain ⟨g1, g2, g3⟩ := glue_ok h x1 x2 (fun y hy => hl x y rfl hy)
    have hs' : Sorted l := by
      cases l with
      | nil => trivial
      | cons z l => exact hs.2
    obtain ⟨r1, r2⟩ := glue_all (l := l) (out := glue out x) g1 hs' (fun z hz => hx z (by simp [hz])) (fun z y hz hy => by
      have k := g3 y hy
      cases l with
      | nil => cases hz
      | cons t l =>
        simp only [List.head?_cons, Option.some.injEq] at hz
        subst hz
        have := hs.1
        omega)
    refine ⟨r1, fun p => ?_⟩
    rw [List.foldl_cons, r2 p, g2 p, has_cons, or_assoc]

/-- Spans in any order as few as can be. -/
def join (l : List Spn) : List Spn := (sortSpans l).foldl glue []

theorem join_ok {l : List Spn} {b : Int} (h : ∀ x ∈ l, b ≤ x.1 ∧ 1 ≤ x.2) : Gaps b (join l) ∧ ∀ p, has (join l) p ↔ has l p := by
  obtain ⟨r1, r2⟩ := glue_all (l := sortSpans l) (out := []) (b := b) trivial (sort_sorted l [] trivial) (fun x hx => h x (by
    rcases (sort_mem l [] x).1 hx with k | k
    · exact k
    · cases k)) (fun x y _ hy => by cases hy)
  refine ⟨r1, fun p => ?_⟩
  unfold join
  rw [r2 p]
  unfold sortSpans
  rw [sort_has]
  simp [has]

/-- The spans that a map's extents stand in. -/
def used (l : List Ext) : List Spn := join (l.map fun e => (e.2.1, e.2.2))

theorem used_ok {l : List Ext} (h : Good l) : Gaps 0 (used l) ∧ ∀ p, has (used l) p ↔ ∃ v, get l v = some p := by
  obtain ⟨r1, r2⟩ := join_ok (l := l.map fun e => (e.2.1, e.2.2)) (b := 0) (fun x hx => by
    obtain ⟨e, he, rfl⟩ := List.mem_map.1 hx
    have := good_phys h he
    unfold One Fits at this
    exact ⟨this.2.2.1, this.1⟩)
  refine ⟨r1, fun p => ?_⟩
  unfold used
  rw [r2 p]
  constructor
  · rintro ⟨x, hx, h1, h2⟩
    obtain ⟨e, he, rfl⟩ := List.mem_map.1 hx
    obtain ⟨-, -, -, g⟩ := get_of_mem h.from_ he
    have ho := good_phys h he
    unfold One Fits at ho
    simp only at h1 h2
    refine ⟨e.1 + p - e.2.1, ?_⟩
    rw [g _ (by omega) (by omega)]
    unfold val
    rw [if_neg (by omega)]
    congr 1
    omega
  · rintro ⟨v, hv⟩
    obtain ⟨e, he, h1, h2, rfl⟩ := get_mem hv
    have ho := good_phys h he
    unfold One Fits at ho
    refine ⟨(e.2.1, e.2.2), List.mem_map.2 ⟨e, he, rfl⟩, ?_⟩
    unfold inSpan val
    rw [if_neg (by omega)]
    simp only
    omega

end Go.Proofs.Ytinlgoljaiolnab.Ex
