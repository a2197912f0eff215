/-
  Plain functions: the references of maps, cut to sectors, and their order; what is used. It imports no program. Conditions: those that each lemma names.
-/
import Derived.Test.YtinlgoljaiolnabNDoc
namespace Go.Proofs.Ytinlgoljaiolnab
set_option linter.unusedVariables false

abbrev Mpr := Int × List Ext

namespace Rf

def allR (m : List Mpr) : List Rfr := m.flatMap fun o => o.2.map fun e => (e.2.1, e.2.2, o.1, e.1)
/-- A reference, cut to sectors. -/
def cutR (x : Spn) (r : Rfr) : Option Rfr := if max r.1 x.1 < min (r.1 + r.2.1) (x.1 + x.2) then some (max r.1 x.1, min (r.1 + r.2.1) (x.1 + x.2) - max r.1 x.1, r.2.2.1, r.2.2.2 + max r.1 x.1 - r.1) else none
def cutA (x : Spn) (l : List Rfr) : List Rfr := l.filterMap (cutR x)

/-- Of two owners, or of other sectors. -/
def Dj (a b : Rfr) : Prop := a.2.2.1 ≠ b.2.2.1 ∨ a.2.2.2 + a.2.1 ≤ b.2.2.2 ∨ b.2.2.2 + b.2.1 ≤ a.2.2.2

theorem cut_in {x : Spn} {a a' : Rfr} (h : cutR x a = some a') : a'.2.2.1 = a.2.2.1 ∧ a.2.2.2 ≤ a'.2.2.2 ∧ a'.2.2.2 < a.2.2.2 + a.2.1 ∧ 1 ≤ a'.2.1 := by
  unfold cutR at h
  split at h
  · cases h
    refine ⟨rfl, ?_, ?_, ?_⟩ <;> simp only <;> omega
  · cases h
theorem Dj.cut {x : Spn} {a b a' b' : Rfr} (h : Dj a b) (ha : cutR x a = some a') (hb : cutR x b = some b') : Lt a' b' ∨ Lt b' a' := by
  obtain ⟨a1, a2, a3, a4⟩ := cut_in ha
  obtain ⟨b1, b2, b3, b4⟩ := cut_in hb
  unfold Dj at h
  unfold Lt
  omega

/-- Maps whose owners rise, each with its sectors in order. -/
structure OkM (m : List Mpr) : Prop where
  rise : m.Pairwise fun a b => a.1 < b.1
  lists : ∀ o ∈ m, o.2.Pairwise fun a b => a.1 + a.2.2 ≤ b.1

theorem all_dj {m : List Mpr} (h : OkM m) : (allR m).Pairwise Dj := by
  unfold allR
  rw [List.pairwise_flatMap]
  refine ⟨fun o ho => List.pairwise_map.2 ((h.lists o ho).imp fun {a b} k => .inr (.inl k)), h.rise.imp fun {a b} k x hx y hy => ?_⟩
  obtain ⟨e, -, rfl⟩ := List.mem_map.1 hx
  obtain ⟨e', -, rfl⟩ := List.mem_map.1 hy
  exact .inl (by show a.1 ≠ b.1; omega)
theorem cut_apart {m : List Mpr} (h : OkM m) (x : Spn) : Apart (cutA x (allR m)) := by
  unfold Apart cutA
  rw [List.pairwise_filterMap]
  refine List.Pairwise.imp ?_ (all_dj h)
  intro a b k a' ha b' hb
  exact Dj.cut k ha hb

/-- Whatever is sorted first: the references into some sectors are these. -/
def whoR (x : Spn) (m : List Mpr) : List Rfr := sort (cutA x (allR m))
theorem who_landed {x : Spn} {m : List Mpr} {D : List Rfr} (h : OkM m) (hp : D.Perm (cutA x (allR m))) (hu : Up D) : D = whoR x m := sort_any (cut_apart h x) hp hu
theorem who_doc {x : Spn} {m : List Mpr} (h : OkM m) : sort (cutA x (sort (allR m))) = whoR x m := by
  have hp : (cutA x (sort (allR m))).Perm (cutA x (allR m)) := (sort_perm (allR m)).filterMap _
  exact sort_any (cut_apart h x) ((sort_perm _).trans hp) (sort_up _)

/-- Sectors that hold all cut nothing. -/
theorem cut_all {x : Spn} {l : List Rfr} (h : ∀ r ∈ l, x.1 ≤ r.1 ∧ 1 ≤ r.2.1 ∧ r.1 + r.2.1 ≤ x.1 + x.2) : cutA x l = l := by
  unfold cutA
  induction l with
  | nil => rfl
  | cons r l ih =>
    obtain ⟨h1, h2, h3⟩ := h r (by simp)
    have e : cutR x r = some r := by
      unfold cutR
      rw [if_pos (by omega)]
      congr 1
      refine Prod.ext ?_ (Prod.ext ?_ (Prod.ext rfl ?_)) <;> simp only <;> omega
    rw [List.filterMap_cons_some e, ih (fun y hy => h y (by simp [hy]))]

/-- What is counted, as spans: those that touch made one. -/
def glueC (out : List Spn) (c : Cnr) : List Spn := match out.getLast? with
  | none => out ++ [(c.1, c.2.1)]
  | some y => if y.1 + y.2 = c.1 then out.dropLast ++ [(y.1, y.2 + c.2.1)] else out ++ [(c.1, c.2.1)]
def usedC (l : List Cnr) : List Spn := l.foldl glueC []

theorem glueC_ok {out : List Spn} {c : Cnr} (h : Ex.Gaps 0 out) (hl : ∀ y, out.getLast? = some y → y.1 + y.2 ≤ c.1) (h0 : 0 ≤ c.1) (h1 : 1 ≤ c.2.1) :
    Ex.Gaps 0 (glueC out c) ∧ (∀ y, (glueC out c).getLast? = some y → y.1 + y.2 = c.1 + c.2.1) ∧ ∀ p, Ex.has (glueC out c) p ↔ Ex.has out p ∨ (c.1 ≤ p ∧ p < c.1 + c.2.1) := by
  rcases List.eq_nil_or_concat out with rfl | ⟨m, y, e⟩
  · refine ⟨⟨h0, h1, trivial⟩, fun y hy => ?_, fun p => ?_⟩
    · have hy' : some (c.1, c.2.1) = some y := hy
      cases hy'
      rfl
    · show Ex.has [(c.1, c.2.1)] p ↔ _
      rw [Ex.has_one]
      unfold Ex.inSpan
      constructor
      · exact fun k => .inr k
      · rintro (⟨z, hz, -⟩ | k)
        · cases hz
        · exact k
  · rw [List.concat_eq_append] at e
    subst e
    have e1 : (m ++ [y]).getLast? = some y := by simp
    have hy := hl y e1
    obtain ⟨g1, g2⟩ := Ex.Gaps_append.1 h
    obtain ⟨g3, g4, -⟩ := g2
    unfold glueC
    rw [e1]
    simp only
    by_cases ct : y.1 + y.2 = c.1
    · rw [if_pos ct, List.dropLast_concat]
      refine ⟨Ex.Gaps_append.2 ⟨g1, g3, by show 1 ≤ y.2 + c.2.1; omega, trivial⟩, fun z hz => ?_, fun p => ?_⟩
      · rw [List.getLast?_append] at hz
        simp only [List.getLast?_singleton, Option.some_or, Option.some.injEq] at hz
        subst hz
        show y.1 + (y.2 + c.2.1) = _
        omega
      · rw [Ex.has_append, Ex.has_append, Ex.has_one, Ex.has_one]
        unfold Ex.inSpan
        simp only
        constructor
        · rintro (k | k)
          · exact .inl (.inl k)
          · by_cases q : p < c.1
            · exact .inl (.inr ⟨k.1, by omega⟩)
            · exact .inr ⟨by omega, by omega⟩
        · rintro ((k | k) | k)
          · exact .inl k
          · exact .inr ⟨k.1, by omega⟩
          · exact .inr ⟨by omega, by omega⟩
    · rw [if_neg ct]
      refine ⟨Ex.Gaps_append.2 ⟨h, ?_, h1, trivial⟩, fun z hz => ?_, fun p => ?_⟩
      · rw [Ex.gapLast_append]
        show y.1 + y.2 + 1 ≤ c.1
        omega
      · rw [List.getLast?_append] at hz
        simp only [List.getLast?_singleton, Option.some_or, Option.some.injEq] at hz
        subst hz
        rfl
      · rw [Ex.has_append, Ex.has_one]
        rfl

theorem used_all : ∀ {l : List Cnr} {b n : Int} {out : List Spn}, Steps b n l → Ex.Gaps 0 out → (∀ y, out.getLast? = some y → y.1 + y.2 ≤ b) → (∀ c ∈ l, 0 ≤ c.1) → Ex.Gaps 0 (l.foldl glueC out) ∧ ∀ p, Ex.has (l.foldl glueC out) p ↔ Ex.has out p ∨ 0 < says l p
  | [], b, n, out, _, h, _, _ => ⟨h, fun p => by simp [says]⟩
  | c :: l, b, n, out, ⟨h1, h2, h3, h4, h5⟩, h, hl, hz => by
    obtain ⟨k1, k2, k3⟩ := glueC_ok h (fun y hy => by have := hl y hy; omega) (hz c (by simp)) h2
    obtain ⟨j1, j2⟩ := used_all h5 k1 (fun y hy => by rw [k2 y hy]; exact Int.le_refl _) (fun x hx => hz x (by simp [hx]))
    refine ⟨j1, fun p => ?_⟩
    show Ex.has (l.foldl glueC (glueC out c)) p ↔ _
    rw [j2, k3, show says (c :: l) p = if c.1 ≤ p ∧ p < c.1 + c.2.1 then c.2.2 else says l p from rfl]
    by_cases cp : c.1 ≤ p ∧ p < c.1 + c.2.1
    · rw [if_pos cp]
      constructor
      · exact fun _ => .inr (by omega)
      · exact fun _ => .inl (.inr cp)
    · rw [if_neg cp]
      constructor
      · rintro ((k | k) | k)
        · exact .inl k
        · exact absurd k cp
        · exact .inr k
      · rintro (k | k)
        · exact .inl (.inl k)
        · exact .inr k

/-- What is used, by counts or by spans joined, is one. -/
theorem used_one {l : List Rfr} {C : List Cnr} (hl : ∀ x ∈ l, 0 ≤ x.1 ∧ 1 ≤ x.2.1) (hS : Steps (-1) 0 C) (hs : ∀ p, says C p = (often l p : Int)) (hz : ∀ c ∈ C, 0 ≤ c.1) : usedC C = Ex.join (spansOf l) := by
  obtain ⟨h1, h2⟩ := Ex.join_ok (l := spansOf l) (b := 0) (fun y hy => by obtain ⟨x, hx, rfl⟩ := List.mem_map.1 hy; exact hl x hx)
  obtain ⟨k1, k2⟩ := used_all (out := []) hS trivial (fun y hy => by cases hy) hz
  refine Ex.gaps_unique k1 h1 (fun p => ?_)
  show Ex.has (C.foldl glueC []) p ↔ _
  rw [k2, h2, ← often_has, hs p]
  constructor
  · rintro (⟨z, hz, -⟩ | k)
    · cases hz
    · omega
  · exact fun k => .inr (by omega)

end Rf
end Go.Proofs.Ytinlgoljaiolnab
