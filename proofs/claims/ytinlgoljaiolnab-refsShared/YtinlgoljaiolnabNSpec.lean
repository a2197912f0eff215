/-
  Plain functions: references in their order, counts of sectors; lists that say the same are one. It imports no program. Conditions: those that each lemma names.
-/
import Derived.Test.YtinlgoljaiolnabESpans
namespace Go.Proofs.Ytinlgoljaiolnab
set_option linter.unusedVariables false

abbrev Rfr := Int × Int × Int × Int
abbrev Cnr := Int × Int × Int

namespace Rf

/-- The order of references: where they stand, whose they are, which sectors. -/
abbrev Lt (a b : Rfr) : Prop := a.1 < b.1 ∨ a.1 = b.1 ∧ (a.2.2.1 < b.2.2.1 ∨ a.2.2.1 = b.2.2.1 ∧ a.2.2.2 < b.2.2.2)
def Up (l : List Rfr) : Prop := l.Pairwise fun a b => ¬ Lt b a
/-- No two have the same place in that order. -/
def Apart (l : List Rfr) : Prop := l.Pairwise fun a b => Lt a b ∨ Lt b a

theorem Lt.irrefl (a : Rfr) : ¬ Lt a a := by unfold Lt; omega
theorem Lt.trans {a b c : Rfr} (h : Lt a b) (k : Lt b c) : Lt a c := by unfold Lt at *; omega
theorem not_lt_trans {a b c : Rfr} (h : ¬ Lt b a) (k : ¬ Lt c b) : ¬ Lt c a := by unfold Lt at *; omega

theorem Apart.perm {l m : List Rfr} (h : Apart l) (p : l.Perm m) : Apart m := (p.pairwise_iff (fun {a b} h => Or.symm h)).1 h

/-- Two orders of the same references are one. -/
theorem up_unique : ∀ {l m : List Rfr}, l.Perm m → Up l → Up m → Apart l → l = m
  | [], m, p, _, _, _ => (List.nil_perm.1 p).symm
  | a :: l, [], p, _, _, _ => absurd (List.perm_nil.1 p) (by simp)
  | a :: l, b :: m, p, hl, hm, hk => by
    have h1 := List.pairwise_cons.1 hl
    have h2 := List.pairwise_cons.1 hm
    have h3 := List.pairwise_cons.1 hk
    have e : a = b := by
      have ha : a ∈ b :: m := p.mem_iff.1 (by simp)
      have hb : b ∈ a :: l := p.mem_iff.2 (by simp)
      rcases List.mem_cons.1 ha with e | ha
      · exact e
      · rcases List.mem_cons.1 hb with e | hb
        · exact e.symm
        · rcases h3.1 b hb with k | k
          · exact absurd k (h2.1 a ha)
          · exact absurd k (h1.1 b hb)
    subst e
    congr 1
    exact up_unique ((List.perm_cons a).1 p) h1.2 h2.2 h3.2

/-- One put among others, ahead of the first that is behind it. -/
def ins (x : Rfr) : List Rfr → List Rfr
  | [] => [x]
  | y :: l => if Lt x y then x :: y :: l else y :: ins x l
def sort (l : List Rfr) : List Rfr := l.foldl (fun s x => ins x s) []

theorem ins_perm (x : Rfr) : ∀ l : List Rfr, (ins x l).Perm (x :: l)
  | [] => List.Perm.refl _
  | y :: l => by
    unfold ins
    split
    · exact List.Perm.refl _
    · exact ((ins_perm x l).cons y).trans (List.Perm.swap x y l)
theorem ins_up {x : Rfr} : ∀ {l : List Rfr}, Up l → Up (ins x l)
  | [], _ => by unfold ins Up; simp
  | y :: l, h => by
    have h1 := List.pairwise_cons.1 h
    unfold ins
    split
    · rename_i hx
      refine List.pairwise_cons.2 ⟨fun z hz => ?_, h⟩
      rcases List.mem_cons.1 hz with rfl | hz
      · exact fun k => Lt.irrefl _ (hx.trans k)
      · exact fun k => h1.1 z hz (k.trans hx)
    · rename_i hx
      refine List.pairwise_cons.2 ⟨fun z hz => ?_, ins_up h1.2⟩
      rcases List.mem_cons.1 ((ins_perm x l).mem_iff.1 hz) with rfl | hz
      · exact hx
      · exact h1.1 z hz
theorem sort_all : ∀ (l s : List Rfr), Up s → Up (l.foldl (fun s x => ins x s) s) ∧ (l.foldl (fun s x => ins x s) s).Perm (s ++ l)
  | [], s, h => ⟨h, by rw [List.foldl_nil, List.append_nil]⟩
  | x :: l, s, h => by
    obtain ⟨h1, h2⟩ := sort_all l (ins x s) (ins_up h)
    refine ⟨h1, h2.trans ?_⟩
    exact ((ins_perm x s).append_right l).trans List.perm_middle.symm
theorem sort_up (l : List Rfr) : Up (sort l) := (sort_all l [] List.Pairwise.nil).1
theorem sort_perm (l : List Rfr) : (sort l).Perm l := by have h := (sort_all l [] List.Pairwise.nil).2; rw [List.nil_append] at h; exact h
/-- Whatever sorts them: it is this. -/
theorem sort_any {l D : List Rfr} (hk : Apart l) (hp : D.Perm l) (hu : Up D) : D = sort l :=
  up_unique (hp.trans (sort_perm l).symm) hu (sort_up l) (hk.perm hp.symm)

/-- How often a sector is referred to. -/
def often (l : List Rfr) (p : Int) : Nat := (l.filter fun x => decide (x.1 ≤ p ∧ p < x.1 + x.2.1)).length
theorem often_cons (x : Rfr) (l : List Rfr) (p : Int) : often (x :: l) p = (if x.1 ≤ p ∧ p < x.1 + x.2.1 then 1 else 0) + often l p := by
  unfold often
  rw [List.filter_cons]
  by_cases h : x.1 ≤ p ∧ p < x.1 + x.2.1
  · rw [if_pos (decide_eq_true h), if_pos h, List.length_cons]; omega
  · rw [if_neg (by rw [decide_eq_false h]; decide), if_neg h]; omega
theorem often_perm {l m : List Rfr} (h : l.Perm m) (p : Int) : often l p = often m p := (h.filter _).length_eq

/-- What counts say of a sector. -/
def says : List Cnr → Int → Int
  | [], _ => 0
  | x :: l, p => if x.1 ≤ p ∧ p < x.1 + x.2.1 then x.2.2 else says l p
/-- Counts in order, from b on; those that touch are unlike. -/
def Steps : Int → Int → List Cnr → Prop
  | _, _, [] => True
  | b, n, x :: l => b ≤ x.1 ∧ 1 ≤ x.2.1 ∧ 1 ≤ x.2.2 ∧ (x.1 = b → x.2.2 ≠ n) ∧ Steps (x.1 + x.2.1) x.2.2 l

theorem Steps.low : ∀ {l : List Cnr} {b n : Int}, Steps b n l → ∀ {p : Int}, p < b → says l p = 0
  | [], _, _, _, _, _ => rfl
  | x :: l, b, n, ⟨h1, h2, h3, h4, h5⟩, p, hp => by
    unfold says
    rw [if_neg (by omega)]
    exact h5.low (by omega)
theorem Steps.pos : ∀ {l : List Cnr} {b n : Int}, Steps b n l → ∀ p : Int, 0 ≤ says l p
  | [], _, _, _, _ => Int.le_refl _
  | x :: l, b, n, ⟨h1, h2, h3, h4, h5⟩, p => by
    unfold says
    split
    · omega
    · exact h5.pos p
/-- What stands at the very beginning is another number than that ahead of it. -/
theorem Steps.edge : ∀ {l : List Cnr} {b n : Int}, Steps b n l → 1 ≤ n → says l b ≠ n
  | [], _, _, _, hn => by unfold says; omega
  | x :: l, b, n, ⟨h1, h2, h3, h4, h5⟩, hn => by
    unfold says
    by_cases e : x.1 = b
    · rw [if_pos (by omega)]; exact h4 e
    · rw [if_neg (by omega), h5.low (by omega)]; omega

theorem steps_unique : ∀ {l m : List Cnr} {b n : Int}, Steps b n l → Steps b n m → (∀ p, says l p = says m p) → l = m
  | [], [], _, _, _, _, _ => rfl
  | [], y :: m, b, n, _, ⟨h1, h2, h3, h4, h5⟩, h => by
    have k := h y.1
    unfold says at k
    rw [if_pos (by omega)] at k
    omega
  | x :: l, [], b, n, ⟨h1, h2, h3, h4, h5⟩, _, h => by
    have k := h x.1
    unfold says at k
    rw [if_pos (by omega)] at k
    omega
  | x :: l, y :: m, b, n, ⟨a1, a2, a3, a4, a5⟩, ⟨b1, b2, b3, b4, b5⟩, h => by
    have first : ∀ {x y : Cnr} {l m : List Cnr} {n' : Int}, 1 ≤ x.2.1 → 1 ≤ x.2.2 → 1 ≤ y.2.1 → Steps (y.1 + y.2.1) n' m → (∀ p, says (x :: l) p = says (y :: m) p) → y.1 ≤ x.1 := by
      intro x y l m n' g1 g2 g3 g4 gh
      have k := gh x.1
      unfold says at k
      rw [if_pos (by omega)] at k
      by_cases c : y.1 ≤ x.1
      · exact c
      · rw [if_neg (by omega), g4.low (by omega)] at k; omega
    have e1 : x.1 = y.1 := by
      have h1 := first a2 a3 b2 b5 h
      have h2 := first b2 b3 a2 a5 (fun p => (h p).symm)
      omega
    have e3 : x.2.2 = y.2.2 := by
      have k := h x.1
      unfold says at k
      rw [if_pos (by omega), if_pos (by omega)] at k
      exact k
    have longer : ∀ {x y : Cnr} {l m : List Cnr}, x.1 = y.1 → x.2.2 = y.2.2 → 1 ≤ x.2.1 → 1 ≤ x.2.2 → Steps (x.1 + x.2.1) x.2.2 l → (∀ p, says (x :: l) p = says (y :: m) p) → ¬ x.2.1 < y.2.1 := by
      intro x y l m f1 f3 g1 g2 g3 gh hlt
      have k := gh (x.1 + x.2.1)
      unfold says at k
      rw [if_neg (by omega), if_pos (by omega), ← f3] at k
      exact g3.edge g2 k
    have l1 := longer e1 e3 a2 a3 a5 h
    have l2 := longer e1.symm e3.symm b2 b3 b5 (fun p => (h p).symm)
    have e : x = y := Prod.ext e1 (Prod.ext (by omega) e3)
    subst e
    congr 1
    refine steps_unique a5 b5 (fun p => ?_)
    have hp := h p
    unfold says at hp
    by_cases c : x.1 ≤ p ∧ p < x.1 + x.2.1
    · rw [a5.low (by omega), b5.low (by omega)]
    · rw [if_neg c, if_neg c] at hp
      exact hp

end Rf
end Go.Proofs.Ytinlgoljaiolnab
