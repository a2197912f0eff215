/-
  Plain functions: counts as the document's own code makes them, used span by used span, are how often each sector is referred to; so they are the sweep's. It imports no program. Conditions: those that each lemma names.
-/
import Derived.Test.YtinlgoljaiolnabNSweep
namespace Go.Proofs.Ytinlgoljaiolnab
set_option linter.unusedVariables false

namespace Rf

/-- Where the count may change next. -/
def nextOne (at_ : Int) (nx : Int) (x : Rfr) : Int := if x.1 ≤ at_ ∧ at_ < x.1 + x.2.1 then min nx (x.1 + x.2.1) else if at_ < x.1 then min nx x.1 else nx
def nextOf (l : List Rfr) (at_ en : Int) : Int := l.foldl (nextOne at_) en

theorem nextOne_le (at_ nx : Int) (x : Rfr) : nextOne at_ nx x ≤ nx := by
  unfold nextOne
  split
  · omega
  · split <;> omega
theorem nextOne_gt {at_ nx : Int} (x : Rfr) (h : at_ < nx) : at_ < nextOne at_ nx x := by
  unfold nextOne
  split
  · omega
  · split <;> omega
theorem next_le : ∀ (l : List Rfr) (at_ en : Int), nextOf l at_ en ≤ en
  | [], _, _ => Int.le_refl _
  | x :: l, at_, en => Int.le_trans (next_le l at_ (nextOne at_ en x)) (nextOne_le at_ en x)
theorem next_gt : ∀ (l : List Rfr) {at_ en : Int}, at_ < en → at_ < nextOf l at_ en
  | [], _, _, h => h
  | x :: l, at_, en, h => next_gt l (nextOne_gt x h)
theorem next_mid : ∀ {l : List Rfr} {at_ en p : Int}, at_ ≤ p → p < nextOf l at_ en → ∀ x ∈ l, (x.1 ≤ p ∧ p < x.1 + x.2.1) ↔ (x.1 ≤ at_ ∧ at_ < x.1 + x.2.1)
  | y :: l, at_, en, p, h1, h2, x, hx => by
    rcases List.mem_cons.1 hx with rfl | hx
    · have h3 : p < nextOne at_ en x := Int.lt_of_lt_of_le h2 (next_le l at_ (nextOne at_ en x))
      unfold nextOne at h3
      split at h3
      · omega
      · split at h3 <;> omega
    · exact next_mid (l := l) (en := nextOne at_ en y) h1 h2 x hx
theorem often_mid {l : List Rfr} {at_ en p : Int} (h1 : at_ ≤ p) (h2 : p < nextOf l at_ en) : often l p = often l at_ := by
  unfold often
  congr 1
  refine List.filter_congr (fun x hx => ?_)
  exact decide_eq_decide.2 (next_mid h1 h2 x hx)

/-- One used span, from change to change. -/
def spanSteps (l : List Rfr) : Nat → List Cnr → Int → Int → List Cnr
  | 0, out, _, _ => out
  | f + 1, out, at_, en => if at_ < en then spanSteps l f (lay out at_ (often l at_ : Int) (nextOf l at_ en)) (nextOf l at_ en) en else out

structure Upto (l : List Rfr) (out : List Cnr) (at_ : Int) : Prop where
  steps : Steps (-1) 0 out
  ends : endOf (-1) out ≤ at_
  says_ : ∀ p, p < at_ → says out p = (often l p : Int)

theorem spanSteps_ok {l : List Rfr} {en : Int} : ∀ (f : Nat) {out : List Cnr} {at_ : Int}, Upto l out at_ → 0 ≤ at_ → at_ ≤ en → en - at_ ≤ (f : Int) → Upto l (spanSteps l f out at_ en) en
  | 0, out, at_, h, h0, h1, h2 => by
    obtain rfl : at_ = en := by omega
    exact h
  | f + 1, out, at_, h, h0, h1, h2 => by
    unfold spanSteps
    by_cases c : at_ < en
    · rw [if_pos c]
      have g1 := next_gt l c
      have g2 := next_le l at_ en
      obtain ⟨k1, k2, k3⟩ := lay_ok (n := (often l at_ : Int)) (to := nextOf l at_ en) h.steps h.ends (fun _ => Int.natCast_nonneg _) (by omega) h0
      refine spanSteps_ok f ⟨k1, k2, fun p hp => ?_⟩ (by omega) g2 (by omega)
      rw [k3]
      by_cases cp : at_ ≤ p
      · rw [if_pos ⟨cp, hp⟩, often_mid cp hp]
      · rw [if_neg (by omega), h.says_ p (by omega)]
    · rw [if_neg c]
      obtain rfl : at_ = en := by omega
      exact h

/-- The document's counts over spans that are used. -/
def spanAll (l : List Rfr) (S : List Spn) (out : List Cnr) : List Cnr := S.foldl (fun out x => spanSteps l x.2.toNat out x.1 (x.1 + x.2)) out

theorem spanAll_ok {l : List Rfr} : ∀ {S : List Spn} {out : List Cnr} {b : Int}, Ex.Gaps b S → 0 ≤ b → Upto l out b → (∀ p, b ≤ p → (0 < often l p ↔ Ex.has S p)) → Steps (-1) 0 (spanAll l S out) ∧ ∀ p, says (spanAll l S out) p = (often l p : Int)
  | [], out, b, hg, h0, h, hs => by
    refine ⟨h.steps, fun p => ?_⟩
    show says out p = _
    by_cases c : p < b
    · exact h.says_ p c
    · have hn : ¬ 0 < often l p := fun k => by obtain ⟨x, hx, -⟩ := (hs p (by omega)).1 k; cases hx
      rw [h.steps.high (by have := h.ends; omega)]
      omega
  | x :: S, out, b, ⟨g1, g2, g3⟩, h0, h, hs => by
    have hup : Upto l out x.1 := ⟨h.steps, by have := h.ends; omega, fun p hp => by
      by_cases c : p < b
      · exact h.says_ p c
      · have hn : ¬ 0 < often l p := fun k => by
          rcases Ex.has_cons.1 ((hs p (by omega)).1 k) with k | k
          · unfold Ex.inSpan at k; omega
          · exact g3.low (by omega) k
        rw [h.steps.high (by have := h.ends; omega)]
        omega⟩
    have h2 := spanSteps_ok x.2.toNat (en := x.1 + x.2) hup (by omega) (by omega) (by omega)
    have hend : Upto l (spanSteps l x.2.toNat out x.1 (x.1 + x.2)) (x.1 + x.2 + 1) := ⟨h2.steps, by have := h2.ends; omega, fun p hp => by
      by_cases c : p < x.1 + x.2
      · exact h2.says_ p c
      · have hn : ¬ 0 < often l p := fun k => by
          rcases Ex.has_cons.1 ((hs p (by omega)).1 k) with k | k
          · unfold Ex.inSpan at k; omega
          · exact g3.low (by omega) k
        rw [h2.steps.high (by have := h2.ends; omega)]
        omega⟩
    refine spanAll_ok (S := S) g3 (by omega) hend (fun p hp => ?_)
    rw [hs p (by omega), Ex.has_cons]
    constructor
    · rintro (k | k)
      · unfold Ex.inSpan at k; omega
      · exact k
    · exact fun k => .inr k

def spansOf (l : List Rfr) : List Spn := l.map fun x => (x.1, x.2.1)
theorem often_has {l : List Rfr} {p : Int} : 0 < often l p ↔ Ex.has (spansOf l) p := by
  unfold often Ex.has spansOf
  rw [List.length_pos_iff_exists_mem]
  constructor
  · rintro ⟨x, hx⟩
    obtain ⟨h1, h2⟩ := List.mem_filter.1 hx
    exact ⟨(x.1, x.2.1), List.mem_map.2 ⟨x, h1, rfl⟩, by simpa [Ex.inSpan] using h2⟩
  · rintro ⟨y, hy, h⟩
    obtain ⟨x, hx, rfl⟩ := List.mem_map.1 hy
    exact ⟨x, List.mem_filter.2 ⟨hx, by simpa [Ex.inSpan] using h⟩⟩

/-- The document's counts of references. -/
def countsD (l : List Rfr) : List Cnr := spanAll l (Ex.join (spansOf l)) []
theorem countsD_ok {l : List Rfr} (hl : ∀ x ∈ l, 0 ≤ x.1 ∧ 1 ≤ x.2.1) : Steps (-1) 0 (countsD l) ∧ ∀ p, says (countsD l) p = (often l p : Int) := by
  obtain ⟨h1, h2⟩ := Ex.join_ok (l := spansOf l) (b := 0) (fun y hy => by obtain ⟨x, hx, rfl⟩ := List.mem_map.1 hy; exact hl x hx)
  refine spanAll_ok h1 (Int.le_refl _) ⟨trivial, by show (-1 : Int) ≤ 0; decide, fun p hp => ?_⟩ (fun p hp => by rw [often_has, h2])
  have hn : ¬ 0 < often l p := fun k => by
    obtain ⟨y, hy, h⟩ := often_has.1 k
    obtain ⟨x, hx, rfl⟩ := List.mem_map.1 hy
    have := hl x hx
    unfold Ex.inSpan at h
    simp only at h
    omega
  show (0 : Int) = _
  omega
/-- Both ways to count are one. -/
theorem counts_one {l : List Rfr} {E : List Edg} (hl : ∀ x ∈ l, 0 ≤ x.1 ∧ 1 ≤ x.2.1) (hp : E.Perm (edges l)) (hU : UpE E) : sweep E [] 0 0 = countsD l := by
  obtain ⟨a1, a2⟩ := sweep_counts (fun x hx => ⟨(hl x hx).1, by have := (hl x hx).2; omega⟩) hp hU
  obtain ⟨b1, b2⟩ := countsD_ok hl
  exact steps_unique a1 b1 (fun p => by rw [a2, b2])
theorem often_sort (l : List Rfr) (p : Int) : often (sort l) p = often l p := often_perm (sort_perm l) p

end Rf
end Go.Proofs.Ytinlgoljaiolnab
