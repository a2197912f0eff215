/-
  Plain functions: where counts lie, how many there are, what they make as spans. It imports no program. Conditions: those that each lemma names.
-/
import Derived.Test.YtinlgoljaiolnabNMay
namespace Go.Proofs.Ytinlgoljaiolnab
set_option linter.unusedVariables false

namespace Rf

theorem says_mem : ∀ {l : List Cnr} {b n : Int}, Steps b n l → ∀ {c : Cnr}, c ∈ l → 1 ≤ c.2.1 ∧ 1 ≤ c.2.2 ∧ b ≤ c.1 ∧ ∀ p, c.1 ≤ p → p < c.1 + c.2.1 → says l p = c.2.2
  | x :: l, b, n, ⟨h1, h2, h3, h4, h5⟩, c, hc => by
    rcases List.mem_cons.1 hc with rfl | hc
    · exact ⟨h2, h3, h1, fun p k1 k2 => by unfold says; rw [if_pos ⟨k1, k2⟩]⟩
    · obtain ⟨k1, k2, k3, k4⟩ := says_mem h5 hc
      exact ⟨k1, k2, by omega, fun p j1 j2 => by unfold says; rw [if_neg (by omega)]; exact k4 p j1 j2⟩

theorem often_ex {l : List Rfr} {p : Int} (h : 0 < often l p) : ∃ x ∈ l, x.1 ≤ p ∧ p < x.1 + x.2.1 := by
  unfold often at h
  obtain ⟨x, hx⟩ := List.exists_mem_of_length_pos h
  rw [List.mem_filter, decide_eq_true_eq] at hx
  exact ⟨x, hx.1, hx.2⟩

/-- A count of references that may be. -/
def Cin (c : Cnr) : Prop := 0 ≤ c.1 ∧ 1 ≤ c.2.1 ∧ c.1 + c.2.1 ≤ 65536 ∧ 1 ≤ c.2.2 ∧ c.2.2 ≤ 9216

theorem often_le (l : List Rfr) (p : Int) : often l p ≤ l.length := List.length_filter_le _ _

theorem counts_in {l : List Rfr} (hl : ∀ x ∈ l, Low x) (hf : l.length ≤ 9216) : ∀ c ∈ countsD l, Cin c := by
  obtain ⟨h1, h2⟩ := countsD_ok (l := l) (fun x hx => ⟨(hl x hx).1, (hl x hx).2.1⟩)
  intro c hc
  obtain ⟨k1, k2, k3, k4⟩ := says_mem h1 hc
  have e1 := k4 c.1 (by omega) (by omega)
  have e2 := k4 (c.1 + c.2.1 - 1) (by omega) (by omega)
  rw [h2] at e1 e2
  obtain ⟨x, hx, g1, g2⟩ := often_ex (show 0 < often l c.1 by omega)
  obtain ⟨y, hy, g3, g4⟩ := often_ex (show 0 < often l (c.1 + c.2.1 - 1) by omega)
  have gx := hl x hx
  have gy := hl y hy
  have ho := often_le l c.1
  unfold Low at gx gy
  unfold Cin
  omega

theorem steps_len : ∀ {l : List Cnr} {b n : Int}, Steps b n l → (∀ c ∈ l, c.1 + c.2.1 ≤ 65536) → l = [] ∨ (l.length : Int) ≤ 65536 - b
  | [], b, n, _, _ => .inl rfl
  | x :: l, b, n, ⟨h1, h2, h3, h4, h5⟩, h => by
    have hx := h x (by simp)
    rcases steps_len h5 (fun c hc => h c (by simp [hc])) with rfl | k
    · exact .inr (by simp only [List.length_cons, List.length_nil]; omega)
    · exact .inr (by rw [List.length_cons]; omega)
theorem counts_few {l : List Rfr} (hl : ∀ x ∈ l, Low x) (hf : l.length ≤ 9216) : (countsD l).length ≤ 65537 := by
  obtain ⟨h1, h2⟩ := countsD_ok (l := l) (fun x hx => ⟨(hl x hx).1, (hl x hx).2.1⟩)
  rcases steps_len h1 (fun c hc => (counts_in hl hf c hc).2.2.1) with k | k
  · rw [k]; decide
  · omega

theorem glueC_nil (c : Cnr) : glueC [] c = [(c.1, c.2.1)] := rfl
theorem glueC_in {m : List Spn} {y : Spn} {c : Cnr} (h : y.1 + y.2 = c.1) : glueC (m ++ [y]) c = (m ++ [y]).set m.length (y.1, y.2 + c.2.1) := by
  unfold glueC
  rw [show (m ++ [y]).getLast? = some y by simp]
  simp only
  rw [if_pos h, List.dropLast_concat]
  simp
theorem glueC_out {m : List Spn} {y : Spn} {c : Cnr} (h : ¬ y.1 + y.2 = c.1) : glueC (m ++ [y]) c = m ++ [y] ++ [(c.1, c.2.1)] := by
  unfold glueC
  rw [show (m ++ [y]).getLast? = some y by simp]
  simp only
  rw [if_neg h]
def Sin (y : Spn) : Prop := 0 ≤ y.1 ∧ 0 ≤ y.2 ∧ y.1 + y.2 ≤ 65536
theorem glueC_sin {out : List Spn} {c : Cnr} (h : ∀ y ∈ out, Sin y) (hc : Cin c) : ∀ y ∈ glueC out c, Sin y := by
  unfold Cin at hc
  have hn : Sin (c.1, c.2.1) := by unfold Sin; simp only; omega
  rcases List.eq_nil_or_concat out with rfl | ⟨m, y, e⟩
  · intro z hz
    rw [glueC_nil, List.mem_singleton] at hz
    subst hz
    exact hn
  · rw [List.concat_eq_append] at e
    subst e
    have hy := h y (by simp)
    intro z hz
    by_cases ct : y.1 + y.2 = c.1
    · rw [glueC_in ct] at hz
      rcases List.mem_or_eq_of_mem_set hz with hz | rfl
      · exact h z hz
      · unfold Sin at *
        simp only
        omega
    · rw [glueC_out ct] at hz
      rcases List.mem_append.1 hz with hz | hz
      · exact h z hz
      · rw [List.mem_singleton] at hz; subst hz; exact hn
theorem used_sin : ∀ {l : List Cnr} {out : List Spn}, (∀ c ∈ l, Cin c) → (∀ y ∈ out, Sin y) → ∀ y ∈ l.foldl glueC out, Sin y
  | [], _, _, h => h
  | c :: l, out, hl, h => used_sin (l := l) (fun x hx => hl x (by simp [hx])) (glueC_sin h (hl c (by simp)))
theorem glueC_len (out : List Spn) (c : Cnr) : (glueC out c).length ≤ out.length + 1 := by
  rcases List.eq_nil_or_concat out with rfl | ⟨m, y, e⟩
  · simp [glueC_nil]
  · rw [List.concat_eq_append] at e
    subst e
    by_cases ct : y.1 + y.2 = c.1
    · rw [glueC_in ct]; simp
    · rw [glueC_out ct]; simp
theorem used_len : ∀ (l : List Cnr) (out : List Spn), (l.foldl glueC out).length ≤ out.length + l.length
  | [], out => Nat.le_refl _
  | c :: l, out => by
    have h1 := used_len l (glueC out c)
    have h2 := glueC_len out c
    rw [List.foldl_cons, List.length_cons]
    omega
theorem used_next {C : List Cnr} {q : Nat} (hq : q < C.length) : (C.take (q + 1)).foldl glueC [] = glueC ((C.take q).foldl glueC []) C[q] := by
  rw [List.take_succ_eq_append_getElem hq, List.foldl_append]
  rfl
theorem spn_last9 (m : List Spn) (y : Spn) : ∃ h : m.length < (m ++ [y]).length, (m ++ [y])[m.length] = y := ⟨by simp, by simp⟩

end Rf
end Go.Proofs.Ytinlgoljaiolnab
