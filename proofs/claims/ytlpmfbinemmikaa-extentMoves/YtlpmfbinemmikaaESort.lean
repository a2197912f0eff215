/-
  Plain functions: a span laid among sorted ones, step by step. It imports no program. Conditions: those that each lemma names.
-/
import Derived.Test.YtlpmfbinemmikaaESpans
namespace Go.Proofs.Ytlpmfbinemmikaa.Ex
set_option linter.unusedVariables false

theorem insSpan_at {x : Spn} {l : List Spn} {k : Nat} (hk : k < l.length) : insSpan x (l.drop k) = if l[k].1 ≤ x.1 then l[k] :: insSpan x (l.drop (k + 1)) else x :: l.drop k := by
  conv => lhs; rw [List.drop_eq_getElem_cons hk]
  conv => rhs; rw [List.drop_eq_getElem_cons hk]
  rfl

theorem insSpan_next {x : Spn} {l : List Spn} {k : Nat} (hk : k < l.length) (h : l[k].1 ≤ x.1) (e : insSpan x l = l.take k ++ insSpan x (l.drop k)) : insSpan x l = l.take (k + 1) ++ insSpan x (l.drop (k + 1)) := by
  rw [e, insSpan_at hk, if_pos h, List.take_succ_eq_append_getElem hk, List.append_assoc]
  rfl

theorem insSpan_here {x : Spn} {l : List Spn} {k : Nat} (hk : k < l.length) (h : ¬ l[k].1 ≤ x.1) (e : insSpan x l = l.take k ++ insSpan x (l.drop k)) : insSpan x l = l.take k ++ [x] ++ l.drop k := by
  rw [e, insSpan_at hk, if_neg h, List.append_assoc]
  rfl

theorem insSpan_end {x : Spn} {l : List Spn} {k : Nat} (hk : l.length ≤ k) (e : insSpan x l = l.take k ++ insSpan x (l.drop k)) : insSpan x l = l.take k ++ [x] ++ l.drop k := by
  rw [e, List.drop_eq_nil_of_le hk, List.append_nil]
  rfl

theorem insSpan_len (x : Spn) : ∀ l : List Spn, (insSpan x l).length = l.length + 1
  | [] => rfl
  | y :: l => by
    unfold insSpan
    split
    · rw [List.length_cons, insSpan_len x l, List.length_cons]
    · rw [List.length_cons, List.length_cons]

theorem sorted_step (l : List Spn) (k : Nat) (hk : k < l.length) : sortSpans (l.take (k + 1)) = insSpan l[k] (sortSpans (l.take k)) := by
  unfold sortSpans
  rw [List.take_succ_eq_append_getElem hk, List.foldl_append]
  rfl

theorem sorted_len (l : List Spn) : (sortSpans l).length = l.length := by
  have : ∀ (l s : List Spn), (l.foldl (fun s x => insSpan x s) s).length = s.length + l.length := by
    intro l
    induction l with
    | nil => intro s; rfl
    | cons x l ih => intro s; rw [List.foldl_cons, ih, insSpan_len, List.length_cons]; omega
  have h := this l []
  simp only [List.length_nil, Nat.zero_add] at h
  exact h

theorem glue_step (S : List Spn) (k : Nat) (hk : k < S.length) : (S.take (k + 1)).foldl glue [] = glue ((S.take k).foldl glue []) S[k] := by
  rw [List.take_succ_eq_append_getElem hk, List.foldl_append]
  rfl

theorem glue_len (S : List Spn) : (S.foldl glue []).length ≤ S.length := by
  have step : ∀ (o : List Spn) (x : Spn), (glue o x).length ≤ o.length + 1 := by
    intro o x
    unfold glue
    split
    · simp
    · split
      · simp
      · simp
  have : ∀ (l o : List Spn), (l.foldl glue o).length ≤ o.length + l.length := by
    intro l
    induction l with
    | nil => intro o; exact Nat.le_refl _
    | cons x l ih => intro o; have h1 := ih (glue o x); have h2 := step o x; rw [List.foldl_cons, List.length_cons]; omega
  have h := this S []
  simp only [List.length_nil, Nat.zero_add] at h
  exact h

/-- How great the numbers are on the way. -/
def Mid (x : Spn) : Prop := 0 ≤ x.1 ∧ x.1 ≤ 1000000000 ∧ 0 ≤ x.2 ∧ x.1 + x.2 ≤ 1000000000

theorem mid_ins {x : Spn} {l : List Spn} (hx : Mid x) (h : ∀ y ∈ l, Mid y) : ∀ y ∈ insSpan x l, Mid y := by
  induction l with
  | nil => intro y hy; simp only [insSpan, List.mem_singleton] at hy; rw [hy]; exact hx
  | cons z l ih =>
    intro y hy
    unfold insSpan at hy
    split at hy
    · rcases List.mem_cons.1 hy with rfl | hy
      · exact h _ (by simp)
      · exact ih (fun y hy => h y (by simp [hy])) y hy
    · rcases List.mem_cons.1 hy with rfl | hy
      · exact hx
      · exact h y hy

theorem mid_glue {x : Spn} {l : List Spn} (hx : Mid x) (h : ∀ y ∈ l, Mid y) : ∀ y ∈ glue l x, Mid y := by
  intro y hy
  rcases List.eq_nil_or_concat l with rfl | ⟨m, u, rfl⟩
  · simp only [glue, List.getLast?_nil, List.mem_singleton] at hy; rw [hy]; exact hx
  · rw [List.concat_eq_append] at h hy
    have hu := h u (by simp)
    unfold glue at hy
    simp only [List.getLast?_append, List.getLast?_singleton, Option.some_or] at hy
    split at hy
    · simp only [List.dropLast_concat, List.mem_append, List.mem_singleton] at hy
      rcases hy with hy | rfl
      · exact h y (by simp [hy])
      · unfold Mid at *
        simp only
        omega
    · rcases List.mem_append.1 hy with hy | hy
      · exact h y hy
      · rw [List.mem_singleton.1 hy]; exact hx

theorem mid_sort {l : List Spn} (h : ∀ y ∈ l, Mid y) : ∀ y ∈ sortSpans l, Mid y := by
  have : ∀ (l s : List Spn), (∀ y ∈ l, Mid y) → (∀ y ∈ s, Mid y) → ∀ y ∈ l.foldl (fun s x => insSpan x s) s, Mid y := by
    intro l
    induction l with
    | nil => intro s _ h2; exact h2
    | cons x l ih => intro s h1 h2; exact ih _ (fun y hy => h1 y (by simp [hy])) (mid_ins (h1 x (by simp)) h2)
  exact this l [] h (fun y hy => by cases hy)

theorem mid_glues {l : List Spn} (h : ∀ y ∈ l, Mid y) : ∀ y ∈ l.foldl glue [], Mid y := by
  have : ∀ (l s : List Spn), (∀ y ∈ l, Mid y) → (∀ y ∈ s, Mid y) → ∀ y ∈ l.foldl glue s, Mid y := by
    intro l
    induction l with
    | nil => intro s _ h2; exact h2
    | cons x l ih => intro s h1 h2; exact ih _ (fun y hy => h1 y (by simp [hy])) (mid_glue (h1 x (by simp)) h2)
  exact this l [] h (fun y hy => by cases hy)

end Go.Proofs.Ytlpmfbinemmikaa.Ex
