/-
  Plain functions: which maps of owners may be; what their references keep to. It imports no program. Conditions: those that each lemma names.
-/
import Derived.Test.YtinlgoljaiolnabNWho
import Derived.Test.YtinlgoljaiolnabELaws
namespace Go.Proofs.Ytinlgoljaiolnab
set_option linter.unusedVariables false

namespace Rf

def maysM (prev : Int) : List Mpr → Bool
  | [] => true
  | o :: m => decide (0 ≤ o.1 ∧ o.1 ≤ 255 ∧ prev < o.1 ∧ Ex.checkE o.2 = 0) && maysM o.1 m
def checkM (m : List Mpr) : Int := if m.length ≤ 9 ∧ maysM (-1) m = true then 0 else 9

theorem checkM_zero {m : List Mpr} : checkM m = 0 ↔ m.length ≤ 9 ∧ maysM (-1) m = true := by
  unfold checkM
  split
  · rename_i h; exact ⟨fun _ => h, fun _ => rfl⟩
  · rename_i h; exact ⟨fun k => by simp at k, fun k => absurd k h⟩
theorem checkM_nine {m : List Mpr} (h : ¬ (m.length ≤ 9 ∧ maysM (-1) m = true)) : checkM m = 9 := if_neg h

theorem mays_all : ∀ {m : List Mpr} {p : Int}, maysM p m = true → (∀ o ∈ m, p < o.1 ∧ 0 ≤ o.1 ∧ o.1 ≤ 255 ∧ Ex.Ok o.2) ∧ m.Pairwise fun a b => a.1 < b.1
  | [], p, _ => ⟨(fun o ho => by cases ho), List.Pairwise.nil⟩
  | o :: m, p, h => by
    unfold maysM at h
    simp only [Bool.and_eq_true, decide_eq_true_eq] at h
    obtain ⟨⟨h1, h2, h3, h4⟩, h5⟩ := h
    obtain ⟨k1, k2⟩ := mays_all h5
    refine ⟨fun x hx => ?_, List.pairwise_cons.2 ⟨fun x hx => (k1 x hx).1, k2⟩⟩
    rcases List.mem_cons.1 hx with rfl | hx
    · exact ⟨h3, h1, h2, Ex.checkE_zero.1 h4⟩
    · obtain ⟨j1, j2⟩ := k1 x hx
      exact ⟨by omega, j2⟩

theorem chain_pair : ∀ {l : List Ext}, (∀ x ∈ l, Ex.One x) → Ex.Chain l → l.Pairwise fun a b => a.1 + a.2.2 ≤ b.1
  | [], _, _ => List.Pairwise.nil
  | [x], _, _ => List.pairwise_singleton _ _
  | x :: y :: l, h, hc => by
    have ih := chain_pair (l := y :: l) (fun z hz => h z (List.mem_cons_of_mem _ hz)) hc.2
    refine List.pairwise_cons.2 ⟨fun z hz => ?_, ih⟩
    have h1 := hc.1.1
    rcases List.mem_cons.1 hz with rfl | hz
    · exact h1
    · have h2 := (List.pairwise_cons.1 ih).1 z hz
      have h3 := (h y (by simp)).1
      omega

theorem okM {m : List Mpr} (h : checkM m = 0) : OkM m := by
  obtain ⟨k1, k2⟩ := mays_all (checkM_zero.1 h).2
  exact ⟨k2, fun o ho => chain_pair (k1 o ho).2.2.2.2.1 (k1 o ho).2.2.2.2.2⟩

/-- A reference of a map that may be. -/
def Low (r : Rfr) : Prop := 0 ≤ r.1 ∧ 1 ≤ r.2.1 ∧ r.1 + r.2.1 ≤ 65536 ∧ 0 ≤ r.2.2.1 ∧ r.2.2.1 ≤ 255 ∧ 0 ≤ r.2.2.2 ∧ r.2.2.2 + r.2.1 ≤ 65536

theorem all_low {m : List Mpr} (h : checkM m = 0) : ∀ r ∈ allR m, Low r := by
  intro r hr
  unfold allR at hr
  obtain ⟨o, ho, hr⟩ := List.mem_flatMap.1 hr
  obtain ⟨e, he, rfl⟩ := List.mem_map.1 hr
  obtain ⟨k1, k2, k3, k4⟩ := (mays_all (checkM_zero.1 h).2).1 o ho
  have h1 := k4.2.1 e he
  unfold Ex.One Ex.Fits at h1
  unfold Low
  simp only
  omega

theorem cut_low {x : Spn} {r r' : Rfr} (hr : Low r) (h : cutR x r = some r') : Low r' := by
  unfold cutR at h
  unfold Low at *
  split at h
  · cases h
    simp only
    omega
  · cases h
theorem who_low {x : Spn} {m : List Mpr} (h : checkM m = 0) : ∀ r ∈ whoR x m, Low r := by
  intro r hr
  have h1 := (sort_perm _).mem_iff.1 hr
  unfold cutA at h1
  obtain ⟨r0, h2, h3⟩ := List.mem_filterMap.1 h1
  exact cut_low (all_low h r0 h2) h3

theorem flat_le {m : List Mpr} {k : Nat} (h : ∀ o ∈ m, o.2.length ≤ k) : (allR m).length ≤ m.length * k := by
  induction m with
  | nil => simp [allR]
  | cons o m ih =>
    have e : allR (o :: m) = (o.2.map fun e => (e.2.1, e.2.2, o.1, e.1)) ++ allR m := rfl
    rw [e, List.length_append, List.length_map, List.length_cons, Nat.add_mul]
    have h1 := h o (by simp)
    have h2 := ih (fun x hx => h x (by simp [hx]))
    omega
theorem all_few {m : List Mpr} (h : checkM m = 0) : (allR m).length ≤ 9216 := by
  have h1 := flat_le (m := m) (k := 1024) (fun o ho => ((mays_all (checkM_zero.1 h).2).1 o ho).2.2.2.1)
  have h2 := (checkM_zero.1 h).1
  omega
theorem who_few {x : Spn} {m : List Mpr} (h : checkM m = 0) : (whoR x m).length ≤ 9216 := by
  have h1 := (sort_perm (cutA x (allR m))).length_eq
  have h2 := all_few h
  have h3 : (cutA x (allR m)).length ≤ (allR m).length := List.length_filterMap_le _ _
  unfold whoR
  omega

def ofExt (o : Int) (e : Ext) : Rfr := (e.2.1, e.2.2, o, e.1)
theorem all_take {m : List Mpr} {q : Nat} (hq : q < m.length) : allR (m.take (q + 1)) = allR (m.take q) ++ m[q].2.map (ofExt m[q].1) := by
  rw [List.take_succ_eq_append_getElem hq]
  unfold allR
  rw [List.flatMap_append]
  simp only [List.flatMap_cons, List.flatMap_nil, List.append_nil]
  rfl
theorem cutA_append (x : Spn) (l m : List Rfr) : cutA x (l ++ m) = cutA x l ++ cutA x m := by unfold cutA; rw [List.filterMap_append]
theorem cutA_next {x : Spn} {A : List Rfr} {l : List Ext} {o : Int} {k : Nat} (hk : k < l.length) : cutA x (A ++ (l.take (k + 1)).map (ofExt o)) = cutA x (A ++ (l.take k).map (ofExt o)) ++ (cutR x (ofExt o l[k])).toList := by
  rw [List.take_succ_eq_append_getElem hk, List.map_append, ← List.append_assoc, cutA_append x (A ++ _)]
  congr 1

/-- The end, cut ahead of adding, is the end, of what stands below 65536. -/
theorem cut_end {x : Spn} {r : Rfr} {en : Int} (he : en = x.1 + min x.2 (65536 - x.1)) (hr : r.1 + r.2.1 ≤ 65536) : min (r.1 + r.2.1) (x.1 + x.2) = min (r.1 + r.2.1) en := by omega

end Rf
end Go.Proofs.Ytinlgoljaiolnab
