/-
  When a node may be, item by item and kid by kid. Plain: it imports no program.
-/
import Derived.Test.YtbglgplfjhiafaaLfSpec
namespace Go.Proofs.Ytbglgplfjhiafaa
set_option linter.unusedVariables false
namespace Lf

theorem rise_iff : ∀ {l : List Itm}, rise l = true ↔ ∀ (j : Nat) (h : j + 1 < l.length), l[j].1.toNat < l[j + 1].1.toNat
  | [] => by simp [rise]
  | [x] => by simp [rise]
  | x :: y :: l => by
    rw [rise, Bool.and_eq_true, decide_eq_true_eq, rise_iff (l := y :: l)]
    constructor
    · rintro ⟨h1, h2⟩ j h
      cases j with
      | zero => exact h1
      | succ j => exact h2 j (by simpa using h)
    · intro h
      exact ⟨h 0 (by simp), fun j hj => h (j + 1) (by simpa using hj)⟩

theorem apart_iff : ∀ {l : List Int}, apart l = true ↔ l.Pairwise (· ≠ ·)
  | [] => by simp [apart]
  | k :: l => by
    rw [apart, Bool.and_eq_true, decide_eq_true_eq, apart_iff (l := l), List.pairwise_cons]
    constructor
    · rintro ⟨h1, h2⟩
      exact ⟨fun a ha e => h1 (e ▸ ha), h2⟩
    · rintro ⟨h1, h2⟩
      exact ⟨fun hk => h1 k hk rfl, h2⟩

def LenOk (n : Nod) : Prop := 1 ≤ n.1.length ∧ n.1.length ≤ 3 ∧ (n.2.length = 0 ∨ n.2.length = n.1.length + 1)
def ItemOk (n : Nod) (j : Nat) : Prop := ∀ h : j < n.1.length, (0 < j → n.1[j - 1].1.toNat < n.1[j].1.toNat) ∧ (0 < n.2.length → n.1[j].2.toNat = 0)
def KidOk (n : Nod) (j : Nat) : Prop := ∀ h : j < n.2.length, (1 ≤ n.2[j] ∧ n.2[j] ≤ 2048) ∧ ∀ (i : Nat) (hi : i < j), n.2[i] ≠ n.2[j]

theorem leaf_iff {n : Nod} : isLeaf n = true ↔ n.2.length = 0 := by
  unfold isLeaf
  rw [List.isEmpty_iff, List.length_eq_zero_iff]

theorem parts_iff {n : Nod} : Ok n ↔ LenOk n ∧ (∀ j, ItemOk n j) ∧ ∀ j, KidOk n j := by
  constructor
  · intro h
    refine ⟨⟨h.some_, h.few, h.kids.imp leaf_iff.1 id⟩, fun j hj => ⟨fun h0 => ?_, fun h0 => ?_⟩, fun j hj => ⟨h.pages _ (List.getElem_mem hj), fun i hi => ?_⟩⟩
    · have := rise_iff.1 h.rises (j - 1) (by omega)
      simpa only [Nat.sub_add_cancel h0] using this
    · have := h.bare.resolve_left (fun e => by have := leaf_iff.1 e; omega) _ (List.getElem_mem hj)
      rw [this]; rfl
    · exact List.pairwise_iff_getElem.1 (apart_iff.1 h.apart_) i j (by omega) hj hi
  · rintro ⟨⟨h1, h2, h3⟩, h4, h5⟩
    refine ⟨h1, h2, h3.imp leaf_iff.2 id, rise_iff.2 fun j h => ?_, ?_, fun k hk => ?_, apart_iff.2 (List.pairwise_iff_getElem.2 fun i j hi hj hij => (h5 j hj).2 i hij)⟩
    · exact (h4 (j + 1) h).1 (by omega)
    · rcases Nat.eq_zero_or_pos n.2.length with h0 | h0
      · exact Or.inl (leaf_iff.2 h0)
      · refine Or.inr fun x hx => ?_
        obtain ⟨j, hj, rfl⟩ := List.getElem_of_mem hx
        exact UInt64.toNat_inj.1 ((h4 j hj).2 h0)
    · obtain ⟨j, hj, rfl⟩ := List.getElem_of_mem hk
      exact (h5 j hj).1

theorem enc9 {n : Nod} (h : ¬ (LenOk n ∧ (∀ j, ItemOk n j) ∧ ∀ j, KidOk n j)) : encodeE n = 9 := by
  unfold encodeE
  exact if_neg fun e => h (parts_iff.1 (ok_iff.1 e))

theorem enc0 {n : Nod} (h : LenOk n ∧ (∀ j, ItemOk n j) ∧ ∀ j, KidOk n j) : encodeE n = 0 := by
  unfold encodeE
  exact if_pos (ok_iff.2 (parts_iff.2 h))

end Lf
end Go.Proofs.Ytbglgplfjhiafaa
