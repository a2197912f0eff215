/-
  Plain functions: one extent laid among others, piece by piece. It imports no program. Conditions: those that each lemma names.
-/
import Derived.Test.YtlpmfbinemmikaaEPieces
namespace Go.Proofs.Ytlpmfbinemmikaa.Ex
set_option linter.unusedVariables false

theorem ins_mem {x z : Ext} : ∀ {l : List Ext}, z ∈ ins x l → z = x ∨ z ∈ l
  | [], h => by simp only [ins, List.mem_singleton] at h; exact .inl h
  | e :: l, h => by
    unfold ins at h
    split at h
    · rcases List.mem_cons.1 h with rfl | h
      · exact .inr (by simp)
      · rcases ins_mem h with k | k
        · exact .inl k
        · exact .inr (by simp [k])
    · rcases List.mem_cons.1 h with rfl | h
      · exact .inl rfl
      · exact .inr h

theorem ins_len (x : Ext) : ∀ l : List Ext, (ins x l).length = l.length + 1
  | [] => rfl
  | e :: l => by
    unfold ins
    split
    · rw [List.length_cons, ins_len x l, List.length_cons]
    · rw [List.length_cons, List.length_cons]

theorem without_len (l : List Ext) (v n : Int) : (without l v n).length ≤ l.length * 2 := by
  have h1 := addAll_len (l.flatMap (cutOne v n)) []
  have h2 := flat_len (f := cutOne v n) (k := 2) (fun x => by unfold cutOne; split <;> simp) l
  simp only [List.length_nil, Nat.zero_add] at h1
  exact Nat.le_trans h1 h2

theorem put_pieces {l : List Ext} (h : Ok l) {x : Ext} (hx : One x) : Pieces (ins x (without l x.1 x.2.2)) := by
  obtain ⟨w1, w2⟩ := without_ok h.good x.1 x.2.2
  have hx' := hx
  unfold One Fits at hx'
  obtain ⟨r1, r2, r3⟩ := ins_ok hx w1.from_ hx'.2.1.1 (fun u a c => by rw [w2 u, if_pos ⟨a, c⟩])
  refine ⟨r1.loose, r2 65536 (by omega) w1.last, fun z hz => ?_, ?_⟩
  · rcases ins_mem hz with rfl | hz
    · omega
    · have := good_phys w1 hz
      unfold One Fits at this
      omega
  · rw [ins_len]
    have h1 := without_len l x.1 x.2.2
    have h2 := h.1
    omega

theorem ins_at {x : Ext} {l : List Ext} {k : Nat} (hk : k < l.length) : ins x (l.drop k) = if l[k].1 < x.1 then l[k] :: ins x (l.drop (k + 1)) else x :: l.drop k := by
  conv => lhs; rw [List.drop_eq_getElem_cons hk]
  conv => rhs; rw [List.drop_eq_getElem_cons hk]
  rfl

end Go.Proofs.Ytlpmfbinemmikaa.Ex
