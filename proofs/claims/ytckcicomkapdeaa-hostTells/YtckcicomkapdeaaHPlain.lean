/-
  Plain functions: what follows for hosts, their acts, their lengths and what is read. It imports no program. Conditions: those that each lemma names.
-/
import Derived.Test.YtckcicomkapdeaaHSpec
namespace Go.Proofs.Ytckcicomkapdeaa
namespace Hst

theorem doneAll_append (keep : Nat → Bool) : ∀ (A B : List Act) (k : Nat) (l : List (List UInt8)), doneAll keep k l (A ++ B) = doneAll keep (k + A.length) (doneAll keep k l A) B
  | [], B, k, l => by simp [doneAll]
  | a :: A, B, k, l => by
    simp only [List.cons_append, doneAll, List.length_cons]
    rw [doneAll_append keep A B]
    congr 1
    omega

theorem doneAll_snoc (keep : Nat → Bool) (A : List Act) (a : Act) (l : List (List UInt8)) :
    doneAll keep 0 l (A ++ [a]) = if keep A.length then done (doneAll keep 0 l A) a else doneAll keep 0 l A := by
  rw [doneAll_append]
  simp [doneAll]

theorem doneAll_take (keep : Nat → Bool) (W : List Act) (l : List (List UInt8)) (j : Nat) (hj : j < W.length) :
    doneAll keep 0 l (W.take (j + 1)) = if keep j then done (doneAll keep 0 l (W.take j)) W[j] else doneAll keep 0 l (W.take j) := by
  rw [List.take_succ_eq_append_getElem hj, doneAll_snoc]
  rw [List.length_take, Nat.min_eq_left (by omega)]

theorem doneAll_congr {keep keep' : Nat → Bool} : ∀ (W : List Act) (k : Nat) (l : List (List UInt8)), (∀ i, k ≤ i → i < k + W.length → keep i = keep' i) → doneAll keep k l W = doneAll keep' k l W
  | [], _, _, _ => rfl
  | a :: W, k, l, h => by
    simp only [doneAll]
    rw [h k (Nat.le_refl _) (by simp), doneAll_congr W (k + 1) _ (fun i h1 h2 => h i (by omega) (by simp at h2 ⊢; omega))]

theorem length_write {l : List (List UInt8)} {a : Act} (h : a.1 = 1) : (done l a).length = l.length := by
  unfold done
  rw [if_pos h]
  split <;> simp

theorem length_len {l : List (List UInt8)} {a : Act} (h : a.1 ≠ 1) : (done l a).length = a.2.1.toNat := by
  unfold done
  rw [if_neg h]
  simp
  omega

theorem length_writes {keep : Nat → Bool} : ∀ (B : List Act) (k : Nat) (l : List (List UInt8)), (∀ a ∈ B, a.1 = 1) → (doneAll keep k l B).length = l.length
  | [], _, _, _ => rfl
  | a :: B, k, l, h => by
    simp only [doneAll]
    rw [length_writes B _ _ (fun b hb => h b (by simp [hb]))]
    split
    · exact length_write (h a (by simp))
    · rfl

theorem act_one_two {cp : Int} {a : Act} (h : actOk cp a = true) : (a.1 = 1 ∧ 0 ≤ a.2.1 ∧ a.2.1 < cp ∧ a.2.2.length = 64) ∨ (a.1 = 2 ∧ 0 ≤ a.2.1 ∧ a.2.1 ≤ cp ∧ a.2.2.length = 0) := by
  simpa only [actOk, isWrite, isLen, Bool.or_eq_true, Bool.and_eq_true, decide_eq_true_eq, and_assoc] using h

/-- The last length that waits. -/
theorem length_found {L : List (List UInt8)} {W : List Act} {cp : Int} (hW : ∀ a ∈ W, actOk cp a = true) (j : Nat) (hj : j < W.length) (h2 : W[j].1 = 2) (hl : ∀ i (h : i < W.length), j < i → W[i].1 ≠ 2) :
    ((doneAll all 0 L W).length : Int) = W[j].2.1 := by
  have e : doneAll all 0 L W = doneAll all (0 + (W.take (j + 1)).length) (doneAll all 0 L (W.take (j + 1))) (W.drop (j + 1)) := by
    rw [← doneAll_append, List.take_append_drop]
  rw [e, length_writes, doneAll_take _ _ _ _ hj]
  · simp only [all, if_true]
    rw [length_len (by omega)]
    rcases act_one_two (hW _ (List.getElem_mem hj)) with h | h <;> omega
  · intro a ha
    obtain ⟨i, hi, rfl⟩ := List.getElem_of_mem ha
    rw [List.getElem_drop]
    rw [List.length_drop] at hi
    rcases act_one_two (hW (W[j + 1 + i]'(by omega)) (List.getElem_mem _)) with h | h
    · exact h.1
    · exact absurd h.1 (hl _ (by omega) (by omega))

theorem length_none {L : List (List UInt8)} {W : List Act} {cp : Int} (hW : ∀ a ∈ W, actOk cp a = true) (hl : ∀ i (h : i < W.length), W[i].1 ≠ 2) : (doneAll all 0 L W).length = L.length := by
  apply length_writes
  intro a ha
  obtain ⟨i, hi, rfl⟩ := List.getElem_of_mem ha
  rcases act_one_two (hW _ ha) with h | h
  · exact h.1
  · exact absurd h.1 (hl i hi)

/-- Sectors that may be. -/
def secOk (cp : Int) (l : List (List UInt8)) : Prop := (l.length : Int) ≤ cp ∧ ∀ b ∈ l, b.length = 64

theorem done_ok {cp : Int} {l : List (List UInt8)} {a : Act} (h : secOk cp l) (ha : actOk cp a = true) : secOk cp (done l a) := by
  rcases act_one_two ha with ⟨h1, h2, h3, h4⟩ | ⟨h1, h2, h3, h4⟩
  · refine ⟨by rw [length_write h1]; exact h.1, fun b hb => ?_⟩
    unfold done at hb
    rw [if_pos h1] at hb
    split at hb
    · rcases List.mem_or_eq_of_mem_set hb with hb | hb
      · exact h.2 b hb
      · rw [hb]; exact h4
    · exact h.2 b hb
  · refine ⟨by rw [length_len (by omega)]; omega, fun b hb => ?_⟩
    unfold done at hb
    rw [if_neg (by omega)] at hb
    rcases List.mem_append.1 hb with hb | hb
    · exact h.2 b (List.mem_of_mem_take hb)
    · rw [List.eq_of_mem_replicate hb]; simp [zeros]

theorem doneAll_ok {cp : Int} {keep : Nat → Bool} : ∀ (W : List Act) (k : Nat) (l : List (List UInt8)), secOk cp l → (∀ a ∈ W, actOk cp a = true) → secOk cp (doneAll keep k l W)
  | [], _, _, h, _ => h
  | a :: W, k, l, h, hW => by
    simp only [doneAll]
    refine doneAll_ok W _ _ ?_ (fun b hb => hW b (by simp [hb]))
    split
    · exact done_ok h (hW a (by simp))
    · exact h

theorem ok_parts {s : Host} (h : ok s = true) : 1 ≤ s.2.2 ∧ s.2.2 ≤ 65536 ∧ s.2.1.length ≤ 4096 ∧ secOk s.2.2 s.1 ∧ ∀ a ∈ s.2.1, actOk s.2.2 a = true := by
  simp only [ok, headOk, Bool.and_eq_true, decide_eq_true_eq, List.all_eq_true] at h
  exact ⟨h.1.1.1.1.1, h.1.1.1.1.2, h.1.1.2, ⟨h.1.1.1.2, h.1.2⟩, h.2⟩

theorem ok_of {s : Host} (h1 : 1 ≤ s.2.2) (h2 : s.2.2 ≤ 65536) (h3 : s.2.1.length ≤ 4096) (h4 : secOk s.2.2 s.1) (h5 : ∀ a ∈ s.2.1, actOk s.2.2 a = true) : ok s = true := by
  simp only [ok, headOk, Bool.and_eq_true, decide_eq_true_eq, List.all_eq_true]
  exact ⟨⟨⟨⟨⟨h1, h2⟩, h4.1⟩, h3⟩, h4.2⟩, h5⟩

theorem ok_settled {s : Host} (keep : Nat → Bool) (h : ok s = true) : ok (settled s keep) = true := by
  obtain ⟨h1, h2, h3, h4, h5⟩ := ok_parts h
  exact ok_of h1 h2 (by simp [settled]) (doneAll_ok _ _ _ h4 h5) (by simp [settled])

theorem settled_settled (s : Host) (k k' : Nat → Bool) : settled (settled s k) k' = settled s k := rfl

theorem lengthN_ok {s : Host} (h : ok s = true) : lengthN s = (doneAll all 0 s.1 s.2.1).length := by simp [lengthN, h, settled]

theorem lengthN_le {s : Host} (h : ok s = true) : (lengthN s : Int) ≤ s.2.2 := by
  obtain ⟨h1, h2, h3, h4, h5⟩ := ok_parts h
  rw [lengthN_ok h]
  exact (doneAll_ok _ _ _ h4 h5).1

theorem writeE_zero {s : Host} {p : Int} {d : List UInt8} : writeE s p d = 0 ↔ ok s = true ∧ 0 ≤ p ∧ p < (lengthN s : Int) ∧ d.length = 64 ∧ s.2.1.length < 4096 := by
  unfold writeE
  by_cases h1 : ok s = true
  · by_cases h2 : 0 ≤ p ∧ p < (lengthN s : Int)
    · by_cases h3 : d.length = 64
      · by_cases h4 : s.2.1.length < 4096 <;> simp [h1, h2, h3, h4]
      · simp [h1, h2, h3]
    · simp only [h1, h2, if_true, if_false, true_and, ← and_assoc, false_and, iff_false]; decide
  · simp [h1]

theorem resizeE_zero {s : Host} {n : Int} : resizeE s n = 0 ↔ ok s = true ∧ 0 ≤ n ∧ n ≤ s.2.2 ∧ s.2.1.length < 4096 := by
  unfold resizeE
  by_cases h1 : ok s = true
  · by_cases h2 : 0 ≤ n
    · by_cases h4 : n ≤ s.2.2 ∧ s.2.1.length < 4096 <;> simp [h1, h2, h4]
    · simp [h1, h2]
  · simp [h1]

theorem ok_write {s : Host} {p : Int} {d : List UInt8} (h : writeE s p d = 0) : ok (writeS s p d) = true := by
  have hs : writeS s p d = (s.1, s.2.1 ++ [(1, p, d)], s.2.2) := by simp [writeS, h]
  rw [writeE_zero] at h
  obtain ⟨h0, p1, p2, p3, p4⟩ := h
  have hle := lengthN_le h0
  obtain ⟨h1, h2, h3, h4, h5⟩ := ok_parts h0
  rw [hs]
  refine ok_of h1 h2 (by simp; omega) h4 (fun a ha => ?_)
  rcases List.mem_append.1 ha with ha | ha
  · exact h5 a ha
  · simp at ha
    subst ha
    have : p < s.2.2 := by omega
    simp [actOk, isWrite, p1, p3, this]

theorem ok_resize {s : Host} {n : Int} (h : resizeE s n = 0) : ok (resizeS s n) = true := by
  have hs : resizeS s n = (s.1, s.2.1 ++ [(2, n, [])], s.2.2) := by simp [resizeS, h]
  rw [resizeE_zero] at h
  obtain ⟨h0, p1, p2, p4⟩ := h
  obtain ⟨h1, h2, h3, h4, h5⟩ := ok_parts h0
  rw [hs]
  refine ok_of h1 h2 (by simp; omega) h4 (fun a ha => ?_)
  rcases List.mem_append.1 ha with ha | ha
  · exact h5 a ha
  · simp at ha
    subst ha
    simp [actOk, isLen, p1, p2]

theorem flush_ok {s : Host} (h : ok s = true) : flushS s = (doneAll all 0 s.1 s.2.1, [], s.2.2) := by simp [flushS, h, settled]
theorem crash_ok {s : Host} (keep : List Bool) (h : ok s = true) : crashS s keep = (doneAll (those keep) 0 s.1 s.2.1, [], s.2.2) := by simp [crashS, h, settled]

/-- Sectors, and zeros up to a length. -/
def pad (N : Nat) (M : List (List UInt8)) : List (List UInt8) := M ++ List.replicate (N - M.length) zeros

theorem pad_length {N : Nat} {M : List (List UInt8)} (h : M.length ≤ N) : (pad N M).length = N := by simp [pad]; omega

theorem pad_set {N p : Nat} {M : List (List UInt8)} (d : List UInt8) (h : p < M.length) : (pad N M).set p d = pad N (M.set p d) := by
  unfold pad
  rw [List.set_append_left _ _ h, List.length_set]

theorem pad_len {N : Nat} {M : List (List UInt8)} {a : Act} (h1 : a.1 ≠ 1) (ht : a.2.1.toNat ≤ N) (hM : M.length ≤ N) : (pad N M).take a.2.1.toNat ++ List.replicate (N - a.2.1.toNat) zeros = pad N (done M a) := by
  unfold pad
  rw [length_len h1]
  unfold done
  rw [if_neg h1, List.take_append, List.append_assoc, List.append_assoc, List.take_replicate, Nat.min_eq_left (by omega)]

theorem pad_take {N : Nat} {M : List (List UInt8)} : (pad N M).take M.length = M := by simp [pad]

end Hst
end Go.Proofs.Ytckcicomkapdeaa
