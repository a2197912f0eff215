/-
  Plain facts: numbers come back from their octets, and octets are made again of what was read. It imports no program. Conditions: those that each lemma names.
-/
import Derived.Test.YtbglgplfjhiafaaSpec3
namespace Go.Proofs.Ytbglgplfjhiafaa.Oct

theorem pairs_ok : ∀ (W : List Int) (V : List Nat), W.length = V.length → pairsE (W.zip V) = 0 →
    allOk W = true ∧ total W = (flat (W.zip V)).length ∧ ∀ pre : List UInt8, nums W (pre ++ flat (W.zip V)) pre.length = V
  | [], [], _, _ => ⟨rfl, rfl, fun _ => rfl⟩
  | x :: W, v :: V, hl, h => by
    simp only [List.zip_cons_cons, pairsE] at h
    by_cases hp : putE v x = 0
    · rw [if_pos hp] at h
      obtain ⟨s, rfl, h1, h2, h3, h4⟩ := putE_zero hp
      obtain ⟨i1, i2, i3⟩ := pairs_ok W V (by simpa using hl) h
      have hs : sizeOk (s : Int) = true := by simp [sizeOk]; omega
      refine ⟨by simp [allOk, hs, i1], ?_, fun pre => ?_⟩
      · simp [total, flat, h4, octs_length, i2]
      · simp only [List.zip_cons_cons, flat, h4, nums, Int.toNat_natCast]
        have e1 : cut (pre ++ (octs v s ++ flat (W.zip V))) pre.length s = octs v s := by
          have := octs_length v s
          unfold cut
          rw [List.drop_left, List.take_append_of_le_length (by omega), List.take_of_length_le (by omega)]
        have e2 := i3 (pre ++ octs v s)
        rw [List.append_assoc, List.length_append, octs_length] at e2
        rw [e1, num_octs v s h3, e2]
    · rw [if_neg hp] at h; exact absurd h hp
  | [], _ :: _, hl, _ => by simp at hl
  | _ :: _, [], hl, _ => by simp at hl

theorem packE_zero {W : List Int} {V : List Nat} (h : packE W V = 0) : W.length = V.length ∧ W.length ≤ 64 ∧ pairsE (W.zip V) = 0 ∧ packL W V = flat (W.zip V) := by
  by_cases g : W.length ≠ V.length ∨ 64 < W.length
  · rw [(packE_count g).1] at h; omega
  · have h1 : W.length = V.length := by omega
    have h2 : W.length ≤ 64 := by omega
    have h3 : pairsE (W.zip V) = 0 := by rw [← packE_in h1 h2]; exact h
    exact ⟨h1, h2, h3, packL_in h1 h2 h3⟩

theorem unpack_pack {W : List Int} {V : List Nat} (h : packE W V = 0) : unpackE W (packL W V) = 0 ∧ unpackL W (packL W V) = V := by
  obtain ⟨h1, h2, h3, h4⟩ := packE_zero h
  obtain ⟨i1, i2, i3⟩ := pairs_ok W V h1 h3
  rw [h4]
  obtain ⟨e1, e2⟩ := unpackE_ok (l := flat (W.zip V)) h2 i1 i2
  refine ⟨e1, ?_⟩
  rw [e2]
  exact i3 []

theorem nums_pairs : ∀ (W : List Int) (l : List UInt8) (p : Nat), allOk W = true → p + total W = l.length →
    pairsE (W.zip (nums W l p)) = 0 ∧ flat (W.zip (nums W l p)) = l.drop p
  | [], l, p, _, h => by
    simp only [total] at h
    exact ⟨rfl, by simp [nums, flat, List.drop_of_length_le (show l.length ≤ p by omega)]⟩
  | x :: W, l, p, h0, h => by
    simp only [allOk, Bool.and_eq_true] at h0
    simp only [total] at h
    have hx : 1 ≤ x ∧ x ≤ 8 := by have := h0.1; simpa [sizeOk] using this
    obtain ⟨s, rfl⟩ := Int.eq_ofNat_of_zero_le (show 0 ≤ x by omega)
    simp only [Int.toNat_natCast] at h
    obtain ⟨i1, i2⟩ := nums_pairs W l (p + s) h0.2 (by omega)
    have hlt := num_cut_lt l p s (by omega)
    have hput := putE_ok (show 1 ≤ s by omega) (show s ≤ 8 by omega) hlt
    have hputL := putL_ok (show 1 ≤ s by omega) (show s ≤ 8 by omega) hlt
    simp only [nums, List.zip_cons_cons, pairsE, flat, Int.toNat_natCast, hput, if_true, i1, hputL, i2]
    refine ⟨trivial, ?_⟩
    have e := octs_num (cut l p s)
    rw [cut_length l p s (by omega)] at e
    rw [e, cut]
    have := List.take_append_drop s (l.drop p)
    rw [List.drop_drop] at this
    exact this

theorem unpackE_zero {W : List Int} {l : List UInt8} (h : unpackE W l = 0) : W.length ≤ 64 ∧ allOk W = true ∧ total W = l.length ∧ unpackL W l = nums W l 0 := by
  rcases unpackE_cases W l with g | ⟨g1, g2⟩ | ⟨g1, g2, g3⟩ | ⟨g1, g2, g3⟩ | ⟨g1, g2, g3⟩
  · rw [(unpackE_count g).1] at h; omega
  · rw [(unpackE_arg g1 g2).1] at h; omega
  · rw [(unpackE_short g1 g2 g3).1] at h; omega
  · rw [(unpackE_tail g1 g2 g3).1] at h; omega
  · exact ⟨g1, g2, g3, (unpackE_ok g1 g2 g3).2⟩

theorem unpackL_other {W : List Int} {l : List UInt8} (h : unpackE W l ≠ 0) : unpackL W l = [] := by simp [unpackL, h]

theorem pack_unpack {W : List Int} {l : List UInt8} (h : unpackE W l = 0) : packE W (unpackL W l) = 0 ∧ packL W (unpackL W l) = l := by
  obtain ⟨h1, h2, h3, h4⟩ := unpackE_zero h
  obtain ⟨i1, i2⟩ := nums_pairs W l 0 h2 (by omega)
  rw [h4]
  have hl : W.length = (nums W l 0).length := (nums_length W l 0).symm
  refine ⟨by rw [packE_in hl h1]; exact i1, ?_⟩
  rw [packL_in hl h1 i1, i2, List.drop_zero]

/-- Cut off, octets end too early; with one more, something is left. -/
theorem unpack_cut {W : List Int} {V : List Nat} (h : packE W V = 0) (k : Nat) (hk : k < (packL W V).length) : unpackE W ((packL W V).take k) = 8 := by
  obtain ⟨h1, h2, h3, h4⟩ := packE_zero h
  obtain ⟨i1, i2, i3⟩ := pairs_ok W V h1 h3
  rw [h4] at hk ⊢
  exact (unpackE_short h2 i1 (by simp; omega)).1

theorem unpack_more {W : List Int} {V : List Nat} (h : packE W V = 0) (b : UInt8) : unpackE W (packL W V ++ [b]) = 23 := by
  obtain ⟨h1, h2, h3, h4⟩ := packE_zero h
  obtain ⟨i1, i2, i3⟩ := pairs_ok W V h1 h3
  rw [h4]
  exact (unpackE_tail h2 i1 (by simp; omega)).1

theorem nums_lt (W : List Int) (l : List UInt8) (p : Nat) (h : allOk W = true) : ∀ v ∈ nums W l p, v < 18446744073709551616 := by
  induction W generalizing p with
  | nil => intro v hv; cases hv
  | cons x W ih =>
    simp only [allOk, Bool.and_eq_true] at h
    intro v hv
    simp only [nums, List.mem_cons] at hv
    rcases hv with rfl | hv
    · exact num_lt64 l p x h.1
    · exact ih (p + x.toNat) h.2 v hv

/-- A text cut off ends too early. -/
theorem read_cut {s : List UInt8} (h : textE s = 0) (k : Nat) (hk : k < (textL s).length) : readE ((textL s).take k) 0 = 8 ∧ readN ((textL s).take k) 0 = 0 := by
  obtain ⟨h1, h2⟩ := textE_zero h
  rw [h2] at hk ⊢
  have hlen : (List.take k (UInt8.ofNat s.length :: s)).length = k := by simp; simp at hk; omega
  rcases readE_cases ((UInt8.ofNat s.length :: s).take k) 0 with ⟨h, _⟩ | ⟨p, hp, h, e1, e2, e3⟩ | ⟨p, hp, g, h, e1, e2, e3⟩ | ⟨p, hp, g, h, e1, e2, e3⟩
  · omega
  · exact ⟨e1, e3⟩
  · exact ⟨e1, e3⟩
  · obtain rfl : p = 0 := by omega
    rw [hlen] at g h
    obtain ⟨j, rfl⟩ : ∃ j, k = j + 1 := ⟨k - 1, by omega⟩
    simp at h hk
    omega

end Go.Proofs.Ytbglgplfjhiafaa.Oct
