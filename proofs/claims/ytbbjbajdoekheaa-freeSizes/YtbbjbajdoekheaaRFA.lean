/-
  The document's own: whether a span is within a size, is free wholly, or in part. Conditions: those that each contract names.
-/
import Derived.Test.YtbbjbajdoekheaaFBase
namespace Go.Proofs.Ytbbjbajdoekheaa
open Go.RowKit
set_option linter.unusedVariables false

set_option maxHeartbeats 1600000 in
theorem inside_u (w : World) (x : Spn) (z : Int) (hx : In2 x) (hz0 : 0 ≤ z) (hz1 : z ≤ 65536) (r : Bool) (hr : Fr.inB z x = r) :
    Calls Try.prog 43 #[.agg #[.int .i64 x.1, .int .i64 x.2], .int .i64 z] w fun e w' => e = .returned (.bool r) ∧ Below w.heap.size w w' := by
  subst hr
  unfold In2 In64 at hx
  obtain ⟨⟨i1, i2⟩, i3, i4⟩ := hx
  have HF : Hid (Fr.inB z x = true ↔ 1 ≤ x.2 ∧ 0 ≤ x.1 ∧ x.1 ≤ z - x.2) := by
    unfold Hid Fr.inB
    simp only [Bool.and_eq_true, decide_eq_true_eq]
    omega
  generalize Fr.inB z x = r at *
  obtain ⟨w0, hw0, V0, b0, z0⟩ := boxedRow w 26 [.int .i64 x.1, .int .i64 x.2]
  obtain ⟨d0, d1⟩ := V0.two
  have B0 : Hid (Below w.heap.size w w0) := b0
  clear V0 z0 b0
  go_enter Try.func43, Try.ntmps43
  go_wp2
  all_goals go_ret
  all_goals refine ⟨ret_flag ?_, B0.out⟩
  all_goals rw [HF.out]
  all_goals first
    | omega
    | (simp only [decide_eq_true_eq]; omega)
    | (simp only [Bool.false_eq_true, false_iff]; omega)

set_option maxHeartbeats 4000000 in
theorem whole_u (w : World) (P : Nat → Prop) (z : Int) (a : Option Addr) (n c : Nat) (l : List Spn) (hL : rSpns.rd w P [.slice a n c] l) (hM : ∀ y ∈ l, Fr.Mid y) (x : Spn) (hx : In64 (x.1 + x.2)) (r : Bool) (hr : Fr.whole l x = r) :
    Calls Try.prog 44 #[.agg #[.int .i64 z, .slice a n c], .agg #[.int .i64 x.1, .int .i64 x.2]] w fun e w' => e = .returned (.bool r) ∧ Below w.heap.size w w' := by
  subst hr
  obtain ⟨hl, hnc, hnil, hb⟩ := rList_len hL
  have hn : n ≤ 8796093022000 := by have : n * 16 ≤ 140737488351232 := hb; omega
  have HL : Hid (l.length = n) := hl
  have HR : Hid _ := hL
  have HM : Hid _ := hM
  unfold In64 at hx
  obtain ⟨w0, hw0, V0, b0, z0⟩ := boxedRow w 24 [.int .i64 z, .slice a n c]
  obtain ⟨w1, hw1, V1, b1, z1⟩ := boxedRow w0 26 [.int .i64 x.1, .int .i64 x.2]
  rw [z0] at V1
  have HV0 : Hid (Row w1 w.heap.size 24 [.int .i64 z, .slice a n c]) := V0.below b1
  have HV1 : Hid (Row w1 (w.heap.size + 1) 26 [.int .i64 x.1, .int .i64 x.2]) := V1
  have B1 : Hid (Below w.heap.size w w1) := on b0 b1
  have HAny : Hid (∀ y ∈ l, (decide (y.1 ≤ x.1) && decide (x.1 + x.2 ≤ y.1 + y.2)) = true → Fr.whole l x = true) := fun y hy h => by
    unfold Fr.whole
    exact List.any_eq_true.2 ⟨y, hy, h⟩
  have HNone : Hid ((∀ j (h : j < l.length), (fun y : Spn => decide (y.1 ≤ x.1) && decide (x.1 + x.2 ≤ y.1 + y.2)) l[j] = false) → Fr.whole l x = false) := fun h => by
    unfold Fr.whole
    rw [List.any_eq_false]
    intro y hy
    obtain ⟨j, hj, rfl⟩ := List.mem_iff_getElem.1 hy
    have := h j hj
    simp only at this
    rw [this]
    decide
  generalize Fr.whole l x = r at *
  clear hl hnc hnil hb hL hM V0 V1 b0 b1 z1
  go_enter Try.func44, Try.ntmps44
  go_wp2
  go_loopw [5] (fun i wr => ∃ k : Nat, k ≤ n ∧ i = .int .i64 k ∧ Hid (∀ j (h : j < l.length), j < k → (fun y : Spn => decide (y.1 ≤ x.1) && decide (x.1 + x.2 ≤ y.1 + y.2)) l[j] = false) ∧ Below w1.heap.size w1 wr) (fun i _ => n - (intOf i).toNat)
  case atStart => exact ⟨0, Nat.zero_le _, rfl, (fun j _ h => by omega), Below.refl _ _⟩
  case round =>
    obtain ⟨k, hk, rfl, HK, bel⟩ := hrel
    obtain ⟨r0, r1⟩ := (HV0.out.below bel).two
    by_cases hlt : k < n
    · have hkl : k < l.length := by rw [HL.out]; exact hlt
      obtain ⟨r2, r3⟩ := (HV1.out.below bel).two
      obtain ⟨g, off, rfl, -, -, hat⟩ := rSpns_at (Rep.below (Rep.below HR.out B1.out) bel) (by omega)
      obtain ⟨c0, c1, -⟩ := hat k hkl
      have hm := HM.out l[k] (List.getElem_mem hkl)
      have HA : Hid _ := HAny.out l[k] (List.getElem_mem hkl)
      have HNx : Hid ((fun y : Spn => decide (y.1 ≤ x.1) && decide (x.1 + x.2 ≤ y.1 + y.2)) l[k] = false → ∀ j (h : j < l.length), j < k + 1 → (fun y : Spn => decide (y.1 ≤ x.1) && decide (x.1 + x.2 ≤ y.1 + y.2)) l[j] = false) := fun h j hj hjk => by
        by_cases e : j = k
        · subst e; exact h
        · exact HK.out j hj (by omega)
      obtain ⟨y, hX⟩ : ∃ y, y = l[k] := ⟨_, rfl⟩
      rw [← hX] at c0 c1 hm HA HNx
      unfold Fr.Mid at hm
      obtain ⟨m1, m2, m3⟩ := hm
      have hkz : (k : Int) < (n : Int) := by omega
      clear hX hat
      cases h1 : decide (y.1 ≤ x.1)
      · have HN2 : Hid _ := HNx.out (by simp only; rw [h1]; rfl)
        clear HNx HA
        go_wp2_with fail
        go_quiet (fail)
        go_wp2
        go_roundw
        case rel => exact ⟨k + 1, by omega, by go_num, HN2, same_drewN bel nq⟩
        case measure => simp [intOf]; omega
      · cases h2 : decide (x.1 + x.2 ≤ y.1 + y.2)
        · have HN2 : Hid _ := HNx.out (by simp only; rw [h1, h2]; rfl)
          clear HNx HA
          go_wp2_with fail
          go_quiet (fail)
          go_wp2
          go_roundw
          case rel => exact ⟨k + 1, by omega, by go_num, HN2, same_drewN bel nq⟩
          case measure => simp [intOf]; omega
        · have HT : Hid (r = true) := HA.out (by rw [h1, h2]; rfl)
          clear HNx HA
          go_wp2_with fail
          go_quiet (fail)
          go_wp2
          go_ret
          exact ⟨by rw [HT.out]; rfl, on B1.out (same_drewN bel nq)⟩
    · obtain rfl : k = n := by omega
      have HT : Hid (r = false) := HNone.out (fun j hj => HK.out j hj (by rw [← HL.out]; exact hj))
      go_wp2
      go_ret
      exact ⟨by rw [HT.out]; rfl, on B1.out bel⟩

set_option maxHeartbeats 4000000 in
theorem some_u (w : World) (P : Nat → Prop) (z : Int) (a : Option Addr) (n c : Nat) (l : List Spn) (hL : rSpns.rd w P [.slice a n c] l) (hM : ∀ y ∈ l, Fr.Mid y) (x : Spn) (hx : In64 (x.1 + x.2)) (r : Bool) (hr : Fr.some_ l x = r) :
    Calls Try.prog 48 #[.agg #[.int .i64 z, .slice a n c], .agg #[.int .i64 x.1, .int .i64 x.2]] w fun e w' => e = .returned (.bool r) ∧ Below w.heap.size w w' := by
  subst hr
  obtain ⟨hl, hnc, hnil, hb⟩ := rList_len hL
  have hn : n ≤ 8796093022000 := by have : n * 16 ≤ 140737488351232 := hb; omega
  have HL : Hid (l.length = n) := hl
  have HR : Hid _ := hL
  have HM : Hid _ := hM
  unfold In64 at hx
  obtain ⟨w0, hw0, V0, b0, z0⟩ := boxedRow w 24 [.int .i64 z, .slice a n c]
  obtain ⟨w1, hw1, V1, b1, z1⟩ := boxedRow w0 26 [.int .i64 x.1, .int .i64 x.2]
  rw [z0] at V1
  have HV0 : Hid (Row w1 w.heap.size 24 [.int .i64 z, .slice a n c]) := V0.below b1
  have HV1 : Hid (Row w1 (w.heap.size + 1) 26 [.int .i64 x.1, .int .i64 x.2]) := V1
  have B1 : Hid (Below w.heap.size w w1) := on b0 b1
  have HAny : Hid (∀ y ∈ l, (decide (x.1 < y.1 + y.2) && decide (y.1 < x.1 + x.2)) = true → Fr.some_ l x = true) := fun y hy h => by
    unfold Fr.some_
    exact List.any_eq_true.2 ⟨y, hy, h⟩
  have HNone : Hid ((∀ j (h : j < l.length), (fun y : Spn => decide (x.1 < y.1 + y.2) && decide (y.1 < x.1 + x.2)) l[j] = false) → Fr.some_ l x = false) := fun h => by
    unfold Fr.some_
    rw [List.any_eq_false]
    intro y hy
    obtain ⟨j, hj, rfl⟩ := List.mem_iff_getElem.1 hy
    have := h j hj
    simp only at this
    rw [this]
    decide
  generalize Fr.some_ l x = r at *
  clear hl hnc hnil hb hL hM V0 V1 b0 b1 z1
  go_enter Try.func48, Try.ntmps48
  go_wp2
  go_loopw [5] (fun i wr => ∃ k : Nat, k ≤ n ∧ i = .int .i64 k ∧ Hid (∀ j (h : j < l.length), j < k → (fun y : Spn => decide (x.1 < y.1 + y.2) && decide (y.1 < x.1 + x.2)) l[j] = false) ∧ Below w1.heap.size w1 wr) (fun i _ => n - (intOf i).toNat)
  case atStart => exact ⟨0, Nat.zero_le _, rfl, (fun j _ h => by omega), Below.refl _ _⟩
  case round =>
    obtain ⟨k, hk, rfl, HK, bel⟩ := hrel
    obtain ⟨r0, r1⟩ := (HV0.out.below bel).two
    by_cases hlt : k < n
    · have hkl : k < l.length := by rw [HL.out]; exact hlt
      obtain ⟨r2, r3⟩ := (HV1.out.below bel).two
      obtain ⟨g, off, rfl, -, -, hat⟩ := rSpns_at (Rep.below (Rep.below HR.out B1.out) bel) (by omega)
      obtain ⟨c0, c1, -⟩ := hat k hkl
      have hm := HM.out l[k] (List.getElem_mem hkl)
      have HA : Hid _ := HAny.out l[k] (List.getElem_mem hkl)
      have HNx : Hid ((fun y : Spn => decide (x.1 < y.1 + y.2) && decide (y.1 < x.1 + x.2)) l[k] = false → ∀ j (h : j < l.length), j < k + 1 → (fun y : Spn => decide (x.1 < y.1 + y.2) && decide (y.1 < x.1 + x.2)) l[j] = false) := fun h j hj hjk => by
        by_cases e : j = k
        · subst e; exact h
        · exact HK.out j hj (by omega)
      obtain ⟨y, hX⟩ : ∃ y, y = l[k] := ⟨_, rfl⟩
      rw [← hX] at c0 c1 hm HA HNx
      unfold Fr.Mid at hm
      obtain ⟨m1, m2, m3⟩ := hm
      have hkz : (k : Int) < (n : Int) := by omega
      clear hX hat
      cases h1 : decide (x.1 < y.1 + y.2)
      · have HN2 : Hid _ := HNx.out (by simp only; rw [h1]; rfl)
        clear HNx HA
        go_wp2_with fail
        go_quiet (fail)
        go_wp2
        go_roundw
        case rel => exact ⟨k + 1, by omega, by go_num, HN2, same_drewN bel nq⟩
        case measure => simp [intOf]; omega
      · cases h2 : decide (y.1 < x.1 + x.2)
        · have HN2 : Hid _ := HNx.out (by simp only; rw [h1, h2]; rfl)
          clear HNx HA
          go_wp2_with fail
          go_quiet (fail)
          go_wp2
          go_roundw
          case rel => exact ⟨k + 1, by omega, by go_num, HN2, same_drewN bel nq⟩
          case measure => simp [intOf]; omega
        · have HT : Hid (r = true) := HA.out (by rw [h1, h2]; rfl)
          clear HNx HA
          go_wp2_with fail
          go_quiet (fail)
          go_wp2
          go_ret
          exact ⟨by rw [HT.out]; rfl, on B1.out (same_drewN bel nq)⟩
    · obtain rfl : k = n := by omega
      have HT : Hid (r = false) := HNone.out (fun j hj => HK.out j hj (by rw [← HL.out]; exact hj))
      go_wp2
      go_ret
      exact ⟨by rw [HT.out]; rfl, on B1.out bel⟩

end Go.Proofs.Ytbbjbajdoekheaa
