/-
  The landed refs: Shared, at whatever maps and sectors. Conditions: those that each contract names.
-/
import Derived.Test.YtinlgoljaiolnabNAsk
import Derived.Test.YtinlgoljaiolnabNShrP
namespace Go.Proofs.Ytinlgoljaiolnab
open Go.RowKit
set_option linter.unusedVariables false

theorem shrAsk_u (w : World) (x : Cnr) : Calls Try.prog 17 #[.agg #[.int .i64 x.1, .int .i64 x.2.1, .int .i64 x.2.2]] w fun e w' => e = .returned (.bool (decide (1 < x.2.2))) ∧ Below w.heap.size w w' := by
  obtain ⟨w0, hw0, V0, b0, z0⟩ := boxedRow w 35 [.int .i64 x.1, .int .i64 x.2.1, .int .i64 x.2.2]
  obtain ⟨r0, r1, r2⟩ := V0.three
  have B0 : Hid (Below w.heap.size w w0) := b0
  clear V0 b0 z0
  go_enter Try.func17, Try.ntmps17
  go_wp2
  go_ret
  exact ⟨by first | rfl | simp, B0.out⟩

set_option maxHeartbeats 1000000 in
theorem shrIdx_u (w : World) (P : Nat → Prop) (a : Option Addr) (n c : Nat) (l : List Cnr) (hL : rExts.rd w P [.slice a n c] l) (hn : n ≤ 1000000) :
    Calls Try.prog 24 #[.slice a n c, .func (.func 17) #[] #[]] w fun e w' => ∃ r : Int, e = .returned (.int .i64 r) ∧ (0 ≤ r ↔ Rf.many l = true) ∧ Below w.heap.size w w' := by
  have HL : Hid (l.length = n) := (rList_len hL).1
  have HR : Hid _ := hL
  clear hL
  go_enter Try.func24, Try.ntmps24
  go_wp2
  go_loopw [8] (fun i wr => ∃ k : Nat, k ≤ n ∧ i = .int .i64 k ∧ Hid (∀ j (h : j < l.length), j < k → decide (1 < l[j].2.2) = false) ∧ Below w.heap.size w wr) (fun i _ => n - (intOf i).toNat)
  case atStart => exact ⟨0, Nat.zero_le _, rfl, (fun j _ h => by omega), Below.refl _ _⟩
  case round =>
    obtain ⟨k, hk, rfl, HK, bel⟩ := hrel
    by_cases hlt : k < n
    · have hkl : k < l.length := by rw [HL.out]; exact hlt
      obtain ⟨g, off, rfl, -, -, hat⟩ := rExts_at (Rep.below HR.out bel) (by omega)
      obtain ⟨c0, c1, c2, -⟩ := hat k hkl
      have hc := shrAsk_u wr l[k]
      have HAny : Hid (decide (1 < l[k].2.2) = true → Rf.many l = true) := fun h => List.any_eq_true.2 ⟨l[k], List.getElem_mem hkl, h⟩
      have HNx : Hid (decide (1 < l[k].2.2) = false → ∀ j (h : j < l.length), j < k + 1 → decide (1 < l[j].2.2) = false) := fun h j hj hjk => by
        by_cases e : j = k
        · subst e; exact h
        · exact HK.out j hj (by omega)
      obtain ⟨X, hX⟩ : ∃ X, X = l[k] := ⟨_, rfl⟩
      rw [← hX] at c0 c1 c2 hc HAny HNx
      have B : Hid (Below w.heap.size w wr) := bel
      have hkz : (k : Int) < (n : Int) := by omega
      clear hX hat bel
      cases hp : decide (1 < X.2.2) <;> rw [hp] at hc
      · have HN2 : Hid _ := HNx.out hp
        clear hp HNx HAny
        go_wp2_with (go_at_call 17; refine hc.mono ?_; rintro e w' ⟨rfl, hb⟩)
        go_roundw
        case rel => exact ⟨k + 1, by omega, by go_num, HN2, on B.out hb⟩
        case measure => simp [intOf]; omega
      · have HN2 : Hid _ := HAny.out hp
        clear hp HNx HAny
        go_wp2_with (go_at_call 17; refine hc.mono ?_; rintro e w' ⟨rfl, hb⟩)
        go_ret
        exact ⟨k, rfl, ⟨fun _ => HN2.out, fun _ => by omega⟩, on B.out hb⟩
    · obtain rfl : k = n := by omega
      have HN2 : Hid (Rf.many l = false) := by
        unfold Hid Rf.many
        rw [List.any_eq_false]
        intro x hx
        obtain ⟨j, hj, rfl⟩ := List.mem_iff_getElem.1 hx
        rw [HK.out j hj (by rw [← HL.out]; exact hj)]
        decide
      go_wp2
      go_ret
      exact ⟨-1, rfl, ⟨fun h => by omega, fun h => by rw [HN2.out] at h; cases h⟩, bel⟩

theorem shrHas_u (w : World) (P : Nat → Prop) (a : Option Addr) (n c : Nat) (l : List Cnr) (hL : rExts.rd w P [.slice a n c] l) (hn : n ≤ 1000000) :
    Calls Try.prog 16 #[.slice a n c, .func (.func 17) #[] #[]] w fun e w' => e = .returned (.bool (Rf.many l)) ∧ Below w.heap.size w w' := by
  have HF : Hid _ := shrIdx_u w P a n c l hL hn
  clear hL hn
  go_enter Try.func16, Try.ntmps16
  go_wp2_with (go_at_call 24; refine Calls.mono HF.out ?_; rintro e w1 ⟨k, rfl, hk, hb1⟩; have HK : Hid _ := hk; clear hk)
  go_ret
  refine ⟨?_, hb1⟩
  have : decide (0 ≤ k) = Rf.many l := by rw [Bool.eq_iff_iff, decide_eq_true_eq, HK.out]
  rw [← this]
  rfl

set_option maxHeartbeats 1000000 in
theorem shr1_u (w : World) (P : Nat → Prop) (a : Option Addr) (n c : Nat) (l : List Rfr) (hL : rRfrs.rd w P [.slice a n c] l) (hlow : ∀ x ∈ l, Rf.Low x) (hfew : l.length ≤ 9216) :
    Calls Try.prog 15 #[.slice a n c] w fun e w' => e = .returned (.bool (Rf.many (Rf.countsD l))) ∧ Below w.heap.size w w' := by
  have HR : Hid _ := hL
  have HLow : Hid (∀ x ∈ l, Rf.Low x) := hlow
  have HFw : Hid (l.length ≤ 9216) := hfew
  have HCf : Hid ((Rf.countsD l).length ≤ 65537) := Rf.counts_few hlow hfew
  clear hL hlow hfew
  go_enter Try.func15, Try.ntmps15
  go_wp2_with fail
  refine (counted_u _ _ _ _ _ l HR.out HLow.out HFw.out).mono ?_
  rintro e w3 ⟨b, rfl, ho2, b2⟩
  obtain ⟨a2, c2, hv2, -, -⟩ := ho2.slice
  subst hv2
  have HD3 : Hid (rExts.rd w3 (fun b => w.heap.size ≤ b) [.slice a2 (Rf.countsD l).length c2] (Rf.countsD l)) := ho2.rd (by have := HCf.out; omega)
  have B3 : Hid (Below w.heap.size w w3) := b2
  clear ho2 b2
  go_wp2_with fail
  refine (shrHas_u _ _ _ _ _ _ HD3.out (by have := HCf.out; omega)).mono ?_
  rintro e w4 ⟨rfl, b4⟩
  go_wp2
  go_ret
  exact ⟨rfl, on B3.out b4⟩

structure OwnB (t : TypeId) (w : World) (base : Nat) (v : Value) (r : Bool) : Prop where
  is : v = .bool r

theorem OwnB.nil (t : TypeId) (w : World) (base : Nat) : OwnB t w base (.bool false) false := ⟨rfl⟩

namespace Rf
def shrL (x : Spn) (M : List Mpr) : Bool := if whoE x M = 0 then many (countsD (whoR x M)) else false
theorem shrL_no {x : Spn} {M : List Mpr} (h : ¬ whoE x M = 0) : shrL x M = false := if_neg h
theorem shrL_ok {x : Spn} {M : List Mpr} (h : whoE x M = 0) : shrL x M = many (countsD (whoR x M)) := if_pos h
end Rf

set_option maxRecDepth 20000 in
set_option maxHeartbeats 4000000 in
theorem askedB_u (w : World) (P : Nat → Prop) (a : Option Addr) (n c : Nat) (M : List Mpr) (hM : rMps.rd w P [.slice a n c] M) (x : Spn) (hx : In2 x) :
    Calls Try.prog 14 #[.slice a n c, .agg #[.int .i64 x.1, .int .i64 x.2], .func (.func 15) #[] #[]] w fun e w' => ∃ b, e = .returned (.tuple #[b, .int .i64 (Rf.whoE x M)]) ∧ OwnB 4 w' w.heap.size b (Rf.shrL x M) ∧ Below w.heap.size w w' := by
  obtain ⟨w1, hw1, V1, b1, z1⟩ := boxedRow w 24 [.int .i64 x.1, .int .i64 x.2]
  obtain ⟨s0, s1⟩ : w1.cell? ⟨w.heap.size, 0, none⟩ = some (.int .i64 x.1) ∧ w1.cell? ⟨w.heap.size, 1, none⟩ = some (.int .i64 x.2) := ⟨V1.cell (j := 0) rfl, V1.cell (j := 1) rfl⟩
  have HV1 : Hid (Row w1 w.heap.size 24 [.int .i64 x.1, .int .i64 x.2]) := V1
  have B1 : Hid (Below w.heap.size w w1) := b1
  have HM1 : Hid (rMps.rd w1 P [.slice a n c] M) := Rep.below hM b1
  have HX : Hid (In2 x) := hx
  clear V1 b1 z1 hM hx
  by_cases hC : Rf.checkM M = 0
  · have HC : Hid (Rf.checkM M = 0) := hC
    by_cases hxx : x.1 < 0 ∨ x.2 < 1
    · have E4 : Hid (Rf.whoE x M = 4) := Rf.whoE_four hC hxx
      clear hC
      go_enter Try.func14, Try.ntmps14
      go_wp2_with fail
      refine (refsCheck_u _ P _ _ _ M HM1.out).mono ?_
      rintro e w2 ⟨rfl, b2⟩
      rw [HC.out]
      obtain ⟨t0, t1⟩ : w2.cell? ⟨w.heap.size, 0, none⟩ = some (.int .i64 x.1) ∧ w2.cell? ⟨w.heap.size, 1, none⟩ = some (.int .i64 x.2) := ⟨(HV1.out.below b2).cell (j := 0) rfl, (HV1.out.below b2).cell (j := 1) rfl⟩
      have B2 : Hid (Below w.heap.size w w2) := on B1.out b2
      clear b2
      by_cases h0 : x.1 < 0
      · go_wp2
        go_ret2
        exact ⟨_, by rw [E4.out]; rfl, by rw [Rf.shrL_no (by rw [E4.out]; decide)]; exact OwnB.nil _ _ _, B2.out⟩
      · have h1 : x.2 < 1 := by omega
        go_wp2
        go_ret2
        exact ⟨_, by rw [E4.out]; rfl, by rw [Rf.shrL_no (by rw [E4.out]; decide)]; exact OwnB.nil _ _ _, B2.out⟩
    · have E0 : Hid (Rf.whoE x M = 0) := Rf.whoE_zero.2 ⟨hC, by omega, by omega⟩
      have h0 : 0 ≤ x.1 := by omega
      have h1 : 1 ≤ x.2 := by omega
      clear hC hxx
      go_enter Try.func14, Try.ntmps14
      go_wp2_with fail
      refine (refsCheck_u _ P _ _ _ M HM1.out).mono ?_
      rintro e w2 ⟨rfl, b2⟩
      rw [HC.out]
      obtain ⟨t0, t1⟩ : w2.cell? ⟨w.heap.size, 0, none⟩ = some (.int .i64 x.1) ∧ w2.cell? ⟨w.heap.size, 1, none⟩ = some (.int .i64 x.2) := ⟨(HV1.out.below b2).cell (j := 0) rfl, (HV1.out.below b2).cell (j := 1) rfl⟩
      have B2 : Hid (Below w.heap.size w w2) := on B1.out b2
      have HM2 : Hid (rMps.rd w2 P [.slice a n c] M) := Rep.below HM1.out b2
      clear b2
      go_wp2_with fail
      refine (into_u _ P _ _ _ M HM2.out HC.out x h0 h1 HX.out).mono ?_
      rintro e w3 ⟨b, rfl, ho, b3⟩
      obtain ⟨a3, c3, rfl, -, -⟩ := ho.slice
      have HO3 : Hid (OwnR 57 w3 w2.heap.size _ _) := ho
      have B3 : Hid (Below w.heap.size w w3) := on B2.out b3
      have HZ2 : Hid (w.heap.size ≤ w2.heap.size) := B2.out.size
      clear ho b3
      go_wp2_with fail
      refine (shr1_u _ _ _ _ _ (Rf.whoR x M) (HO3.out.rd (by have := Rf.who_few (x := x) HC.out; omega)) (Rf.who_low HC.out) (Rf.who_few HC.out)).mono ?_
      rintro e w4 ⟨rfl, b4⟩
      have B4 : Hid (Below w.heap.size w w4) := on B3.out b4
      clear b4
      go_wp2
      go_ret2
      exact ⟨_, by rw [E0.out]; rfl, by rw [Rf.shrL_ok E0.out]; exact ⟨rfl⟩, B4.out⟩
  · have HC : Hid (Rf.checkM M = 9) := (Rf.checkM_or M).resolve_left hC
    have E9 : Hid (Rf.whoE x M = 9) := Rf.whoE_nine hC
    clear hC
    go_enter Try.func14, Try.ntmps14
    go_wp2_with fail
    refine (refsCheck_u _ P _ _ _ M HM1.out).mono ?_
    rintro e w2 ⟨rfl, b2⟩
    rw [HC.out]
    have B2 : Hid (Below w.heap.size w w2) := on B1.out b2
    clear b2
    go_wp2
    go_ret2
    exact ⟨_, by rw [E9.out]; rfl, by rw [Rf.shrL_no (by rw [E9.out]; decide)]; exact OwnB.nil _ _ _, B2.out⟩

set_option maxHeartbeats 2000000 in
theorem refsShared_u (w : World) (P : Nat → Prop) (a : Option Addr) (n c : Nat) (M : List Mpr) (hM : rMps.rd w P [.slice a n c] M) (x : Spn) (hx : In2 x) :
    Calls Try.prog 8 #[.slice a n c, .agg #[.int .i64 x.1, .int .i64 x.2]] w fun e w' => e = .returned (.tuple #[.bool (Rf.shrL x M), .int .i64 (Rf.whoE x M)]) ∧ Below w.heap.size w w' := by
  obtain ⟨w1, hw1, V1, b1, z1⟩ := boxedRow w 24 [.int .i64 x.1, .int .i64 x.2]
  obtain ⟨s0, s1⟩ : w1.cell? ⟨w.heap.size, 0, none⟩ = some (.int .i64 x.1) ∧ w1.cell? ⟨w.heap.size, 1, none⟩ = some (.int .i64 x.2) := ⟨V1.cell (j := 0) rfl, V1.cell (j := 1) rfl⟩
  have B1 : Hid (Below w.heap.size w w1) := b1
  have HM1 : Hid (rMps.rd w1 P [.slice a n c] M) := Rep.below hM b1
  have HX : Hid (In2 x) := hx
  clear V1 b1 z1 hM hx
  go_enter Try.func8, Try.ntmps8
  go_wp2_with fail
  refine (askedB_u _ P _ _ _ M HM1.out x HX.out).mono ?_
  rintro e w2 ⟨b, rfl, ⟨rfl⟩, b2⟩
  have B2 : Hid (Below w.heap.size w w2) := on B1.out b2
  clear b2
  go_wp2
  go_ret2
  exact ⟨rfl, B2.out⟩

end Go.Proofs.Ytinlgoljaiolnab
