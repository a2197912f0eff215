/-
  The landed refs: Counts, Who, Refs, at whatever maps and sectors. Conditions: those that each contract names.
-/
import Derived.Test.YtinlgoljaiolnabNCnt
import Derived.Test.YtinlgoljaiolnabNInto
import Derived.Test.YtinlgoljaiolnabNChk
import Derived.Test.YtinlgoljaiolnabFRet
namespace Go.Proofs.Ytinlgoljaiolnab
open Go.RowKit
set_option linter.unusedVariables false

namespace Rf
def whoE (x : Spn) (M : List Mpr) : Int := if checkM M = 0 then (if x.1 < 0 ∨ x.2 < 1 then 4 else 0) else 9
def whoL (x : Spn) (M : List Mpr) : List Rfr := if whoE x M = 0 then whoR x M else []
def cntL (x : Spn) (M : List Mpr) : List Cnr := if whoE x M = 0 then countsD (whoR x M) else []
theorem whoE_zero {x : Spn} {M : List Mpr} : whoE x M = 0 ↔ checkM M = 0 ∧ 0 ≤ x.1 ∧ 1 ≤ x.2 := by
  unfold whoE
  split
  · rename_i h
    split
    · rename_i k; exact ⟨fun e => by simp at e, fun e => by omega⟩
    · rename_i k; exact ⟨fun _ => ⟨h, by omega, by omega⟩, fun _ => rfl⟩
  · rename_i h; exact ⟨fun e => by simp at e, fun e => absurd e.1 h⟩
theorem whoE_nine {x : Spn} {M : List Mpr} (h : ¬ checkM M = 0) : whoE x M = 9 := if_neg h
theorem whoE_four {x : Spn} {M : List Mpr} (h : checkM M = 0) (k : x.1 < 0 ∨ x.2 < 1) : whoE x M = 4 := by unfold whoE; rw [if_pos h, if_pos k]
theorem checkM_or (M : List Mpr) : checkM M = 0 ∨ checkM M = 9 := by unfold checkM; split <;> simp
theorem whoL_no {x : Spn} {M : List Mpr} (h : ¬ whoE x M = 0) : whoL x M = [] := if_neg h
theorem cntL_no {x : Spn} {M : List Mpr} (h : ¬ whoE x M = 0) : cntL x M = [] := if_neg h
theorem whoL_ok {x : Spn} {M : List Mpr} (h : whoE x M = 0) : whoL x M = whoR x M := if_pos h
theorem cntL_ok {x : Spn} {M : List Mpr} (h : whoE x M = 0) : cntL x M = countsD (whoR x M) := if_pos h
end Rf

set_option maxHeartbeats 800000 in
theorem allSectors_u (w : World) : Calls Try.prog 10 #[] w fun e w' => e = .returned (.agg #[.int .i64 0, .int .i64 65536]) ∧ Below w.heap.size w w' := by
  go_enter Try.func10, Try.ntmps10
  go_wp2
  exact bodyPost_ret (results_row (b := w.heap.size) (xs := [.int .i64 0, .int .i64 65536]) rfl rfl (row_new w 24 [.int .i64 0, .int .i64 65536]) Try.underlying24 rfl (by kernel_rfl)) rfl ⟨rfl, (Below.refl _ _).alloc (Nat.le_refl _) _⟩

set_option maxHeartbeats 400000 in
theorem whoSelf_u (w : World) (v : Value) : Calls Try.prog 13 #[v] w fun e w' => e = .returned v ∧ w = w' := by
  go_enter Try.func13, Try.ntmps13
  go_wp2
  go_ret
  exact ⟨rfl, rfl⟩

set_option maxRecDepth 20000 in
set_option maxHeartbeats 4000000 in
theorem askedR_u (w : World) (P : Nat → Prop) (a : Option Addr) (n c : Nat) (M : List Mpr) (hM : rMps.rd w P [.slice a n c] M) (x : Spn) (hx : In2 x) :
    Calls Try.prog 12 #[.slice a n c, .agg #[.int .i64 x.1, .int .i64 x.2], .func (.func 13) #[] #[]] w fun e w' => ∃ b, e = .returned (.tuple #[b, .int .i64 (Rf.whoE x M)]) ∧ OwnR 57 w' w.heap.size b (Rf.whoL x M) ∧ Below w.heap.size w w' := by
  obtain ⟨w1, hw1, V1, b1, z1⟩ := boxedRow w 24 [.int .i64 x.1, .int .i64 x.2]
  obtain ⟨s0, s1⟩ : w1.cell? ⟨w.heap.size, 0, none⟩ = some (.int .i64 x.1) ∧ w1.cell? ⟨w.heap.size, 1, none⟩ = some (.int .i64 x.2) := ⟨V1.cell (j := 0) rfl, V1.cell (j := 1) rfl⟩
  have HV1 : Hid (Row w1 w.heap.size 24 [.int .i64 x.1, .int .i64 x.2]) := V1
  have B1 : Hid (Below w.heap.size w w1) := b1
  have HM1 : Hid (rMps.rd w1 P [.slice a n c] M) := Rep.below hM b1
  have HX : Hid (In2 x) := hx
  clear V1 b1 z1 hM hx
  by_cases hC : Rf.checkM M = 0
  · have HC : Hid (Rf.checkM M = 0) := hC
    by_cases hxx : x.1 < 0 ∨ x.2 < 1
    · have E4 : Hid (Rf.whoE x M = 4) := Rf.whoE_four hC hxx
      clear hC
      go_enter Try.func12, Try.ntmps12
      go_wp2_with fail
      refine (refsCheck_u _ P _ _ _ M HM1.out).mono ?_
      rintro e w2 ⟨rfl, b2⟩
      rw [HC.out]
      obtain ⟨t0, t1⟩ : w2.cell? ⟨w.heap.size, 0, none⟩ = some (.int .i64 x.1) ∧ w2.cell? ⟨w.heap.size, 1, none⟩ = some (.int .i64 x.2) := ⟨(HV1.out.below b2).cell (j := 0) rfl, (HV1.out.below b2).cell (j := 1) rfl⟩
      have B2 : Hid (Below w.heap.size w w2) := on B1.out b2
      clear b2
      by_cases h0 : x.1 < 0
      · go_wp2
        go_ret2
        exact ⟨_, by rw [E4.out]; rfl, by rw [Rf.whoL_no (by rw [E4.out]; decide)]; exact OwnR.nil _ _ _, B2.out⟩
      · have h1 : x.2 < 1 := by omega
        go_wp2
        go_ret2
        exact ⟨_, by rw [E4.out]; rfl, by rw [Rf.whoL_no (by rw [E4.out]; decide)]; exact OwnR.nil _ _ _, B2.out⟩
    · have E0 : Hid (Rf.whoE x M = 0) := Rf.whoE_zero.2 ⟨hC, by omega, by omega⟩
      have h0 : 0 ≤ x.1 := by omega
      have h1 : 1 ≤ x.2 := by omega
      clear hC hxx
      go_enter Try.func12, Try.ntmps12
      go_wp2_with fail
      refine (refsCheck_u _ P _ _ _ M HM1.out).mono ?_
      rintro e w2 ⟨rfl, b2⟩
      rw [HC.out]
      obtain ⟨t0, t1⟩ : w2.cell? ⟨w.heap.size, 0, none⟩ = some (.int .i64 x.1) ∧ w2.cell? ⟨w.heap.size, 1, none⟩ = some (.int .i64 x.2) := ⟨(HV1.out.below b2).cell (j := 0) rfl, (HV1.out.below b2).cell (j := 1) rfl⟩
      have B2 : Hid (Below w.heap.size w w2) := on B1.out b2
      have HM2 : Hid (rMps.rd w2 P [.slice a n c] M) := Rep.below HM1.out b2
      clear b2
      go_wp2_with fail
      refine (into_u _ P _ _ _ M HM2.out HC.out x h0 h1 HX.out).mono ?_
      rintro e w3 ⟨b, rfl, ho, b3⟩
      obtain ⟨a3, c3, rfl, -, -⟩ := ho.slice
      have HO3 : Hid (OwnR 57 w3 w2.heap.size _ _) := ho
      have B3 : Hid (Below w.heap.size w w3) := on B2.out b3
      have HZ2 : Hid (w.heap.size ≤ w2.heap.size) := B2.out.size
      clear ho b3
      go_wp2_with fail
      refine (whoSelf_u _ _).mono ?_
      rintro e w9 ⟨rfl, rfl⟩
      go_wp2
      go_ret2
      exact ⟨_, by rw [E0.out]; rfl, by rw [Rf.whoL_ok E0.out]; exact HO3.out.mono HZ2.out, B3.out⟩
  · have HC : Hid (Rf.checkM M = 9) := (Rf.checkM_or M).resolve_left hC
    have E9 : Hid (Rf.whoE x M = 9) := Rf.whoE_nine hC
    clear hC
    go_enter Try.func12, Try.ntmps12
    go_wp2_with fail
    refine (refsCheck_u _ P _ _ _ M HM1.out).mono ?_
    rintro e w2 ⟨rfl, b2⟩
    rw [HC.out]
    have B2 : Hid (Below w.heap.size w w2) := on B1.out b2
    clear b2
    go_wp2
    go_ret2
    exact ⟨_, by rw [E9.out]; rfl, by rw [Rf.whoL_no (by rw [E9.out]; decide)]; exact OwnR.nil _ _ _, B2.out⟩

set_option maxRecDepth 20000 in
set_option maxHeartbeats 4000000 in
theorem askedC_u (w : World) (P : Nat → Prop) (a : Option Addr) (n c : Nat) (M : List Mpr) (hM : rMps.rd w P [.slice a n c] M) (x : Spn) (hx : In2 x) :
    Calls Try.prog 9 #[.slice a n c, .agg #[.int .i64 x.1, .int .i64 x.2], .func (.func 11) #[] #[]] w fun e w' => ∃ b, e = .returned (.tuple #[b, .int .i64 (Rf.whoE x M)]) ∧ OwnE 35 w' w.heap.size b (Rf.cntL x M) ∧ Below w.heap.size w w' := by
  obtain ⟨w1, hw1, V1, b1, z1⟩ := boxedRow w 24 [.int .i64 x.1, .int .i64 x.2]
  obtain ⟨s0, s1⟩ : w1.cell? ⟨w.heap.size, 0, none⟩ = some (.int .i64 x.1) ∧ w1.cell? ⟨w.heap.size, 1, none⟩ = some (.int .i64 x.2) := ⟨V1.cell (j := 0) rfl, V1.cell (j := 1) rfl⟩
  have HV1 : Hid (Row w1 w.heap.size 24 [.int .i64 x.1, .int .i64 x.2]) := V1
  have B1 : Hid (Below w.heap.size w w1) := b1
  have HM1 : Hid (rMps.rd w1 P [.slice a n c] M) := Rep.below hM b1
  have HX : Hid (In2 x) := hx
  clear V1 b1 z1 hM hx
  by_cases hC : Rf.checkM M = 0
  · have HC : Hid (Rf.checkM M = 0) := hC
    by_cases hxx : x.1 < 0 ∨ x.2 < 1
    · have E4 : Hid (Rf.whoE x M = 4) := Rf.whoE_four hC hxx
      clear hC
      go_enter Try.func9, Try.ntmps9
      go_wp2_with fail
      refine (refsCheck_u _ P _ _ _ M HM1.out).mono ?_
      rintro e w2 ⟨rfl, b2⟩
      rw [HC.out]
      obtain ⟨t0, t1⟩ : w2.cell? ⟨w.heap.size, 0, none⟩ = some (.int .i64 x.1) ∧ w2.cell? ⟨w.heap.size, 1, none⟩ = some (.int .i64 x.2) := ⟨(HV1.out.below b2).cell (j := 0) rfl, (HV1.out.below b2).cell (j := 1) rfl⟩
      have B2 : Hid (Below w.heap.size w w2) := on B1.out b2
      clear b2
      by_cases h0 : x.1 < 0
      · go_wp2
        go_ret2
        exact ⟨_, by rw [E4.out]; rfl, by rw [Rf.cntL_no (by rw [E4.out]; decide)]; exact OwnE.nil _ _ _, B2.out⟩
      · have h1 : x.2 < 1 := by omega
        go_wp2
        go_ret2
        exact ⟨_, by rw [E4.out]; rfl, by rw [Rf.cntL_no (by rw [E4.out]; decide)]; exact OwnE.nil _ _ _, B2.out⟩
    · have E0 : Hid (Rf.whoE x M = 0) := Rf.whoE_zero.2 ⟨hC, by omega, by omega⟩
      have h0 : 0 ≤ x.1 := by omega
      have h1 : 1 ≤ x.2 := by omega
      clear hC hxx
      go_enter Try.func9, Try.ntmps9
      go_wp2_with fail
      refine (refsCheck_u _ P _ _ _ M HM1.out).mono ?_
      rintro e w2 ⟨rfl, b2⟩
      rw [HC.out]
      obtain ⟨t0, t1⟩ : w2.cell? ⟨w.heap.size, 0, none⟩ = some (.int .i64 x.1) ∧ w2.cell? ⟨w.heap.size, 1, none⟩ = some (.int .i64 x.2) := ⟨(HV1.out.below b2).cell (j := 0) rfl, (HV1.out.below b2).cell (j := 1) rfl⟩
      have B2 : Hid (Below w.heap.size w w2) := on B1.out b2
      have HM2 : Hid (rMps.rd w2 P [.slice a n c] M) := Rep.below HM1.out b2
      clear b2
      go_wp2_with fail
      refine (into_u _ P _ _ _ M HM2.out HC.out x h0 h1 HX.out).mono ?_
      rintro e w3 ⟨b, rfl, ho, b3⟩
      obtain ⟨a3, c3, rfl, -, -⟩ := ho.slice
      have HO3 : Hid (OwnR 57 w3 w2.heap.size _ _) := ho
      have B3 : Hid (Below w.heap.size w w3) := on B2.out b3
      have HZ2 : Hid (w.heap.size ≤ w2.heap.size) := B2.out.size
      clear ho b3
      go_wp2_with fail
      refine (counted_u _ _ _ _ _ (Rf.whoR x M) (HO3.out.rd (by have := Rf.who_few (x := x) HC.out; omega)) (Rf.who_low HC.out) (Rf.who_few HC.out)).mono ?_
      rintro e w4 ⟨b, rfl, ho, b4⟩
      have HO4 : Hid (OwnE 35 w4 w3.heap.size _ _) := ho
      have B4 : Hid (Below w.heap.size w w4) := on B3.out b4
      clear ho b4
      go_wp2
      go_ret2
      exact ⟨_, by rw [E0.out]; rfl, by rw [Rf.cntL_ok E0.out]; exact HO4.out.mono B3.out.size, B4.out⟩
  · have HC : Hid (Rf.checkM M = 9) := (Rf.checkM_or M).resolve_left hC
    have E9 : Hid (Rf.whoE x M = 9) := Rf.whoE_nine hC
    clear hC
    go_enter Try.func9, Try.ntmps9
    go_wp2_with fail
    refine (refsCheck_u _ P _ _ _ M HM1.out).mono ?_
    rintro e w2 ⟨rfl, b2⟩
    rw [HC.out]
    have B2 : Hid (Below w.heap.size w w2) := on B1.out b2
    clear b2
    go_wp2
    go_ret2
    exact ⟨_, by rw [E9.out]; rfl, by rw [Rf.cntL_no (by rw [E9.out]; decide)]; exact OwnE.nil _ _ _, B2.out⟩

def allS : Spn := (0, 65536)

set_option maxHeartbeats 2000000 in
theorem refsCounts_u (w : World) (P : Nat → Prop) (a : Option Addr) (n c : Nat) (M : List Mpr) (hM : rMps.rd w P [.slice a n c] M) :
    Calls Try.prog 5 #[.slice a n c] w fun e w' => ∃ b, e = .returned (.tuple #[b, .int .i64 (Rf.whoE allS M)]) ∧ OwnE 35 w' w.heap.size b (Rf.cntL allS M) ∧ Below w.heap.size w w' := by
  have HM : Hid (rMps.rd w P [.slice a n c] M) := hM
  clear hM
  go_enter Try.func5, Try.ntmps5
  go_wp2_with fail
  refine (allSectors_u _).mono ?_
  rintro e w1 ⟨rfl, b1⟩
  have B1 : Hid (Below w.heap.size w w1) := b1
  have HM1 : Hid (rMps.rd w1 P [.slice a n c] M) := Rep.below HM.out b1
  clear b1
  go_wp2_with fail
  refine (askedC_u _ P _ _ _ M HM1.out allS (by unfold In2 In64 allS; decide)).mono ?_
  rintro e w2 ⟨b, rfl, ho, b2⟩
  have HO : Hid (OwnE 35 w2 w.heap.size b (Rf.cntL allS M)) := ho.mono B1.out.size
  have B2 : Hid (Below w.heap.size w w2) := on B1.out b2
  clear ho b2
  go_wp2
  go_ret2
  exact ⟨_, rfl, HO.out, B2.out⟩

set_option maxHeartbeats 2000000 in
theorem refsWho_u (w : World) (P : Nat → Prop) (a : Option Addr) (n c : Nat) (M : List Mpr) (hM : rMps.rd w P [.slice a n c] M) (x : Spn) (hx : In2 x) :
    Calls Try.prog 7 #[.slice a n c, .agg #[.int .i64 x.1, .int .i64 x.2]] w fun e w' => ∃ b, e = .returned (.tuple #[b, .int .i64 (Rf.whoE x M)]) ∧ OwnR 57 w' w.heap.size b (Rf.whoL x M) ∧ Below w.heap.size w w' := by
  obtain ⟨w1, hw1, V1, b1, z1⟩ := boxedRow w 24 [.int .i64 x.1, .int .i64 x.2]
  obtain ⟨s0, s1⟩ : w1.cell? ⟨w.heap.size, 0, none⟩ = some (.int .i64 x.1) ∧ w1.cell? ⟨w.heap.size, 1, none⟩ = some (.int .i64 x.2) := ⟨V1.cell (j := 0) rfl, V1.cell (j := 1) rfl⟩
  have B1 : Hid (Below w.heap.size w w1) := b1
  have HM1 : Hid (rMps.rd w1 P [.slice a n c] M) := Rep.below hM b1
  have HX : Hid (In2 x) := hx
  clear V1 b1 z1 hM hx
  go_enter Try.func7, Try.ntmps7
  go_wp2_with fail
  refine (askedR_u _ P _ _ _ M HM1.out x HX.out).mono ?_
  rintro e w2 ⟨b, rfl, ho, b2⟩
  have HO : Hid (OwnR 57 w2 w.heap.size b (Rf.whoL x M)) := ho.mono B1.out.size
  have B2 : Hid (Below w.heap.size w w2) := on B1.out b2
  clear ho b2
  go_wp2
  go_ret2
  exact ⟨_, rfl, HO.out, B2.out⟩

end Go.Proofs.Ytinlgoljaiolnab
