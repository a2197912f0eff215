/-
  The landed free: Alloc, Highest and Room, at whatever state. Conditions: those that each contract names.
-/
import Derived.Test.YtbbjbajdoekheaaYB
import Derived.Test.YtbbjbajdoekheaaYT
import Derived.Test.YtbbjbajdoekheaaFTot
namespace Go.Proofs.Ytbbjbajdoekheaa
open Go.RowKit
set_option linter.unusedVariables false

set_option maxRecDepth 20000 in
set_option maxHeartbeats 4000000 in
theorem freeAlloc_u (w : World) (P : Nat → Prop) (z : Int) (a : Option Addr) (n c : Nat) (l : List Spn) (hL : rSpns.rd w P [.slice a n c] l) (q line : Int) (hq0 : -9223372036854775808 ≤ q) (hq : q ≤ 9223372036854775807) (hl2 : line ≤ 9223372036854775807) :
    Calls Try.prog 12 #[.agg #[.int .i64 z, .slice a n c], .int .i64 q, .int .i64 line] w fun e w' => ∃ v, e = .returned (.tuple #[.agg #[.int .i64 (Fr.allocZ z l q line), v], .int .i64 (Fr.bestA z l q line), .int .i64 (Fr.allocE z l q line)]) ∧ OwnS 26 w' w.heap.size v (Fr.allocL z l q line) ∧ Below w.heap.size w w' := by
  have HR : Hid _ := hL
  obtain ⟨w0, hw0, V0, b0, z0⟩ := boxedRow w 27 [.int .i64 z, .slice a n c]
  obtain ⟨w1, hw1, V1, b1, z1⟩ := boxedRow w0 27 [.int .i64 0, .slice none 0 0]
  rw [z0] at V1
  have HV0 : Hid (Row w1 w.heap.size 27 [.int .i64 z, .slice a n c]) := V0.below b1
  have HV1 : Hid (Row w1 (w.heap.size + 1) 27 [.int .i64 0, .slice none 0 0]) := V1
  have B1 : Hid (Below w.heap.size w w1) := on b0 b1
  obtain ⟨d0, d1⟩ := HV0.out.two
  clear hL V0 V1 b0 b1 z1
  by_cases hE : Fr.bestE z l q line = 0
  · have HA : Hid (Fr.allocE z l q line = Fr.takeE z l (Fr.bestA z l q line, q) ∧ Fr.allocL z l q line = Fr.takeL z l (Fr.bestA z l q line, q) ∧ Fr.allocZ z l q line = Fr.takeZ z l (Fr.bestA z l q line, q)) := ⟨if_pos hE, if_pos hE, if_pos hE⟩
    have HE : Hid (Fr.bestE z l q line = 0) := hE
    have hin := Fr.bestA_in (z := z) (l := l) (q := q) (line := line)
    rw [HA.out.1, HA.out.2.1, HA.out.2.2]
    obtain ⟨A, hA⟩ : ∃ A, Fr.bestA z l q line = A := ⟨_, rfl⟩
    rw [hA] at hin ⊢
    have HAA : Hid (Fr.bestA z l q line = A) := hA
    clear hE HA hA
    go_enter Try.func12, Try.ntmps12
    go_wp2_with fail
    refine (freeBest_u _ P z a n c l (Rep.below HR.out B1.out) q line hq hl2).mono ?_
    rintro e w2 ⟨rfl, b2⟩
    have B2 : Hid (Below w.heap.size w w2) := on B1.out b2
    have HW0 : Hid (Row w2 w.heap.size 27 [.int .i64 z, .slice a n c]) := HV0.out.below b2
    have HW1 : Hid (Row w2 (w.heap.size + 1) 27 [.int .i64 0, .slice none 0 0]) := HV1.out.below b2
    obtain ⟨f0, f1⟩ := HW0.out.two
    rw [HE.out, HAA.out]
    have HX : Hid (In2 (A, q)) := by unfold Hid In2 In64; simp only; omega
    clear b2 d0 d1 HE
    go_wp2_with fail
    refine (freeTake_u _ P z a n c l (Rep.below HR.out B2.out) (A, q) HX.out).mono ?_
    rintro e w3 ⟨v3, rfl, ho3, b3⟩
    have B3 : Hid (Below w.heap.size w w3) := on B2.out b3
    have HO3 : Hid (OwnS _ _ _ _ _) := ho3
    obtain ⟨a3, c3, hv3, -, -⟩ := ho3.slice
    subst hv3
    have HX1 : Hid (Row w3 (w.heap.size + 1) 27 [.int .i64 0, .slice none 0 0]) := HW1.out.below b3
    have HZ3 : Hid (w.heap.size + 1 < w2.heap.size) := HW1.out.lt
    obtain ⟨w4, hw4, V4, b4, z4⟩ := boxedRow w3 27 [.int .i64 (Fr.takeZ z l (A, q)), .slice a3 (Fr.takeL z l (A, q)).length c3]
    have hw4' : w4 = w3.alloc (.cells #[.int .i64 (Fr.takeZ z l (A, q)), .slice a3 (Fr.takeL z l (A, q)).length c3] 27) := hw4.symm
    have B4 : Hid (Below w.heap.size w w4) := on B3.out b4
    have HX4 : Hid (Row w4 (w.heap.size + 1) 27 [.int .i64 0, .slice none 0 0]) := HX1.out.below b4
    have HO4 : Hid (OwnS 26 w4 w2.heap.size (.slice a3 (Fr.takeL z l (A, q)).length c3) (Fr.takeL z l (A, q))) := HO3.out.below b4
    obtain ⟨r0, r1⟩ := HX4.out.two
    have r2 := HX4.out.frozen 0
    have r3 := HX4.out.frozen 1
    have x1 := V4.two.1
    have x2 := V4.two.2
    clear ho3 b3 V4 b4 z4 f0 f1 hw4
    subst hw4'
    go_wp2
    refine st_ret3 HX4.out B4.out (by omega) _ _ _ _ rfl rfl rfl rfl Try.underlying27 rfl (by kernel_rfl) ?_
    intro w' K' B'
    exact ⟨_, rfl, (HO4.out.kept K' HZ3.out).mono B2.out.size, B'⟩
  · have HA : Hid (Fr.allocE z l q line = Fr.bestE z l q line ∧ Fr.allocL z l q line = [] ∧ Fr.allocZ z l q line = 0) := ⟨if_neg hE, if_neg hE, if_neg hE⟩
    have HA0 : Hid (Fr.bestA z l q line = 0) := if_neg hE
    rw [HA.out.1, HA.out.2.1, HA.out.2.2, HA0.out]
    obtain ⟨E, hEE⟩ : ∃ E, Fr.bestE z l q line = E := ⟨_, rfl⟩
    rw [hEE] at hE ⊢
    have HEE : Hid _ := hEE
    have hE' : (E == 0) = false := beq_eq_false_iff_ne.2 hE
    clear hEE HA
    go_enter Try.func12, Try.ntmps12
    go_wp2_with fail
    refine (freeBest_u _ P z a n c l (Rep.below HR.out B1.out) q line hq hl2).mono ?_
    rintro e w2 ⟨rfl, b2⟩
    rw [HEE.out, HA0.out]
    have B2 : Hid (Below w.heap.size w w2) := on B1.out b2
    have HW1 : Hid (Row w2 (w.heap.size + 1) 27 [.int .i64 0, .slice none 0 0]) := HV1.out.below b2
    obtain ⟨r0, r1⟩ := HW1.out.two
    have r2 := HW1.out.frozen 0
    have r3 := HW1.out.frozen 1
    clear b2
    go_wp2
    refine st_ret3 HW1.out B2.out (by omega) _ _ _ _ rfl rfl rfl rfl Try.underlying27 rfl (by kernel_rfl) ?_
    intro w' K' B'
    exact ⟨_, rfl, OwnS.nil _ _ _, B'⟩

end Go.Proofs.Ytbbjbajdoekheaa
