/-
  The contracts of the document's own Length, Flush, Crash, Read. Conditions: those that each contract names.
-/
import Derived.Test.YtckcicomkapdeaaRSettled
namespace Go.Proofs.Ytckcicomkapdeaa
open Go.RowKit
set_option linter.unusedVariables false

theorem Hst.check_ok' {s : Host} (h : Hst.ok s = true) : Hst.checkE s = 0 := by simp [Hst.checkE, h]
theorem Hst.check_bad' {s : Host} (h : Hst.ok s = false) : Hst.checkE s = 9 := by simp [Hst.checkE, h]
theorem rBools_empty (w : World) (P : Nat → Prop) : rBools.rd w P [.slice none 0 0] [] := ⟨none, 0, 0, rfl, rfl, Nat.le_refl _, fun _ => rfl, by decide, fun x hx => by cases hx⟩

theorem field0 (w : World) (a : Option Addr) (n c : Nat) (y z : Value) : (Instr.field 25 (.agg #[.slice a n c, y, z]) 0).run Try.prog w = .ok (.slice a n c) w := by
  simp [Instr.field, run_underlying Try.underlying25, asAgg, part, isAgg, run_underlying Try.underlying22]

set_option maxHeartbeats 800000 in
theorem refLength_u (w : World) (P : Nat → Prop) (cs : List Value) (s : Host) (hS : rHost.rd w P cs s) :
    Calls Try.prog 22 #[.agg cs.toArray] w fun e w' => e = .returned (.tuple #[.int .i64 (Hst.lengthN s : Int), .int .i64 (Hst.checkE s)]) ∧ Below w.heap.size w w' := by
  have hS0 := hS
  obtain ⟨a, n, c, b, m, d, rfl, -⟩ := rHost_cells hS
  obtain ⟨w0, hw0, p0, p1, p2, b0, z0⟩ := boxed3 w 25 (.slice a n c) (.slice b m d) (.int .i64 s.2.2)
  have HS0 : Hid _ := Rep.below hS0 b0
  clear hS0 hS
  cases hok : Hst.ok s
  · have e1 : Hst.checkE s = 9 := Hst.check_bad' hok
    have e2 : Hst.lengthN s = 0 := by simp [Hst.lengthN, hok]
    have E1 : Hid _ := e1
    rw [e1, e2]
    clear e1 e2
    go_enter Try.func22, Try.ntmps22
    go_wp2_with (go_at_call 27; refine (refCheck_u _ _ _ _ HS0.out).mono ?_; rintro e w1 ⟨rfl, b1⟩; rw [E1.out])
    go_ret2
    exact ⟨rfl, on b0 b1⟩
  · have e1 : Hst.checkE s = 0 := Hst.check_ok' hok
    have E1 : Hid _ := e1
    have HOK : Hid _ := hok
    have HL : Hid (Hst.lengthN s = (Hst.settled s (fun i => true || Hst.those [] i)).1.length) := by unfold Hid Hst.lengthN; rw [if_pos hok]; rfl
    rw [e1]
    have hf := field0
    clear e1 hok
    go_enter Try.func22, Try.ntmps22
    go_wp2_with (first
      | (go_at_call 27; refine (refCheck_u _ _ _ _ HS0.out).mono ?_; rintro e w1 ⟨rfl, b1⟩; rw [E1.out]; have q0 := (b1.cell (p := ⟨w.heap.size, 0, none⟩) (by show w.heap.size < _; omega)).trans p0; have q1 := (b1.cell (p := ⟨w.heap.size, 1, none⟩) (by show w.heap.size < _; omega)).trans p1; have q2 := (b1.cell (p := ⟨w.heap.size, 2, none⟩) (by show w.heap.size < _; omega)).trans p2)
      | (go_at_call 40; refine (refSettled_u _ (fun _ => True) _ _ none 0 0 [] true (rHost.weaken (Rep.below HS0.out b1) (fun _ _ _ => trivial)) HOK.out (rBools_empty _ _)).mono ?_; rintro e w2 ⟨cs2, rfl, hr2, b2⟩; obtain ⟨a2, n2, c2, d2, m2, e2, rfl, -, -, hn2, -⟩ := rHost_cells hr2; have HN2 : Hid _ := hn2; clear hn2 hr2))
    go_ret2
    exact ⟨by rw [HL.out, HN2.out]; rfl, on (on b0 b1) b2⟩

end Go.Proofs.Ytckcicomkapdeaa
