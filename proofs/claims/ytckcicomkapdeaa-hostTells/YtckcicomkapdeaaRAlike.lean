/-
  The contract of whether the program's host is the document's, of two that are one host. Conditions: those that it names.
-/
import Derived.Test.YtckcicomkapdeaaRows
import Derived.Test.YtckcicomkapdeaaRSame
import Derived.Test.YtckcicomkapdeaaRHBase
import Derived.Test.YtckcicomkapdeaaBSame
import Derived.Deep.QuietTactic
import Derived.BigQuiet
namespace Go.Proofs.Ytckcicomkapdeaa
open Go.RowKit
set_option linter.unusedVariables false

set_option maxHeartbeats 4000000 in
theorem alike_u (w : World) (P Q : Nat → Prop) (cs ds : List Value) (s : Host) (hS : rHost.rd w P cs s) (hT : rHost.rd w Q ds s) :
    Calls Try.prog 23 #[.agg cs.toArray, .agg ds.toArray] w fun e w' => e = .returned (.int .i64 0) ∧ Below w.heap.size w w' := by
  obtain ⟨a, n, c, b, m, d, rfl, hA, hW, hn, hm, hc1, hc2, hn2, hm2⟩ := rHost_cells hS
  obtain ⟨a', n', c', b', m', d', rfl, hA', hW', hn', hm', -, -, -, -⟩ := rHost_cells hT
  obtain rfl : n = n' := by rw [← hn, ← hn']
  obtain rfl : m = m' := by rw [← hm, ← hm']
  obtain ⟨L, W, cp⟩ := s
  obtain ⟨w0, hw0, -, -, -, b0, z0⟩ := boxed3 w 30 (.slice a n c) (.slice b m d) (.int .i64 cp)
  obtain ⟨w1, hw1, -, -, -, b1, z1⟩ := boxed3 w0 25 (.slice a' n c') (.slice b' m d') (.int .i64 cp)
  have x0 : Var3 w0 w.heap.size (.slice a n c) (.slice b m d) (.int .i64 cp) := by rw [← hw0]; exact var3_new _ _ _ _ _
  have y1 : Var3 w1 w0.heap.size (.slice a' n c') (.slice b' m d') (.int .i64 cp) := by rw [← hw1]; exact var3_new _ _ _ _ _
  have X1 : Hid _ := x0.below b1
  rw [z0] at y1
  have Y1 : Hid _ := y1
  have bel : Below w.heap.size w w1 := on b0 b1
  simp only at hn hm hA hW hA' hW' hc1 hc2
  have HA1 : Hid _ := Rep.below hA bel
  have HB1 : Hid _ := Rep.below hA' bel
  have hW1 := Rep.below hW bel
  have hV1 := Rep.below hW' bel
  have HM : Hid _ := hm
  have q0 := X1.out.c0
  have q1 := X1.out.c1
  have q2 := X1.out.c2
  have r0 := Y1.out.c0
  have r1 := Y1.out.c1
  have r2 := Y1.out.c2
  have hs1 : w1.heap.size = w.heap.size + 2 := by omega
  clear hS hT x0 y1 b0 b1 hA hW hA' hW' hn hm hn' hm'
  go_enter Try.func23, Try.ntmps23
  go_wp2_with (go_at_call 29; refine (sameList_r _ _ _ a a' n c n c' L L HA1.out HB1.out).mono ?_; rintro e w2 ⟨rfl, b2⟩; rw [beq_self_eq_true]; have X2 : Hid _ := X1.out.below b2; have Y2 : Hid _ := Y1.out.below b2; have s1 := X2.out.c1; have t1 := Y2.out.c1)
  have hW2 := Rep.below hW1 b2
  have hV2 := Rep.below hV1 b2
  have bel2 := on bel b2
  have hs2 := b2.size
  clear q0 q1 q2 r0 r1 r2 hw0 hw1 hW1 hV1 s1 t1
  go_loopw [5] (fun i wr => ∃ k : Nat, k ≤ m ∧ i = .int .i64 k ∧ Below w2.heap.size w2 wr) (fun i _ => m - (intOf i).toNat)
  case atStart => exact ⟨0, Nat.zero_le _, rfl, Below.refl _ _⟩
  case round =>
    obtain ⟨k, hk, rfl, bk⟩ := hrel
    have X3 : Hid _ := X2.out.below bk
    have Y3 : Hid _ := Y2.out.below bk
    have s1 := X3.out.c1
    have t1 := Y3.out.c1
    by_cases hlt : k < m
    · have hWr := Rep.below hW2 bk
      have hVr := Rep.below hV2 bk
      have hkl : k < W.length := by rw [HM.out]; exact hlt
      obtain ⟨g, off, rfl, -, hgl, hat⟩ := rWaits_at hWr (by omega)
      obtain ⟨g', off', rfl, -, hgl', hbt⟩ := rWaits_at hVr (by omega)
      obtain ⟨x, l, e, hx, -, c0, c1, c2, -, -⟩ := hat k hkl
      obtain ⟨x', l', e', hx', -, d0, d1, d2, -, -⟩ := hbt k hkl
      have HX : Hid _ := (rBytes_isB hx).1
      have HX' : Hid _ := (rBytes_isB hx').1
      have hI : (k : Int) < (m : Int) := by omega
      clear hat hbt hWr hVr hx hx'
      generalize W[k].1 = what at *
      generalize W[k].2.1 = pos at *
      generalize W[k].2.2 = Y at *
      have e1 : (what != what) = false := bne_self_eq_false _
      have e2 : (pos != pos) = false := bne_self_eq_false _
      have HSAME : Hid (∀ nn, Calls Try.prog 25 #[.slice x l e, .slice x' l' e'] (wr.drewN nn) fun e w' => e = .returned (.bool true) ∧ w' = wr.drewN nn) := by
        intro nn
        have h1 : IsB (wr.drewN nn) x l Y := HX.out
        have h2 : IsB (wr.drewN nn) x' l' Y := HX'.out
        refine (sameBytes_any _ x x' l e l' e' Y Y h1 h2).mono ?_
        rintro e w' ⟨rfl, rfl⟩
        exact ⟨by rw [beq_self_eq_true], rfl⟩
      go_wp2
      go_quiet ((go_at_call 25; exact Calls.quiet_of_same (HSAME.out _)))
      go_wp2
      go_roundw
      case rel => exact ⟨k + 1, by omega, by go_num, below_drewN bk _⟩
      case measure => simp [intOf]; omega
    · obtain rfl : k = m := by omega
      go_wp2
      go_ret
      exact ⟨rfl, on bel2 bk⟩

end Go.Proofs.Ytckcicomkapdeaa
