/-
  The contracts of the document's own Flush, Crash, Read. Conditions: those that each contract names.
-/
import Derived.Test.YtckcicomkapdeaaRRefs
import Derived.Test.YtckcicomkapdeaaHCalls
import Derived.Test.YtckcicomkapdeaaRStepQ
namespace Go.Proofs.Ytckcicomkapdeaa
open Go.RowKit
set_option linter.unusedVariables false

set_option maxHeartbeats 2000000 in
theorem refFlush_u (w : World) (P : Nat → Prop) (cs : List Value) (s : Host) (hS : rHost.rd w P cs s) :
    Calls Try.prog 16 #[.agg cs.toArray] w (HAns w (Hst.flushS s) (Hst.checkE s)) := by
  have hS0 := hS
  obtain ⟨a, n, c, b, m, d, rfl, -, -, -, hm, hcp1, hcp2, -, hm9⟩ := rHost_cells hS
  have HM : Hid _ := hm
  obtain ⟨w0, hw0, -, -, -, b0, z0⟩ := boxed3 w 25 (.slice a n c) (.slice b m d) (.int .i64 s.2.2)
  obtain ⟨w1, hw1, -, -, -, b1, z1⟩ := boxed3 w0 25 (.slice none 0 0) (.slice none 0 0) (.int .i64 0)
  have x0 : Var3 w0 w.heap.size (.slice a n c) (.slice b m d) (.int .i64 s.2.2) := by rw [← hw0]; exact var3_new _ _ _ _ _
  have v1 : Var3 w1 w0.heap.size (.slice none 0 0) (.slice none 0 0) (.int .i64 0) := by rw [← hw1]; exact var3_new _ _ _ _ _
  have X1 : Hid _ := x0.below b1
  rw [z0] at v1
  have V1 : Hid _ := v1
  have bel : Below w.heap.size w w1 := on b0 b1
  have hs1 : w1.heap.size = w.heap.size + 2 := by omega
  have HS1 : Hid _ := Rep.below hS0 bel
  have q0 := X1.out.c0
  have q1 := X1.out.c1
  have q2 := X1.out.c2
  clear hS hS0 x0 v1 b0 b1 hm
  cases hok : Hst.ok s
  · have HE : Hid _ := Hst.check_bad' hok
    have e1 : Hst.flushS s = Hst.none := by simp [Hst.flushS, hok]
    rw [e1, HE.out]
    clear e1 hok
    go_enter Try.func16, Try.ntmps16
    go_wp2_with (go_at_call 27; refine (refCheck_u _ _ _ _ HS1.out).mono ?_; rintro e w2 ⟨rfl, b2⟩; rw [HE.out]; have V2 : Hid _ := V1.out.below b2; have X2 : Hid _ := X1.out.below b2; have y0 := X2.out.c0; have y1 := X2.out.c1; have y2 := X2.out.c2; have r0 := V2.out.c0; have r1 := V2.out.c1; have r2 := V2.out.c2; have f0 := V2.out.f 0; have f1 := V2.out.f 1; have f2 := V2.out.f 2)
    exact refused3 rfl rfl rfl V2.out Try.underlying25 rfl (by kernel_rfl) (on bel b2) (by omega)
  · have HE : Hid _ := Hst.check_ok' hok
    have HOK : Hid _ := hok
    have e1 : Hst.flushS s = Hst.settled s (fun i => true || Hst.those [] i) := by unfold Hst.flushS; rw [if_pos hok]; rfl
    rw [e1, HE.out]
    clear e1 hok
    go_enter Try.func16, Try.ntmps16
    go_wp2_with (first
      | (go_at_call 27; refine (refCheck_u _ _ _ _ HS1.out).mono ?_; rintro e w2 ⟨rfl, b2⟩; rw [HE.out]; have V2 : Hid _ := V1.out.below b2; have X2 : Hid _ := X1.out.below b2; have y0 := X2.out.c0; have y1 := X2.out.c1; have y2 := X2.out.c2; have r0 := V2.out.c0; have r1 := V2.out.c1; have r2 := V2.out.c2; have f0 := V2.out.f 0; have f1 := V2.out.f 1; have f2 := V2.out.f 2)
      | (go_at_call 40; refine (refSettled_u _ (fun _ => True) _ _ none 0 0 [] true (rHost.weaken (Rep.below HS1.out b2) (fun _ _ _ => trivial)) HOK.out (rBools_empty _ _)).mono ?_; rintro e w3 ⟨cs3, rfl, hr3, b3⟩; have hr3' := hr3; obtain ⟨a3, n3, c3, d3, m3, e3, rfl, -⟩ := rHost_cells hr3'; clear hr3'; have V3 : Hid _ := V2.out.below b3; have s0 := V3.out.c0; have s1 := V3.out.c1; have s2 := V3.out.c2; have g0 := V3.out.f 0; have g1 := V3.out.f 1; have g2 := V3.out.f 2))
    have hs2 := b2.size
    exact answered3 rfl rfl rfl V3.out Try.underlying25 rfl (by kernel_rfl) (on (on bel b2) b3) (by omega) hr3 (by omega) (by omega)

set_option maxHeartbeats 2000000 in
theorem refCrash_u (w : World) (P : Nat → Prop) (cs : List Value) (s : Host) (ka : Option Addr) (kn kc : Nat) (K : List Bool) (hS : rHost.rd w P cs s) (hK : rBools.rd w P [.slice ka kn kc] K) :
    Calls Try.prog 18 #[.agg cs.toArray, .slice ka kn kc] w (HAns w (Hst.crashS s K) (Hst.checkE s)) := by
  have hS0 := hS
  obtain ⟨a, n, c, b, m, d, rfl, -, -, -, hm, hcp1, hcp2, -, hm9⟩ := rHost_cells hS
  have HM : Hid _ := hm
  obtain ⟨w0, hw0, -, -, -, b0, z0⟩ := boxed3 w 25 (.slice a n c) (.slice b m d) (.int .i64 s.2.2)
  obtain ⟨w1, hw1, -, -, -, b1, z1⟩ := boxed3 w0 25 (.slice none 0 0) (.slice none 0 0) (.int .i64 0)
  have x0 : Var3 w0 w.heap.size (.slice a n c) (.slice b m d) (.int .i64 s.2.2) := by rw [← hw0]; exact var3_new _ _ _ _ _
  have v1 : Var3 w1 w0.heap.size (.slice none 0 0) (.slice none 0 0) (.int .i64 0) := by rw [← hw1]; exact var3_new _ _ _ _ _
  have X1 : Hid _ := x0.below b1
  rw [z0] at v1
  have V1 : Hid _ := v1
  have bel : Below w.heap.size w w1 := on b0 b1
  have hs1 : w1.heap.size = w.heap.size + 2 := by omega
  have HS1 : Hid _ := Rep.below hS0 bel
  have q0 := X1.out.c0
  have q1 := X1.out.c1
  have q2 := X1.out.c2
  clear hS hS0 x0 v1 b0 b1 hm
  have HK1 : Hid _ := Rep.below hK bel
  clear hK
  cases hok : Hst.ok s
  · have HE : Hid _ := Hst.check_bad' hok
    have e1 : Hst.crashS s K = Hst.none := by simp [Hst.crashS, hok]
    rw [e1, HE.out]
    clear e1 hok
    go_enter Try.func18, Try.ntmps18
    go_wp2_with (go_at_call 27; refine (refCheck_u _ _ _ _ HS1.out).mono ?_; rintro e w2 ⟨rfl, b2⟩; rw [HE.out]; have V2 : Hid _ := V1.out.below b2; have X2 : Hid _ := X1.out.below b2; have y0 := X2.out.c0; have y1 := X2.out.c1; have y2 := X2.out.c2; have r0 := V2.out.c0; have r1 := V2.out.c1; have r2 := V2.out.c2; have f0 := V2.out.f 0; have f1 := V2.out.f 1; have f2 := V2.out.f 2)
    exact refused3 rfl rfl rfl V2.out Try.underlying25 rfl (by kernel_rfl) (on bel b2) (by omega)
  · have HE : Hid _ := Hst.check_ok' hok
    have HOK : Hid _ := hok
    have e1 : Hst.crashS s K = Hst.settled s (fun i => false || Hst.those K i) := by unfold Hst.crashS; rw [if_pos hok]; rfl
    rw [e1, HE.out]
    clear e1 hok
    go_enter Try.func18, Try.ntmps18
    go_wp2_with (first
      | (go_at_call 27; refine (refCheck_u _ _ _ _ HS1.out).mono ?_; rintro e w2 ⟨rfl, b2⟩; rw [HE.out]; have V2 : Hid _ := V1.out.below b2; have X2 : Hid _ := X1.out.below b2; have y0 := X2.out.c0; have y1 := X2.out.c1; have y2 := X2.out.c2; have r0 := V2.out.c0; have r1 := V2.out.c1; have r2 := V2.out.c2; have f0 := V2.out.f 0; have f1 := V2.out.f 1; have f2 := V2.out.f 2)
      | (go_at_call 40; refine (refSettled_u _ P _ _ ka kn kc K false (Rep.below HS1.out b2) HOK.out (Rep.below HK1.out b2)).mono ?_; rintro e w3 ⟨cs3, rfl, hr3, b3⟩; have hr3' := hr3; obtain ⟨a3, n3, c3, d3, m3, e3, rfl, -⟩ := rHost_cells hr3'; clear hr3'; have V3 : Hid _ := V2.out.below b3; have s0 := V3.out.c0; have s1 := V3.out.c1; have s2 := V3.out.c2; have g0 := V3.out.f 0; have g1 := V3.out.f 1; have g2 := V3.out.f 2))
    have hs2 := b2.size
    exact answered3 rfl rfl rfl V3.out Try.underlying25 rfl (by kernel_rfl) (on (on bel b2) b3) (by omega) hr3 (by omega) (by omega)

set_option maxHeartbeats 2000000 in
theorem refRead_u (w : World) (P : Nat → Prop) (cs : List Value) (s : Host) (p : Int) (hS : rHost.rd w P cs s) :
    Calls Try.prog 20 #[.agg cs.toArray, .int .i64 p] w fun e w' => ∃ b n c, e = .returned (.tuple #[.slice b n c, .int .i64 (Hst.readE s p)]) ∧ rBytes.rd w' (fun k => w.heap.size ≤ k) [.slice b n c] (Hst.readL s p) ∧ Below w.heap.size w w' := by
  have hS0 := hS
  obtain ⟨a, n, c, b, m, d, rfl, -⟩ := rHost_cells hS
  obtain ⟨w0, hw0, p0, p1, p2, b0, z0⟩ := boxed3 w 25 (.slice a n c) (.slice b m d) (.int .i64 s.2.2)
  have HS0 : Hid _ := Rep.below hS0 b0
  have HRL : Hid (Hst.readL s p = if Hst.readE s p = 0 then (Hst.flushS s).1.getD p.toNat [] else []) := rfl
  clear hS0 hS
  go_enter Try.func20, Try.ntmps20
  go_wp2_with fail
  refine (refFlush_u _ _ _ _ HS0.out).mono ?_
  rintro e w2 ⟨cs2, rfl, hr2, b2⟩
  obtain ⟨a2, n2, c2, d2, m2, e2, rfl, hA2, -, hn2, -⟩ := rHost_cells hr2
  obtain ⟨v2, hv2, -, -, -, bv2, zv2⟩ := boxed3 w2 25 (.slice a2 n2 c2) (.slice d2 m2 e2) (.int .i64 (Hst.flushS s).2.2)
  have V2 : Hid (Var3 v2 w2.heap.size (.slice a2 n2 c2) (.slice d2 m2 e2) (.int .i64 (Hst.flushS s).2.2)) := by rw [← hv2]; exact var3_new _ _ _ _ _
  have HA2 : Hid _ := Rep.below hA2 bv2
  have HN2 : Hid _ := hn2
  have r0 := V2.out.c0
  have hz2 := b2.size
  have HZ : Hid _ := z0
  clear hr2 hA2 hn2 z0 zv2
  cases hok : Hst.ok s
  · have e1 : Hst.readE s p = 9 := by simp [Hst.readE, hok]
    have E1 : Hid _ := e1
    rw [Hst.check_bad' hok]
    clear e1
    go_wp2
    go_ret2
    rw [HRL.out, E1.out, if_neg (by decide)]
    exact ⟨none, 0, 0, rfl, rBytes_nil _ _, on (on b0 b2) bv2⟩
  · have e1 : Hst.readE s p = if 0 ≤ p ∧ p < (n2 : Int) then 0 else 4 := by unfold Hst.readE; rw [if_pos hok, HN2.out]
    have E1 : Hid _ := e1
    rw [Hst.check_ok' hok]
    clear e1 hok
    by_cases h1 : 0 ≤ p
    · by_cases h2 : p < (n2 : Int)
      · rw [if_pos ⟨h1, h2⟩] at E1
        obtain ⟨t, rfl⟩ : ∃ t : Nat, p = t := ⟨p.toNat, by omega⟩
        have ht : t < (Hst.flushS s).1.length := by rw [HN2.out]; omega
        obtain ⟨g, off, rfl, -, -, hat⟩ := rLists_at HA2.out (by omega)
        obtain ⟨x, l, e, hx, -, hcell⟩ := hat t ht
        have HX : Hid _ := hx
        clear hat hx
        go_wp2
        go_ret2
        have hHZ := HZ.out
        rw [HRL.out, E1.out, if_pos rfl]
        refine ⟨x, l, e, rfl, ?_, on (on b0 b2) bv2⟩
        rw [Int.toNat_natCast, List.getD_eq_getElem?_getD, List.getElem?_eq_getElem ht, Option.getD_some]
        exact rBytes.weaken HX.out (fun k hk _ => by have h3 : w0.heap.size ≤ k := hk; omega)
      · rw [if_neg (fun h => h2 h.2)] at E1
        have h3 : (n2 : Int) ≤ p := by omega
        clear h2
        go_wp2
        go_ret2
        rw [HRL.out, E1.out, if_neg (by decide)]
        exact ⟨none, 0, 0, rfl, rBytes_nil _ _, on (on b0 b2) bv2⟩
    · rw [if_neg (fun h => h1 h.1)] at E1
      have h3 : p < 0 := by omega
      clear h1
      go_wp2
      go_ret2
      rw [HRL.out, E1.out, if_neg (by decide)]
      exact ⟨none, 0, 0, rfl, rBytes_nil _ _, on (on b0 b2) bv2⟩

end Go.Proofs.Ytckcicomkapdeaa
