/-
  The contract of the program's host's Crash. Conditions: those that it names.
-/
import Derived.Test.YtckcicomkapdeaaHCalls2
namespace Go.Proofs.Ytckcicomkapdeaa
open Go.RowKit
set_option linter.unusedVariables false

set_option maxHeartbeats 2000000 in
theorem crash_u (w : World) (P : Nat → Prop) (cs : List Value) (s : Host) (ka : Option Addr) (kn kc : Nat) (K : List Bool) (hS : rHost.rd w P cs s) (hK : rBools.rd w P [.slice ka kn kc] K) :
    Calls Try.prog 17 #[.agg cs.toArray, .slice ka kn kc] w (HAns w (Hst.crashS s K) (Hst.checkE s)) := by
  have hS0 := hS
  obtain ⟨a, n, c, b, m, d, rfl, -, -, -, hm, hcp1, hcp2, -⟩ := rHost_cells hS
  have HM : Hid _ := hm
  obtain ⟨w0, hw0, -, -, -, b0, z0⟩ := boxed3 w 30 (.slice a n c) (.slice b m d) (.int .i64 s.2.2)
  obtain ⟨wk, hwk⟩ : ∃ wk, w0.alloc (.cells #[.slice ka kn kc] 27) = wk := ⟨_, rfl⟩
  have bk : Below w0.heap.size w0 wk := by rw [← hwk]; exact (Below.refl _ _).alloc (Nat.le_refl _) _
  have zk : wk.heap.size = w0.heap.size + 1 := by rw [← hwk]; simp
  have ck : wk.cell? ⟨w0.heap.size, 0, none⟩ = some (.slice ka kn kc) := by rw [← hwk]; simp
  obtain ⟨w1, hw1, -, -, -, b1, z1⟩ := boxed3 wk 30 (.slice none 0 0) (.slice none 0 0) (.int .i64 0)
  have ck1 := (b1.cell (p := ⟨w0.heap.size, 0, none⟩) (by show w0.heap.size < _; omega)).trans ck
  have x0 : Var3 w0 w.heap.size (.slice a n c) (.slice b m d) (.int .i64 s.2.2) := by rw [← hw0]; exact var3_new _ _ _ _ _
  have v1 : Var3 w1 wk.heap.size (.slice none 0 0) (.slice none 0 0) (.int .i64 0) := by rw [← hw1]; exact var3_new _ _ _ _ _
  have X1 : Hid _ := (x0.below bk).below b1
  rw [zk, z0] at v1
  rw [z0] at ck1
  have V1 : Hid _ := v1
  have bel : Below w.heap.size w w1 := on (on b0 bk) b1
  have hs1 : w1.heap.size = w.heap.size + 3 := by omega
  have HS1 : Hid _ := Rep.below hS0 bel
  have HK1 : Hid _ := Rep.below hK bel
  have q0 := X1.out.c0
  have q1 := X1.out.c1
  have q2 := X1.out.c2
  clear hS hS0 x0 v1 b0 b1 bk hm hK ck
  cases hok : Hst.ok s
  · have HE : Hid _ := Hst.check_bad hok
    have e1 : Hst.crashS s K = Hst.none := by simp [Hst.crashS, hok]
    rw [e1, HE.out]
    clear e1 hok
    go_enter Try.func17, Try.ntmps17
    go_wp2_with (go_at_call 26; refine (check_u _ _ _ _ HS1.out).mono ?_; rintro e w2 ⟨rfl, b2⟩; rw [HE.out]; have V2 : Hid _ := V1.out.below b2; have X2 : Hid _ := X1.out.below b2; have y0 := X2.out.c0; have y1 := X2.out.c1; have y2 := X2.out.c2; have r0 := V2.out.c0; have r1 := V2.out.c1; have r2 := V2.out.c2; have f0 := V2.out.f 0; have f1 := V2.out.f 1; have f2 := V2.out.f 2)
    exact refused3 rfl rfl rfl V2.out Try.underlying30 rfl (by kernel_rfl) (on bel b2) (by omega)
  · have HE : Hid _ := Hst.check_ok hok
    have HOK : Hid _ := hok
    rw [Hst.crash_ok K hok, HE.out]
    clear hok
    generalize hcap : s.2.2 = cap at *
    generalize hM : Hst.doneAll (Hst.those K) 0 s.1 s.2.1 = M at *
    have HMM : Hid _ := hM
    clear hM
    go_enter Try.func17, Try.ntmps17
    go_wp2_with (go_at_call 26; refine (check_u _ _ _ _ HS1.out).mono ?_; rintro e w2 ⟨rfl, b2⟩; rw [HE.out]; have V2 : Hid _ := V1.out.below b2; have X2 : Hid _ := X1.out.below b2; have y0 := X2.out.c0; have y1 := X2.out.c1; have y2 := X2.out.c2; have r0 := V2.out.c0; have r1 := V2.out.c1; have r2 := V2.out.c2; have f0 := V2.out.f 0; have f1 := V2.out.f 1; have f2 := V2.out.f 2)
    have HD : Hid (rHost.rd w2.drew P [.slice a n c, .slice b m d, .int .i64 cap] s) := Rep.below HS1.out b2.drew
    have CK2 : Hid (w2.drew.cell? ⟨w.heap.size + 1, 0, none⟩ = some (.slice ka kn kc)) := (b2.cell (p := ⟨w.heap.size + 1, 0, none⟩) (by show w.heap.size + 1 < _; omega)).trans ck1
    have HK2 : Hid (rBools.rd w2.drew P [.slice ka kn kc] K) := Rep.below HK1.out b2.drew
    go_region_law (first
      | (go_simp; go_at_call 38; refine (shownKeep_u _ _ _ _ ka kn kc (w.heap.size + 1) K HD.out HOK.out CK2.out HK2.out).mono ?_; rintro e w3 ⟨a3, n3, c3, rfl, hr3, bd3⟩; rw [HMM.out] at hr3; have b3 := same_drew bd3; clear bd3; have HR3 : Hid _ := hr3; clear hr3; have V3 : Hid _ := V2.out.below b3; have X3 : Hid _ := X2.out.below b3; have s0 := V3.out.c0; have s1 := V3.out.c1; have s2 := V3.out.c2; have g0 := V3.out.f 0; have g1 := V3.out.f 1; have g2 := V3.out.f 2; have t2 := X3.out.c2)
      | (go_simp; go_at_call 37; refine (laidAll_u _ _ a3 n3 c3 _ HR3.out).mono ?_; rintro e w4 ⟨a4, rfl, hr4, b4⟩; have HR4 : Hid _ := hr4; clear hr4; have V4 : Hid _ := V3.out.below b4; have X4 : Hid _ := X3.out.below b4; have u0 := V4.out.c0; have u1 := V4.out.c1; have u2 := V4.out.c2; have k0 := V4.out.f 0; have k1 := V4.out.f 1; have k2 := V4.out.f 2; have v2 := X4.out.c2))
    all_goals go_wp2
    all_goals
      have hs2 := b2.size
      have hs3 := b3.size
      exact answered3 rfl rfl rfl V4.out Try.underlying30 rfl (by kernel_rfl) (on (on (on bel b2) b3) b4) (by omega) (rHost_sectors HR4.out (by omega) (by omega)) (by omega) (by omega)

end Go.Proofs.Ytckcicomkapdeaa
