/-
  The contracts of the program's host: Write, Resize, Flush, Read, Crash. Conditions: those that each contract names.
-/
import Derived.Test.YtckcicomkapdeaaHCalls
namespace Go.Proofs.Ytckcicomkapdeaa
open Go.RowKit
set_option linter.unusedVariables false

theorem Hst.check_ok {s : Host} (h : Hst.ok s = true) : Hst.checkE s = 0 := by simp [Hst.checkE, h]
theorem Hst.check_bad {s : Host} (h : Hst.ok s = false) : Hst.checkE s = 9 := by simp [Hst.checkE, h]

set_option maxHeartbeats 2000000 in
theorem write_u (w : World) (P : Nat → Prop) (cs : List Value) (s : Host) (p : Int) (x : Option Addr) (k0 d0 : Nat) (D : List UInt8) (hp1 : -9223372036854775808 ≤ p) (hp2 : p ≤ 9223372036854775807) (hS : rHost.rd w P cs s) (hx : rBytes.rd w P [.slice x k0 d0] D) :
    Calls Try.prog 11 #[.agg cs.toArray, .int .i64 p, .slice x k0 d0] w (HAns w (Hst.writeS s p D) (Hst.writeE s p D)) := by
  have hS0 := hS
  obtain ⟨a, n, c, b, m, d, rfl, -, -, -, hm, -⟩ := rHost_cells hS
  have HM : Hid _ := hm
  obtain ⟨w0, hw0, -, -, -, b0, z0⟩ := boxed3 w 30 (.slice a n c) (.slice b m d) (.int .i64 s.2.2)
  obtain ⟨w1, hw1, -, -, -, b1, z1⟩ := boxed3 w0 30 (.slice none 0 0) (.slice none 0 0) (.int .i64 0)
  have x0 : Var3 w0 w.heap.size (.slice a n c) (.slice b m d) (.int .i64 s.2.2) := by rw [← hw0]; exact var3_new _ _ _ _ _
  have v1 : Var3 w1 w0.heap.size (.slice none 0 0) (.slice none 0 0) (.int .i64 0) := by rw [← hw1]; exact var3_new _ _ _ _ _
  have X1 : Hid _ := x0.below b1
  rw [z0] at v1
  have V1 : Hid _ := v1
  have bel : Below w.heap.size w w1 := on b0 b1
  have hs1 : w1.heap.size = w.heap.size + 2 := by omega
  have HS1 : Hid _ := Rep.below hS0 bel
  have HX1 : Hid _ := Rep.below hx bel
  have hxl : D.length = k0 := (rBytes_isB hx).1.1
  have HXL : Hid _ := hxl
  have q0 := X1.out.c0
  have q1 := X1.out.c1
  have q2 := X1.out.c2
  clear hS hS0 hx x0 v1 b0 b1 hm hxl
  by_cases hE : Hst.readE s p = 0
  · have HE : Hid _ := hE
    have HW := Hst.write_taken D hE
    have hz := (Hst.readE_zero.1 hE)
    have HZ : Hid _ := hz
    have HWS : Hid (Hst.writeS s p D = if Hst.writeE s p D = 0 then (s.1, s.2.1 ++ [(1, p, D)], s.2.2) else Hst.none) := rfl
    rw [HWS.out, HW, HXL.out, HM.out]
    have hm4 : m ≤ 4096 := by have := (Hst.ok_parts hz.1).2.2.1; rw [HM.out] at this; exact this
    clear hE HW hz
    by_cases h64 : k0 = 64
    · by_cases h4 : m = 4096
      · subst h4 h64
        simp only [if_true, Nat.lt_irrefl, if_false]
        go_enter Try.func11, Try.ntmps11
        go_wp2_with (go_at_call 33; refine (place_u _ _ _ _ p HS1.out).mono ?_; rintro e w2 ⟨rfl, b2⟩; rw [HE.out]; have V2 : Hid _ := V1.out.below b2; have X2 : Hid _ := X1.out.below b2; have y1 := X2.out.c1; have r0 := V2.out.c0; have r1 := V2.out.c1; have r2 := V2.out.c2; have f0 := V2.out.f 0; have f1 := V2.out.f 1; have f2 := V2.out.f 2)
        exact refused3 rfl rfl rfl V2.out Try.underlying30 rfl (by kernel_rfl) (on bel b2) (by omega)
      · subst h64
        have h5 : m < 4096 := by omega
        have hne : ((m : Int) == 4096) = false := beq_eq_false_iff_ne.2 (by omega)
        have HO : Hid (Hst.actOk s.2.2 (1, p, D) = true) := by
          have h1 := HZ.out
          have h2 := Hst.lengthN_le h1.1
          have h3 : p < s.2.2 := by omega
          have h4 : D.length = 64 := HXL.out
          unfold Hid
          simp [Hst.actOk, Hst.isWrite, h1.2.1, h3, h4]
        simp only [if_true, h5]
        clear h4
        go_enter Try.func11, Try.ntmps11
        go_wp2_with (first
          | (go_at_call 33; refine (place_u _ _ _ _ p HS1.out).mono ?_; rintro e w2 ⟨rfl, b2⟩; rw [HE.out]; have V2 : Hid _ := V1.out.below b2; have X2 : Hid _ := X1.out.below b2; have y0 := X2.out.c0; have y1 := X2.out.c1; have y2 := X2.out.c2)
          | (go_at_call 34; refine (withAct_u _ _ _ _ (1, p, D) x 64 d0 (Rep.below HS1.out b2) (Rep.below HX1.out b2) (by constructor <;> simp) ⟨hp1, hp2⟩ HZ.out.1 HO.out).mono ?_; rintro e w3 ⟨cs3, rfl, hr3, b3⟩; have hr3' := hr3; obtain ⟨a3, n3, c3, d3, m3, e3, rfl, -⟩ := rHost_cells hr3'; clear hr3'; have V3 : Hid _ := V2.out.below b3; have r0 := V3.out.c0; have r1 := V3.out.c1; have r2 := V3.out.c2; have f0 := V3.out.f 0; have f1 := V3.out.f 1; have f2 := V3.out.f 2))
        have hs2 := b2.size
        exact answered3 rfl rfl rfl V3.out Try.underlying30 rfl (by kernel_rfl) (on (on bel b2) b3) (by omega) hr3 (by omega) (by omega)
    · have hne : ((k0 : Int) != 64) = true := bne_iff_ne.2 (by omega)
      rw [if_neg h64]
      simp only [Int.one_ne_zero, if_false]
      clear h64
      go_enter Try.func11, Try.ntmps11
      go_wp2_with (go_at_call 33; refine (place_u _ _ _ _ p HS1.out).mono ?_; rintro e w2 ⟨rfl, b2⟩; rw [HE.out]; have V2 : Hid _ := V1.out.below b2; have X2 : Hid _ := X1.out.below b2; have r0 := V2.out.c0; have r1 := V2.out.c1; have r2 := V2.out.c2; have f0 := V2.out.f 0; have f1 := V2.out.f 1; have f2 := V2.out.f 2)
      exact refused3 rfl rfl rfl V2.out Try.underlying30 rfl (by kernel_rfl) (on bel b2) (by omega)
  · obtain ⟨e1, e2⟩ := Hst.write_refused D hE
    rw [e1, e2]
    have hne : (Hst.readE s p != 0) = true := bne_iff_ne.2 hE
    clear e1 e2 hE
    go_enter Try.func11, Try.ntmps11
    go_wp2_with (go_at_call 33; refine (place_u _ _ _ _ p HS1.out).mono ?_; rintro e w2 ⟨rfl, b2⟩; have V2 : Hid _ := V1.out.below b2; have r0 := V2.out.c0; have r1 := V2.out.c1; have r2 := V2.out.c2; have f0 := V2.out.f 0; have f1 := V2.out.f 1; have f2 := V2.out.f 2)
    exact refused3 rfl rfl rfl V2.out Try.underlying30 rfl (by kernel_rfl) (on bel b2) (by omega)

set_option maxHeartbeats 2000000 in
theorem resize_u (w : World) (P : Nat → Prop) (cs : List Value) (s : Host) (p : Int) (hp1 : -9223372036854775808 ≤ p) (hp2 : p ≤ 9223372036854775807) (hS : rHost.rd w P cs s) :
    Calls Try.prog 13 #[.agg cs.toArray, .int .i64 p] w (HAns w (Hst.resizeS s p) (Hst.resizeE s p)) := by
  have hS0 := hS
  obtain ⟨a, n, c, b, m, d, rfl, -, -, -, hm, hcp1, hcp2, -⟩ := rHost_cells hS
  have HM : Hid _ := hm
  obtain ⟨w0, hw0, -, -, -, b0, z0⟩ := boxed3 w 30 (.slice a n c) (.slice b m d) (.int .i64 s.2.2)
  obtain ⟨w1, hw1, -, -, -, b1, z1⟩ := boxed3 w0 30 (.slice none 0 0) (.slice none 0 0) (.int .i64 0)
  have x0 : Var3 w0 w.heap.size (.slice a n c) (.slice b m d) (.int .i64 s.2.2) := by rw [← hw0]; exact var3_new _ _ _ _ _
  have v1 : Var3 w1 w0.heap.size (.slice none 0 0) (.slice none 0 0) (.int .i64 0) := by rw [← hw1]; exact var3_new _ _ _ _ _
  have X1 : Hid _ := x0.below b1
  rw [z0] at v1
  have V1 : Hid _ := v1
  have bel : Below w.heap.size w w1 := on b0 b1
  have hs1 : w1.heap.size = w.heap.size + 2 := by omega
  have HS1 : Hid _ := Rep.below hS0 bel
  have q0 := X1.out.c0
  have q1 := X1.out.c1
  have q2 := X1.out.c2
  clear hS hS0 x0 v1 b0 b1 hm
  have HWS : Hid (Hst.resizeS s p = if Hst.resizeE s p = 0 then (s.1, s.2.1 ++ [(2, p, [])], s.2.2) else Hst.none) := rfl
  cases hok : Hst.ok s
  · have HE : Hid _ := Hst.check_bad hok
    have e1 : Hst.resizeE s p = 9 := by simp [Hst.resizeE, hok]
    rw [HWS.out, e1]
    simp only [show ¬ (9 : Int) = 0 from by decide, if_false]
    clear e1 hok
    go_enter Try.func13, Try.ntmps13
    go_wp2_with (go_at_call 26; refine (check_u _ _ _ _ HS1.out).mono ?_; rintro e w2 ⟨rfl, b2⟩; rw [HE.out]; have V2 : Hid _ := V1.out.below b2; have X2 : Hid _ := X1.out.below b2; have y0 := X2.out.c0; have y1 := X2.out.c1; have y2 := X2.out.c2; have r0 := V2.out.c0; have r1 := V2.out.c1; have r2 := V2.out.c2; have f0 := V2.out.f 0; have f1 := V2.out.f 1; have f2 := V2.out.f 2)
    exact refused3 rfl rfl rfl V2.out Try.underlying30 rfl (by kernel_rfl) (on bel b2) (by omega)
  · have HE : Hid _ := Hst.check_ok hok
    have HOK : Hid _ := hok
    have e1 : Hst.resizeE s p = if 0 ≤ p then (if p ≤ s.2.2 ∧ m < 4096 then 0 else 51) else 4 := by unfold Hst.resizeE; rw [if_pos hok, HM.out]
    have hm4 : m ≤ 4096 := by have := (Hst.ok_parts hok).2.2.1; rw [HM.out] at this; exact this
    rw [HWS.out, e1]
    clear e1 hok
    by_cases hp0 : 0 ≤ p
    · rw [if_pos hp0]
      by_cases hpc : p ≤ s.2.2
      · by_cases hm5 : m < 4096
        · have hne : ((m : Int) == 4096) = false := beq_eq_false_iff_ne.2 (by omega)
          have HO : Hid (Hst.actOk s.2.2 (2, p, []) = true) := by
            unfold Hid
            simp [Hst.actOk, Hst.isLen, hp0, hpc]
          rw [show (if p ≤ s.2.2 ∧ m < 4096 then (0 : Int) else 51) = 0 from if_pos ⟨hpc, hm5⟩]
          simp only [if_true]
          generalize hcap : s.2.2 = cap at *
          go_enter Try.func13, Try.ntmps13
          go_wp2_with (first
            | (go_at_call 26; refine (check_u _ _ _ _ HS1.out).mono ?_; rintro e w2 ⟨rfl, b2⟩; rw [HE.out]; have V2 : Hid _ := V1.out.below b2; have X2 : Hid _ := X1.out.below b2; have y0 := X2.out.c0; have y1 := X2.out.c1; have y2 := X2.out.c2; have r0 := V2.out.c0; have r1 := V2.out.c1; have r2 := V2.out.c2; have f0 := V2.out.f 0; have f1 := V2.out.f 1; have f2 := V2.out.f 2)
            | (go_at_call 34; refine (withAct_u _ _ _ _ (2, p, []) none 0 0 (Rep.below HS1.out b2) (rBytes_nil _ _) (by constructor <;> simp) ⟨hp1, hp2⟩ HOK.out (by rw [hcap]; exact HO.out)).mono ?_; rintro e w3 ⟨cs3, rfl, hr3, b3⟩; have hr3' := hr3; obtain ⟨a3, n3, c3, d3, m3, e3, rfl, -⟩ := rHost_cells hr3'; clear hr3'; have V3 : Hid _ := V2.out.below b3; have s0 := V3.out.c0; have s1 := V3.out.c1; have s2 := V3.out.c2; have g0 := V3.out.f 0; have g1 := V3.out.f 1; have g2 := V3.out.f 2))
          have hs2 := b2.size
          rw [hcap] at hr3
          exact answered3 rfl rfl rfl V3.out Try.underlying30 rfl (by kernel_rfl) (on (on bel b2) b3) (by omega) hr3 (by omega) (by omega)
        · obtain rfl : m = 4096 := by omega
          rw [show (if p ≤ s.2.2 ∧ 4096 < 4096 then (0 : Int) else 51) = 51 from if_neg (fun h => hm5 h.2)]
          simp only [show ¬ (51 : Int) = 0 from by decide, if_false]
          generalize s.2.2 = cap at *
          go_enter Try.func13, Try.ntmps13
          go_wp2_with (go_at_call 26; refine (check_u _ _ _ _ HS1.out).mono ?_; rintro e w2 ⟨rfl, b2⟩; rw [HE.out]; have V2 : Hid _ := V1.out.below b2; have X2 : Hid _ := X1.out.below b2; have y0 := X2.out.c0; have y1 := X2.out.c1; have y2 := X2.out.c2; have r0 := V2.out.c0; have r1 := V2.out.c1; have r2 := V2.out.c2; have f0 := V2.out.f 0; have f1 := V2.out.f 1; have f2 := V2.out.f 2)
          exact refused3 rfl rfl rfl V2.out Try.underlying30 rfl (by kernel_rfl) (on bel b2) (by omega)
      · rw [show (if p ≤ s.2.2 ∧ m < 4096 then (0 : Int) else 51) = 51 from if_neg (fun h => hpc h.1)]
        simp only [show ¬ (51 : Int) = 0 from by decide, if_false]
        generalize s.2.2 = cap at *
        go_enter Try.func13, Try.ntmps13
        go_wp2_with (go_at_call 26; refine (check_u _ _ _ _ HS1.out).mono ?_; rintro e w2 ⟨rfl, b2⟩; rw [HE.out]; have V2 : Hid _ := V1.out.below b2; have X2 : Hid _ := X1.out.below b2; have y0 := X2.out.c0; have y1 := X2.out.c1; have y2 := X2.out.c2; have r0 := V2.out.c0; have r1 := V2.out.c1; have r2 := V2.out.c2; have f0 := V2.out.f 0; have f1 := V2.out.f 1; have f2 := V2.out.f 2)
        all_goals exact refused3 rfl rfl rfl V2.out Try.underlying30 rfl (by kernel_rfl) (on bel b2) (by omega)
    · rw [if_neg hp0]
      simp only [show ¬ (4 : Int) = 0 from by decide, if_false]
      have hp3 : p < 0 := by omega
      go_enter Try.func13, Try.ntmps13
      go_wp2_with (go_at_call 26; refine (check_u _ _ _ _ HS1.out).mono ?_; rintro e w2 ⟨rfl, b2⟩; rw [HE.out]; have V2 : Hid _ := V1.out.below b2; have X2 : Hid _ := X1.out.below b2; have y0 := X2.out.c0; have y1 := X2.out.c1; have y2 := X2.out.c2; have r0 := V2.out.c0; have r1 := V2.out.c1; have r2 := V2.out.c2; have f0 := V2.out.f 0; have f1 := V2.out.f 1; have f2 := V2.out.f 2)
      exact refused3 rfl rfl rfl V2.out Try.underlying30 rfl (by kernel_rfl) (on bel b2) (by omega)

set_option maxHeartbeats 2000000 in
theorem flush_u (w : World) (P : Nat → Prop) (cs : List Value) (s : Host) (hS : rHost.rd w P cs s) :
    Calls Try.prog 15 #[.agg cs.toArray] w (HAns w (Hst.flushS s) (Hst.checkE s)) := by
  have hS0 := hS
  obtain ⟨a, n, c, b, m, d, rfl, -, -, -, hm, hcp1, hcp2, -⟩ := rHost_cells hS
  have HM : Hid _ := hm
  obtain ⟨w0, hw0, -, -, -, b0, z0⟩ := boxed3 w 30 (.slice a n c) (.slice b m d) (.int .i64 s.2.2)
  obtain ⟨w1, hw1, -, -, -, b1, z1⟩ := boxed3 w0 30 (.slice none 0 0) (.slice none 0 0) (.int .i64 0)
  have x0 : Var3 w0 w.heap.size (.slice a n c) (.slice b m d) (.int .i64 s.2.2) := by rw [← hw0]; exact var3_new _ _ _ _ _
  have v1 : Var3 w1 w0.heap.size (.slice none 0 0) (.slice none 0 0) (.int .i64 0) := by rw [← hw1]; exact var3_new _ _ _ _ _
  have X1 : Hid _ := x0.below b1
  rw [z0] at v1
  have V1 : Hid _ := v1
  have bel : Below w.heap.size w w1 := on b0 b1
  have hs1 : w1.heap.size = w.heap.size + 2 := by omega
  have HS1 : Hid _ := Rep.below hS0 bel
  have q0 := X1.out.c0
  have q1 := X1.out.c1
  have q2 := X1.out.c2
  clear hS hS0 x0 v1 b0 b1 hm
  cases hok : Hst.ok s
  · have HE : Hid _ := Hst.check_bad hok
    have e1 : Hst.flushS s = Hst.none := by simp [Hst.flushS, hok]
    rw [e1, HE.out]
    clear e1 hok
    go_enter Try.func15, Try.ntmps15
    go_wp2_with (go_at_call 26; refine (check_u _ _ _ _ HS1.out).mono ?_; rintro e w2 ⟨rfl, b2⟩; rw [HE.out]; have V2 : Hid _ := V1.out.below b2; have X2 : Hid _ := X1.out.below b2; have y0 := X2.out.c0; have y1 := X2.out.c1; have y2 := X2.out.c2; have r0 := V2.out.c0; have r1 := V2.out.c1; have r2 := V2.out.c2; have f0 := V2.out.f 0; have f1 := V2.out.f 1; have f2 := V2.out.f 2)
    exact refused3 rfl rfl rfl V2.out Try.underlying30 rfl (by kernel_rfl) (on bel b2) (by omega)
  · have HE : Hid _ := Hst.check_ok hok
    have HOK : Hid _ := hok
    rw [Hst.flush_ok hok, HE.out]
    clear hok
    generalize hcap : s.2.2 = cap at *
    generalize hM : Hst.doneAll (Hst.all) 0 s.1 s.2.1 = M at *
    have HMM : Hid _ := hM
    clear hM
    go_enter Try.func15, Try.ntmps15
    go_wp2_with (go_at_call 26; refine (check_u _ _ _ _ HS1.out).mono ?_; rintro e w2 ⟨rfl, b2⟩; rw [HE.out]; have V2 : Hid _ := V1.out.below b2; have X2 : Hid _ := X1.out.below b2; have y0 := X2.out.c0; have y1 := X2.out.c1; have y2 := X2.out.c2; have r0 := V2.out.c0; have r1 := V2.out.c1; have r2 := V2.out.c2; have f0 := V2.out.f 0; have f1 := V2.out.f 1; have f2 := V2.out.f 2)
    have HD : Hid (rHost.rd w2.drew P [.slice a n c, .slice b m d, .int .i64 cap] s) := Rep.below HS1.out b2.drew
    go_region_law (first
      | (go_simp; go_at_call 38; refine (shownAll_u _ _ _ _ HD.out HOK.out).mono ?_; rintro e w3 ⟨a3, n3, c3, rfl, hr3, bd3⟩; rw [HMM.out] at hr3; have b3 := same_drew bd3; clear bd3; have HR3 : Hid _ := hr3; clear hr3; have V3 : Hid _ := V2.out.below b3; have X3 : Hid _ := X2.out.below b3; have s0 := V3.out.c0; have s1 := V3.out.c1; have s2 := V3.out.c2; have g0 := V3.out.f 0; have g1 := V3.out.f 1; have g2 := V3.out.f 2; have t2 := X3.out.c2)
      | (go_simp; go_at_call 37; refine (laidAll_u _ _ a3 n3 c3 _ HR3.out).mono ?_; rintro e w4 ⟨a4, rfl, hr4, b4⟩; have HR4 : Hid _ := hr4; clear hr4; have V4 : Hid _ := V3.out.below b4; have X4 : Hid _ := X3.out.below b4; have u0 := V4.out.c0; have u1 := V4.out.c1; have u2 := V4.out.c2; have k0 := V4.out.f 0; have k1 := V4.out.f 1; have k2 := V4.out.f 2; have v2 := X4.out.c2))
    all_goals go_wp2
    all_goals
      have hs2 := b2.size
      have hs3 := b3.size
      exact answered3 rfl rfl rfl V4.out Try.underlying30 rfl (by kernel_rfl) (on (on (on bel b2) b3) b4) (by omega) (rHost_sectors HR4.out (by omega) (by omega)) (by omega) (by omega)

set_option maxHeartbeats 2000000 in
theorem read_u (w : World) (P : Nat → Prop) (cs : List Value) (s : Host) (p : Int) (hS : rHost.rd w P cs s) :
    Calls Try.prog 19 #[.agg cs.toArray, .int .i64 p] w fun e w' => ∃ b n c, e = .returned (.tuple #[.slice b n c, .int .i64 (Hst.readE s p)]) ∧ rBytes.rd w' (fun k => w.heap.size ≤ k) [.slice b n c] (Hst.readL s p) ∧ Below w.heap.size w w' := by
  have hS0 := hS
  obtain ⟨a, n, c, b, m, d, rfl, -⟩ := rHost_cells hS
  obtain ⟨w0, hw0, p0, p1, p2, b0, z0⟩ := boxed3 w 30 (.slice a n c) (.slice b m d) (.int .i64 s.2.2)
  have HS0 : Hid _ := Rep.below hS0 b0
  have HRL : Hid (Hst.readL s p = if Hst.readE s p = 0 then (Hst.flushS s).1.getD p.toNat [] else []) := rfl
  rw [HRL.out]
  clear hS0 hS
  by_cases hE : Hst.readE s p = 0
  · have HE : Hid _ := hE
    rw [hE, if_pos rfl]
    obtain ⟨hok, h1, h2⟩ := Hst.readE_zero.1 hE
    have HOK : Hid _ := hok
    rw [Hst.flush_ok hok]
    rw [Hst.lengthN_ok hok] at h2
    obtain ⟨o1, o2, o3, o4, o5⟩ := Hst.ok_parts hok
    have hsec := Hst.doneAll_ok (keep := Hst.all) s.2.1 0 s.1 o4 o5
    have HSEC : Hid _ := hsec
    clear hE hok o1 o2 o3 o4 o5 hsec
    simp only
    obtain ⟨t, rfl⟩ : ∃ t : Nat, p = t := ⟨p.toNat, by omega⟩
    have h2' : t < (Hst.doneAll Hst.all 0 s.1 s.2.1).length := by omega
    simp only [Int.toNat_natCast]
    generalize hM : Hst.doneAll Hst.all 0 s.1 s.2.1 = M at *
    have HMM : Hid _ := hM
    clear hM h2
    go_enter Try.func19, Try.ntmps19
    go_wp2_with (first
      | (go_at_call 33; refine (place_u _ _ _ _ (t : Int) HS0.out).mono ?_; rintro e w2 ⟨rfl, b2⟩; rw [HE.out]; have q0 := (b2.cell (p := ⟨w.heap.size, 0, none⟩) (by show w.heap.size < _; omega)).trans p0; have q1 := (b2.cell (p := ⟨w.heap.size, 1, none⟩) (by show w.heap.size < _; omega)).trans p1; have q2 := (b2.cell (p := ⟨w.heap.size, 2, none⟩) (by show w.heap.size < _; omega)).trans p2)
      | (go_at_call 38; refine (shownAll_u _ _ _ _ (Rep.below HS0.out b2) HOK.out).mono ?_; rintro e w3 ⟨a3, n3, c3, rfl, hr3, b3⟩; rw [HMM.out] at hr3; obtain ⟨hl3, -, hc3⟩ := rPads_len hr3; obtain ⟨g3, off3, rfl, -, hg3, hat3⟩ := rPads_at hr3 (by omega); obtain ⟨x4, m4, d4, l4, hr4, hl4, hcell4⟩ := hat3 t h2'; have HL4 : Hid _ := hl4; have HL3 : Hid _ := hl3; have ht3 : t < n3 := (by rw [← hl3]; exact h2'); clear hl4 hat3 hl3)
      | (go_at_call 42; refine (laid_u _ _ x4 m4 d4 l4 hr4).mono ?_; rintro e w5 ⟨b5, rfl, hr5, b5b⟩))
    go_ret2
    refine ⟨b5, 64, 64, rfl, ?_, on (on (on b0 b2) b3) b5b⟩
    rw [List.getD_eq_getElem?_getD, List.getElem?_eq_getElem h2', Option.getD_some, HL4.out]
    exact rBytes.weaken hr5 (fun k hk _ => by have h1 : w3.heap.size ≤ k := hk; have := b3.size; have := b2.size; omega)
  · rw [if_neg hE]
    have hne : (Hst.readE s p != 0) = true := bne_iff_ne.2 hE
    clear hE
    go_enter Try.func19, Try.ntmps19
    go_wp2_with (go_at_call 33; refine (place_u _ _ _ _ p HS0.out).mono ?_; rintro e w2 ⟨rfl, b2⟩)
    go_ret2
    exact ⟨none, 0, 0, rfl, rBytes_nil _ _, on b0 b2⟩

end Go.Proofs.Ytckcicomkapdeaa
