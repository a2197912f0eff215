/-
  The contracts of the document's own Resize and Write. Conditions: those that each contract names.
-/
import Derived.Test.YtckcicomkapdeaaRRefs2
namespace Go.Proofs.Ytckcicomkapdeaa
open Go.RowKit
set_option linter.unusedVariables false

theorem on' {B : Nat} {w w1 w2 : World} (h : Below B w w1) (k : Below w1.heap.size w1 w2) (hB : B ≤ w1.heap.size := by first | assumption | omega) : Below B w w2 := h.trans (k.mono hB)

set_option maxRecDepth 20000 in
set_option maxHeartbeats 4000000 in
theorem refResize_u (w : World) (P : Nat → Prop) (cs : List Value) (s : Host) (p : Int) (hp1 : -9223372036854775808 ≤ p) (hp2 : p ≤ 9223372036854775807) (hS : rHost.rd w P cs s) :
    Calls Try.prog 14 #[.agg cs.toArray, .int .i64 p] w (HAns w (Hst.resizeS s p) (Hst.resizeE s p)) := by
  have hS0 := hS
  obtain ⟨a, n, c, b, m, d, rfl, -, -, -, hm, hcp1, hcp2, -, hm9⟩ := rHost_cells hS
  have HM : Hid _ := hm
  obtain ⟨w0, hw0, -, -, -, b0, z0⟩ := boxed3 w 25 (.slice a n c) (.slice b m d) (.int .i64 s.2.2)
  obtain ⟨w1, hw1, -, -, -, b1, z1⟩ := boxed3 w0 25 (.slice none 0 0) (.slice none 0 0) (.int .i64 0)
  have x0 : Var3 w0 w.heap.size (.slice a n c) (.slice b m d) (.int .i64 s.2.2) := by rw [← hw0]; exact var3_new _ _ _ _ _
  have v1 : Var3 w1 w0.heap.size (.slice none 0 0) (.slice none 0 0) (.int .i64 0) := by rw [← hw1]; exact var3_new _ _ _ _ _
  have X1 : Hid _ := x0.below b1
  rw [z0] at v1
  have V1 : Hid _ := v1
  have bel : Below w.heap.size w w1 := on b0 b1
  have hs1 : w1.heap.size = w.heap.size + 2 := by omega
  have HS1 : Hid _ := Rep.below hS0 bel
  have q0 := X1.out.c0
  have q1 := X1.out.c1
  have q2 := X1.out.c2
  clear hS hS0 x0 v1 b0 b1 hm
  have HWS : Hid (Hst.resizeS s p = if Hst.resizeE s p = 0 then (s.1, s.2.1 ++ [(2, p, [])], s.2.2) else Hst.none) := rfl
  cases hok : Hst.ok s
  · have HE : Hid _ := Hst.check_bad' hok
    have e1 : Hst.resizeE s p = 9 := by simp [Hst.resizeE, hok]
    rw [HWS.out, e1]
    simp only [show ¬ (9 : Int) = 0 from by decide, if_false]
    clear e1 hok
    go_enter Try.func14, Try.ntmps14
    go_wp2_with (go_at_call 27; refine (refCheck_u _ _ _ _ HS1.out).mono ?_; rintro e w2 ⟨rfl, b2⟩; rw [HE.out]; have V2 : Hid _ := V1.out.below b2; have X2 : Hid _ := X1.out.below b2; have y0 := X2.out.c0; have y1 := X2.out.c1; have y2 := X2.out.c2; have r0 := V2.out.c0; have r1 := V2.out.c1; have r2 := V2.out.c2; have f0 := V2.out.f 0; have f1 := V2.out.f 1; have f2 := V2.out.f 2)
    exact refused3 rfl rfl rfl V2.out Try.underlying25 rfl (by kernel_rfl) (on bel b2) (by omega)
  · have HE : Hid _ := Hst.check_ok' hok
    have e1 : Hst.resizeE s p = if 0 ≤ p then (if p ≤ s.2.2 ∧ m < 4096 then 0 else 51) else 4 := by unfold Hst.resizeE; rw [if_pos hok, HM.out]
    have hm4 : m ≤ 4096 := by have := (Hst.ok_parts hok).2.2.1; rw [HM.out] at this; exact this
    rw [HWS.out, e1]
    clear e1 hok
    by_cases hp0 : 0 ≤ p
    · rw [if_pos hp0]
      by_cases hpc : p ≤ s.2.2
      · by_cases hm5 : m < 4096
        · rw [show (if p ≤ s.2.2 ∧ m < 4096 then (0 : Int) else 51) = 0 from if_pos ⟨hpc, hm5⟩]
          simp only [if_true]
          have hmi : (m : Int) < 4096 := by omega
          go_enter Try.func14, Try.ntmps14
          go_wp2_with fail
          refine (refCheck_u _ _ _ _ HS1.out).mono ?_
          rintro e w2 ⟨rfl, b2⟩
          rw [HE.out]
          have V2 : Hid _ := V1.out.below b2
          have X2 : Hid _ := X1.out.below b2
          have y0 := X2.out.c0
          have y1 := X2.out.c1
          have y2 := X2.out.c2
          have r0 := V2.out.c0
          have r1 := V2.out.c1
          have r2 := V2.out.c2
          have f0 := V2.out.f 0
          have f1 := V2.out.f 1
          have f2 := V2.out.f 2
          go_wp2_with fail
          refine (refOwn_o _ _ _ _ (Rep.below HS1.out b2)).mono ?_
          rintro e w3 ⟨a7, n7, c7, a8, m8, c8, B, rfl, hB, hB2, hL7, hO8, b3⟩
          obtain rfl : m8 = m := by
            obtain ⟨aa, cc, e1, e2⟩ := Owns.rd (hs := by decide) hO8 (by rw [HM.out]; show m * 40 ≤ _; omega)
            simp only [Value.slice.injEq] at e1
            rw [e1.2.1]; exact HM.out
          obtain ⟨v3, hv3, -, -, -, bv3, zv3⟩ := boxed3 w3 25 (.slice a7 n7 c7) (.slice a8 m8 c8) (.int .i64 s.2.2)
          have V3 : Hid (Var3 v3 w3.heap.size (.slice a7 n7 c7) (.slice a8 m8 c8) (.int .i64 s.2.2)) := by rw [← hv3]; exact var3_new _ _ _ _ _
          have O3 : Hid (OwnsQ rAct 63 v3 B (fun b => B ≤ b ∧ b ≠ w3.heap.size) (.slice a8 m8 c8) s.2.1) := hO8.toQ (Nat.le_refl _) bv3
          have HL3 : Hid _ := Rep.below hL7 bv3
          have R3 : Hid _ := (V2.out.below b3).below bv3
          have HROW : Hid (∀ k, (Value.slice a8 m8 c8).ownBlock = some k → B ≤ k ∧ k < w3.heap.size) := hO8.row
          have HB3 : Hid (w2.heap.size ≤ B ∧ B ≤ w3.heap.size ∧ v3.heap.size = w3.heap.size + 1 ∧ w1.heap.size ≤ w2.heap.size ∧ w1.heap.size = w.heap.size + 2) := ⟨hB, hB2, zv3, b2.size, hs1⟩
          have bel3 : Hid (Below w.heap.size w v3) := on (on (on bel b2) b3) bv3
          have t0 := V3.out.c0
          have t1 := V3.out.c1
          have t2 := V3.out.c2
          have t3 := V3.out.f 1
          have hltv : w3.heap.size < v3.heap.size := V3.out.lt
          have HB4 : Hid _ := hB2
          clear hO8 hL7 zv3 hB hB2 y0 y1 y2 r0 r1 r2 f0 f1 f2 X2
          have hok2 : Hid ((m8 + 1) * 40 ≤ 140737488355328 ∧ m8 + 1 ≤ maxLen) := ⟨by omega, by unfold maxLen; omega⟩
          go_wp2_with (first
            | (at_builtin
               refine append_at_q elem_refWaits rfl _ _ rfl B _ _ s.2.1 rfl (O3.out.below ((Below.refl _ _).alloc (Nat.le_refl _) _)) ⟨v3.heap.size, 0, none⟩ [.int .i64 2, .int .i64 p, .slice none 0 0] (2, p, []) rfl (cell_three_new _ _ _ _ _) (act_rd (by constructor <;> simp) ⟨hp1, hp2⟩ (rBytes_nil _ _)) (by rw [HM.out]; exact hok2.out.1) (by rw [HM.out]; exact hok2.out.2) (by have h1 := HB4.out; simp only [World.size_alloc]; omega) ?_
               intro b6 d6 w6 ho6 g6 ha6
               rw [HM.out] at ho6 ha6 ⊢
               have hszA : v3.heap.size ≤ (v3.alloc (.cells #[.int .i64 2, .int .i64 p, .slice none 0 0] 63)).heap.size := (((Below.refl _ v3).alloc (Nat.le_refl _) (.cells #[.int .i64 2, .int .i64 p, .slice none 0 0] 63))).size
               have V6 : Hid (Var3 w6 w3.heap.size (.slice a7 n7 c7) (.slice a8 m8 c8) (.int .i64 s.2.2)) := (V3.out.below ((Below.refl _ v3).alloc (Nat.le_refl _) (.cells #[.int .i64 2, .int .i64 p, .slice none 0 0] 63))).keep (g6.block w3.heap.size (by omega) (fun e => by have := (HROW.out _ e.symm).2; omega))
               have R6 : Hid (Var3 w6 (w.heap.size + 1) (.slice none 0 0) (.slice none 0 0) (.int .i64 0)) := (R3.out.below ((Below.refl _ v3).alloc (Nat.le_refl _) (.cells #[.int .i64 2, .int .i64 p, .slice none 0 0] 63))).keep (g6.block (w.heap.size + 1) (by have := HB3.out; omega) (fun e => by have h1 := (HROW.out _ e.symm).1; have h2 := HB3.out; omega))
               obtain ⟨v7, hv7⟩ : ∃ v7, w6.setCell ⟨w3.heap.size, 1, none⟩ (.slice b6 (m8 + 1) d6) = v7 := ⟨_, rfl⟩
               have k7 : Kept (· ≠ w3.heap.size) w6 v7 := by rw [← hv7]; exact (Kept.refl _ _).setCell (p := ⟨w3.heap.size, 1, none⟩) (fun h => h rfl) _
               have V7 : Hid (Var3 v7 w3.heap.size (.slice a7 n7 c7) (.slice b6 (m8 + 1) d6) (.int .i64 s.2.2)) := by rw [← hv7]; exact V6.out.set1 _
               have R7 : Hid _ := R6.out.keep (k7.block _ (by show w.heap.size + 1 ≠ w3.heap.size; have := HB3.out; omega))
               have u1 := V6.out.c1
               have u3 := V6.out.f 1
               have x0 := V7.out.c0
               have x1 := V7.out.c1
               have x2 := V7.out.c2
               have j0 := R7.out.c0
               have j1 := R7.out.c1
               have j2 := R7.out.c2
               have i0 := R7.out.f 0
               have i1 := R7.out.f 1
               have i2 := R7.out.f 2
               have HS7 : Hid (rHost.rd v7 (fun k => w2.heap.size ≤ k) [.slice a7 n7 c7, .slice b6 (m8 + 1) d6, .int .i64 s.2.2] (s.1, s.2.1 ++ [(2, p, [])], s.2.2)) := by
                 have hh := HB3.out
                 refine ⟨[_], [_, _], rfl, ?_, [_], [_], rfl, ?_, rfl, hcp1, hcp2⟩
                 · have h1 := Rep.below HL3.out ((Below.refl _ v3).alloc (Nat.le_refl _) (.cells #[.int .i64 2, .int .i64 p, .slice none 0 0] 63))
                   have h2 := rSectors.keep h1 (w' := w6) (fun b hb hl => g6.block b hl (fun e => by have := (HROW.out _ e.symm).1; omega))
                   exact rSectors.weaken (Rep.kept h2 k7 (fun b hb _ => by show b ≠ _; omega)) (fun b hb _ => hb.1)
                 · have h1 := ho6.rdAt (hs := by decide) (by rw [List.length_append, HM.out]; rfl) (by show (m8 + 1) * 40 ≤ _; omega) (fun k hk => by
                     rcases ha6 with h | h
                     · rw [h] at hk; have := (HROW.out _ hk).2; omega
                     · rw [h] at hk; cases hk; omega)
                   exact rWaits.weaken (Rep.kept h1 k7 (fun b hb _ => hb.2)) (fun b hb _ => by have := hb.1; omega)
               have bel7 : Hid (Below w.heap.size w v7) := ((on' bel3.out ((Below.refl _ v3).alloc (Nat.le_refl _) (.cells #[.int .i64 2, .int .i64 p, .slice none 0 0] 63)) (by have := HB3.out; omega)).grown g6 (by have := HB3.out; omega) (fun k hk => by have := (HROW.out _ hk).1; have := HB3.out; omega)).trans ⟨k7.os, k7.tape, k7.output, k7.size, fun b hb => k7.block b (by show b ≠ w3.heap.size; have := HB3.out; omega)⟩
               clear k7 ho6 g6 ha6))
          exact answered3 rfl rfl rfl R7.out Try.underlying25 rfl (by kernel_rfl) bel7.out (by omega) HS7.out (by have := HB3.out; omega) (by have := HB3.out; omega)
        · obtain rfl : m = 4096 := by omega
          rw [show (if p ≤ s.2.2 ∧ 4096 < 4096 then (0 : Int) else 51) = 51 from if_neg (fun h => hm5 h.2)]
          simp only [show ¬ (51 : Int) = 0 from by decide, if_false]
          generalize s.2.2 = cap at *
          go_enter Try.func14, Try.ntmps14
          go_wp2_with (go_at_call 27; refine (refCheck_u _ _ _ _ HS1.out).mono ?_; rintro e w2 ⟨rfl, b2⟩; rw [HE.out]; have V2 : Hid _ := V1.out.below b2; have X2 : Hid _ := X1.out.below b2; have y0 := X2.out.c0; have y1 := X2.out.c1; have y2 := X2.out.c2; have r0 := V2.out.c0; have r1 := V2.out.c1; have r2 := V2.out.c2; have f0 := V2.out.f 0; have f1 := V2.out.f 1; have f2 := V2.out.f 2)
          exact refused3 rfl rfl rfl V2.out Try.underlying25 rfl (by kernel_rfl) (on bel b2) (by omega)
      · rw [show (if p ≤ s.2.2 ∧ m < 4096 then (0 : Int) else 51) = 51 from if_neg (fun h => hpc h.1)]
        simp only [show ¬ (51 : Int) = 0 from by decide, if_false]
        generalize s.2.2 = cap at *
        go_enter Try.func14, Try.ntmps14
        go_wp2_with (go_at_call 27; refine (refCheck_u _ _ _ _ HS1.out).mono ?_; rintro e w2 ⟨rfl, b2⟩; rw [HE.out]; have V2 : Hid _ := V1.out.below b2; have X2 : Hid _ := X1.out.below b2; have y0 := X2.out.c0; have y1 := X2.out.c1; have y2 := X2.out.c2; have r0 := V2.out.c0; have r1 := V2.out.c1; have r2 := V2.out.c2; have f0 := V2.out.f 0; have f1 := V2.out.f 1; have f2 := V2.out.f 2)
        all_goals exact refused3 rfl rfl rfl V2.out Try.underlying25 rfl (by kernel_rfl) (on bel b2) (by omega)
    · rw [if_neg hp0]
      simp only [show ¬ (4 : Int) = 0 from by decide, if_false]
      have hp3 : p < 0 := by omega
      go_enter Try.func14, Try.ntmps14
      go_wp2_with (go_at_call 27; refine (refCheck_u _ _ _ _ HS1.out).mono ?_; rintro e w2 ⟨rfl, b2⟩; rw [HE.out]; have V2 : Hid _ := V1.out.below b2; have X2 : Hid _ := X1.out.below b2; have y0 := X2.out.c0; have y1 := X2.out.c1; have y2 := X2.out.c2; have r0 := V2.out.c0; have r1 := V2.out.c1; have r2 := V2.out.c2; have f0 := V2.out.f 0; have f1 := V2.out.f 1; have f2 := V2.out.f 2)
      exact refused3 rfl rfl rfl V2.out Try.underlying25 rfl (by kernel_rfl) (on bel b2) (by omega)

end Go.Proofs.Ytckcicomkapdeaa
