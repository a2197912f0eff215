/-
  The contract of a host with one act more. Conditions: those that it names.
-/
import Derived.Test.YtckcicomkapdeaaHLaid
import Derived.Test.YtckcicomkapdeaaRLists
namespace Go.Proofs.Ytckcicomkapdeaa
open Go.RowKit
set_option linter.unusedVariables false

theorem elem_waits : ElemOf Try.prog 28 67 rAct := elemOf (z := .agg #[.int .i64 0, .int .i64 0, .slice none 0 0]) Try.underlying28 (by kernel_rfl) rfl rfl rfl (by decide)

theorem info_act : (Try.prog.info? 67).map (fun i => (i.zero, i.size, i.bytes)) = some (some (.agg #[.int .i64 0, .int .i64 0, .slice none 0 0]), 3, 40) := by kernel_rfl

set_option maxHeartbeats 4000000 in
theorem withAct_u (w : World) (P : Nat → Prop) (cs : List Value) (s : Host) (a : Act) (x : Option Addr) (k0 d0 : Nat) (hS : rHost.rd w P cs s) (hx : rBytes.rd w P [.slice x k0 d0] a.2.2) (hb1 : -9223372036854775808 ≤ a.1 ∧ a.1 ≤ 9223372036854775807) (hb2 : -9223372036854775808 ≤ a.2.1 ∧ a.2.1 ≤ 9223372036854775807) (hok : Hst.ok s = true) (hact : Hst.actOk s.2.2 a = true) :
    Calls Try.prog 34 #[.agg cs.toArray, .agg #[.int .i64 a.1, .int .i64 a.2.1, .slice x k0 d0]] w fun e w' => ∃ cs', e = .returned (.agg cs'.toArray) ∧ rHost.rd w' (fun b => w.heap.size ≤ b) cs' (s.1, s.2.1 ++ [a], s.2.2) ∧ Below w.heap.size w w' := by
  obtain ⟨a1, n, c, b, m, d, rfl, hA, hW, hn, hm, hc1, hc2, hn2, hm2⟩ := rHost_cells hS
  obtain ⟨L, W, cp⟩ := s
  obtain ⟨-, -, hm3, hsec, hacts⟩ := Hst.ok_parts hok
  simp only at hn hm hc1 hc2 hA hW hm3 hsec hacts hact
  have HN : Hid _ := hn
  have HM : Hid _ := hm
  have HACT : Hid _ := hacts
  have HA : Hid _ := hact
  have hm4 : m ≤ 4096 := by rw [← hm]; exact hm3
  obtain ⟨w0, hw0, -, -, -, bw0, z0⟩ := boxed3 w 30 (.slice a1 n c) (.slice b m d) (.int .i64 cp)
  obtain ⟨w1, hw1, -, -, -, bw1, z1⟩ := boxed3 w0 67 (.int .i64 a.1) (.int .i64 a.2.1) (.slice x k0 d0)
  obtain ⟨w2, hw2, -, -, -, bw2, z2⟩ := boxed3 w1 30 (.slice none 0 0) (.slice none 0 0) (.int .i64 0)
  have x0 : Var3 w0 w.heap.size (.slice a1 n c) (.slice b m d) (.int .i64 cp) := by rw [← hw0]; exact var3_new _ _ _ _ _
  have y1 : Var3 w1 w0.heap.size (.int .i64 a.1) (.int .i64 a.2.1) (.slice x k0 d0) := by rw [← hw1]; exact var3_new _ _ _ _ _
  have v2 : Var3 w2 w1.heap.size (.slice none 0 0) (.slice none 0 0) (.int .i64 0) := by rw [← hw2]; exact var3_new _ _ _ _ _
  have X2 : Hid _ := (x0.below bw1).below bw2
  have Y2 : Hid _ := y1.below bw2
  have V2 : Hid _ := v2
  have bel : Below w.heap.size w w2 := on (on bw0 bw1) bw2
  have hA2 := Rep.below (rPads_of (rSectors.weaken hA (P' := fun b => b < w.heap.size) (fun b _ hl => hl)) hsec.2) bel
  have hW2 := Rep.below (rWaits.weaken hW (P' := fun b => b < w.heap.size) (fun b _ hl => hl)) bel
  have hx2 := Rep.below (rBytes.weaken hx (P' := fun b => b < w.heap.size) (fun b _ hl => hl)) bel
  clear hS hn hm hA hW hx x0 y1 v2 bw0 bw1 bw2 hacts hsec hact hok hm3
  rw [z0] at Y2
  rw [z1, z0] at V2
  have hB : w2.heap.size = w.heap.size + 3 := by rw [z2, z1, z0]
  have q1 := X2.out.c1
  obtain ⟨i0, hi, hz0, hz1, hz2⟩ := info_parts info_act
  go_enter Try.func34, Try.ntmps34
  go_wp2_with (at_make; refine wpList_make_own _ rfl _ _ 28 rfl w2.heap.size 67 i0 _ 3 Try.underlying28 hi hz0 hz1 .i64 .i64 _ (m + 1) rfl rfl (by go_num) (by rw [hz2]; omega) (by unfold maxLen; omega) (Nat.le_refl _) ?_; intro w3 ho3 g3; have b3 : Below w2.heap.size w2 w3 := (Below.refl _ _).grown g3 (Nat.le_refl _) (fun k h => by cases h); have q3 := (X2.out.below b3).c1)
  have H0 : Owns rAct 67 w3 w2.heap.size (.slice (some ⟨w.heap.size + 1 + 1 + 1, 0, none⟩) 0 (m + 1)) (W.take 0) := by
    rw [z2, z1, z0] at ho3 ⊢
    exact ⟨[], ho3, rfl⟩
  clear ho3 g3 q1 hw0 hw1 hw2 z0 z1 z2 hi hz0 hz1 hz2
  go_loopw [5, 16] (fun s i wr => ∃ (k : Nat) (M : List Act), k ≤ m ∧ i = .int .i64 k ∧ M.length = k ∧ Hid (M = W.take k) ∧ Hid (Owns rAct 67 wr w2.heap.size s M) ∧ Below w2.heap.size w2 wr) (fun _ i _ => m - (intOf i).toNat)
  case atStart => exact ⟨0, _, Nat.zero_le _, rfl, by simp, rfl, H0, b3⟩
  case round =>
    obtain ⟨k, M, hk, rfl, hml, HMk, O, bel2⟩ := hrel
    clear H0 b3 q3
    by_cases hlt : k < m
    · have hWr := Rep.below hW2 bel2
      obtain ⟨g, off, rfl, -, hgl, hat⟩ := rWaits_at hWr (by omega)
      have hkl : k < W.length := by rw [HM.out]; exact hlt
      obtain ⟨x5, l, e5, hx5, hl, c0, c1, c2, k0, k1⟩ := hat k hkl
      have HOK : Hid _ := HACT.out _ (List.getElem_mem hkl)
      have HNX : Hid (M ++ [(W[k].1, W[k].2.1, W[k].2.2)] = W.take (k + 1)) := by unfold Hid; rw [HMk.out, List.take_succ_eq_append_getElem hkl]
      have hz : w2.heap.size ≤ wr.heap.size := bel2.size
      have hok : Hid ((k + 1) * 40 ≤ 140737488355328 ∧ k + 1 ≤ maxLen) := ⟨by omega, by unfold maxLen; omega⟩
      clear hat hl hWr
      generalize W[k] = A at *
      have bA : Below wr.heap.size wr (wr.alloc (.cells #[.int .i64 A.1, .int .i64 A.2.1, .slice x5 l e5] 67)) := (Below.refl _ _).alloc (Nat.le_refl _) _
      have HX5 : Hid _ := Rep.below hx5 bA
      go_wp2_with (first
        | (go_at_call 50
           refine (copiedAct_u _ _ A x5 l e5 cp HX5.out HOK.out).mono ?_
           rintro e' w5 ⟨b5, n5, d5, rfl, hr5, bd5⟩
           have bb5 := on bA bd5
           have hz5 : w2.heap.size ≤ (w5.alloc (.cells #[.int .i64 A.1, .int .i64 A.2.1, .slice b5 n5 d5] 67)).heap.size := by have := bb5.size; simp only [World.size_alloc]; omega
           have HR5 : Hid _ := rBytes.weaken hr5 (P' := fun b => wr.heap.size ≤ b) (fun b hb _ => by have h1 : (wr.alloc (.cells #[.int .i64 A.1, .int .i64 A.2.1, .slice x5 l e5] 67)).heap.size ≤ b := hb; have := bA.size; omega)
           clear hr5 bd5)
        | (at_builtin
           (refine append_rep elem_waits rfl _ _ rfl w2.heap.size _ M rfl ((O.out.below bb5).below ((Below.refl _ _).alloc (Nat.le_refl _) _)) ⟨w5.heap.size, 0, none⟩ [.int .i64 A.1, .int .i64 A.2.1, .slice b5 n5 d5] (A.1, A.2.1, A.2.2) rfl (cell_three_new _ _ _ _ _) (O.out.elem hz (act_rd k0 k1 HR5.out) (fun b hb => hb) _) (by rw [hml]; exact hok.out.1) (by rw [hml]; exact hok.out.2) hz5 ?_; intro b6 d6 w6 ho6 g6; rw [hml] at ho6)))
      go_roundw
      case rel => exact ⟨k + 1, M ++ [(A.1, A.2.1, A.2.2)], by omega, by go_num, by simp [hml], HNX, ho6, ((on bel2 bb5).alloc (by have := bb5.size; omega) _).grown g6 hz5 (fun k hk => (O.out.row k hk).1)⟩
      case measure => simp [intOf]; omega
    · obtain rfl : k = m := by omega
      rw [List.take_of_length_le (by rw [HM.out]; exact Nat.le_refl _)] at HMk
      have Y3 : Hid _ := Y2.out.below bel2
      have y0 := Y3.out.c0
      have y1 := Y3.out.c1
      have y2 := Y3.out.c2
      have HX5 : Hid _ := Rep.below hx2 bel2
      have hz : w2.heap.size ≤ wr.heap.size := bel2.size
      have hok : Hid ((k + 1) * 40 ≤ 140737488355328 ∧ k + 1 ≤ maxLen) := ⟨by omega, by unfold maxLen; omega⟩
      clear hW2 hx2 Y2
      go_wp2_with (first
        | (go_at_call 50
           refine (copiedAct_u _ _ a x k0 d0 cp HX5.out HA.out).mono ?_
           rintro e' w5 ⟨b5, n5, d5, rfl, hr5, bb5⟩
           have hz5 : w2.heap.size ≤ (w5.alloc (.cells #[.int .i64 a.1, .int .i64 a.2.1, .slice b5 n5 d5] 67)).heap.size := by have := bb5.size; simp only [World.size_alloc]; omega
           have HR5 : Hid _ := hr5
           clear hr5)
        | (at_builtin
           (refine append_rep elem_waits rfl _ _ rfl w2.heap.size _ M rfl ((O.out.below bb5).below ((Below.refl _ _).alloc (Nat.le_refl _) _)) ⟨w5.heap.size, 0, none⟩ [.int .i64 a.1, .int .i64 a.2.1, .slice b5 n5 d5] (a.1, a.2.1, a.2.2) rfl (cell_three_new _ _ _ _ _) (O.out.elem hz (act_rd hb1 hb2 HR5.out) (fun b hb => hb) _) (by rw [hml]; exact hok.out.1) (by rw [hml]; exact hok.out.2) hz5 ?_; intro b6 d6 w6 ho6 g6; rw [hml] at ho6; have HO6 : Hid _ := ho6; clear ho6)))
      have bel6 : Below w2.heap.size w2 w6 := ((on bel2 bb5).alloc (by have := bb5.size; omega) _).grown g6 hz5 (fun k hk => (O.out.row k hk).1)
      clear g6 hz5 HR5 bb5 HX5 y0 y1 y2 Y3 O
      have X6 : Hid _ := X2.out.below bel6
      have V6 : Hid _ := V2.out.below bel6
      have x0 := X6.out.c0
      have x2 := X6.out.c2
      have hA6 := Rep.below hA2 bel6
      have HA6 : Hid (rPads.rd w6.drew (fun b => b < w.heap.size) [.slice a1 n c] L) := hA6
      have HW6 : Hid (rWaits.rd w6 (fun b => w2.heap.size ≤ b) [.slice b6 (k + 1) d6] (W ++ [a])) := by
        have ho : Owns rAct 67 w6 w2.heap.size (.slice b6 (k + 1) d6) (M ++ [(a.1, a.2.1, a.2.2)]) := HO6.out
        obtain ⟨a8, c8, e8, hW8⟩ := Owns.rd (hs := by decide) ho (by rw [List.length_append, hml]; show (k + 1) * 40 ≤ _; omega)
        rw [e8]
        rw [HMk.out] at hW8 ⊢
        exact hW8
      clear X2 V2 hA2 hA6 HO6
      have hz6 := bel6.size
      go_region_law (go_simp; go_at_call 37; refine (laidAll_u _ _ a1 n c L HA6.out).mono ?_; rintro e' w7 ⟨b7, rfl, hr7, bd7⟩; have bb7 := same_drew bd7; clear bd7; have V7 : Hid _ := V6.out.below bb7; have X7 : Hid _ := X6.out.below bb7; have a0 := X7.out.c0; have a2 := X7.out.c2; have e0 := V7.out.c0; have e1 := V7.out.c1; have e2 := V7.out.c2; have f0 := V7.out.f 0; have f1 := V7.out.f 1; have f2 := V7.out.f 2)
      all_goals go_wp2
      all_goals
        have T := V7.out.whole (.slice b7 n n) (.slice b6 (k + 1) d6) (.int .i64 cp)
        refine bodyPost_ret (results_var3 rfl rfl T.1 Try.underlying30 rfl (by kernel_rfl)) rfl ⟨[.slice b7 n n, .slice b6 (k + 1) d6, .int .i64 cp], rfl, ⟨[_], [_, _], rfl, ?_, [_], [_], rfl, ?_, rfl, hc1, hc2⟩, Kept.belowOf (on (on bel bel6) bb7) T.2 (by omega)⟩
        · exact rSectors.weaken (Rep.kept hr7 T.2 (fun b hb _ => by have h1 : w6.heap.size ≤ b := hb; show b ≠ _; omega)) (fun b hb _ => by have h1 : w6.heap.size ≤ b := hb; omega)
        · exact rWaits.weaken (Rep.kept (Rep.below HW6.out bb7) T.2 (fun b hb _ => by have h1 : w2.heap.size ≤ b := hb; show b ≠ _; omega)) (fun b hb _ => by have h1 : w2.heap.size ≤ b := hb; omega)
end Go.Proofs.Ytckcicomkapdeaa
