/-
  The contract of the document's own copy of a host. Conditions: those that it names.
-/
import Derived.Test.YtckcicomkapdeaaRows
import Derived.Test.YtckcicomkapdeaaRHBase
import Derived.Test.YtckcicomkapdeaaRCopied
import Derived.Deep.RegionLaw
import Derived.Deep.RegionHeldLaw
namespace Go.Proofs.Ytckcicomkapdeaa
open Go.RowKit
set_option linter.unusedVariables false

theorem elem_refWaits : ElemOf Try.prog 23 63 rAct := elemOf (z := .agg #[.int .i64 0, .int .i64 0, .slice none 0 0]) Try.underlying23 (by kernel_rfl) rfl rfl rfl (by decide)

set_option maxHeartbeats 4000000 in
theorem refOwn_o (w : World) (P : Nat → Prop) (cs : List Value) (s : Host) (hS : rHost.rd w P cs s) :
    Calls Try.prog 35 #[.agg cs.toArray] w fun e w' => ∃ a7 n7 c7 a8 m8 c8 B, e = .returned (.agg #[.slice a7 n7 c7, .slice a8 m8 c8, .int .i64 s.2.2]) ∧ w.heap.size ≤ B ∧ B ≤ w'.heap.size ∧
      rSectors.rd w' (fun b => w.heap.size ≤ b ∧ b < B) [.slice a7 n7 c7] s.1 ∧ Owns rAct 63 w' B (.slice a8 m8 c8) s.2.1 ∧ Below w.heap.size w w' := by
  obtain ⟨a, n, c, b, m, d, rfl, hA, hW, hn, hm, hc1, hc2, hn2, hm2⟩ := rHost_cells hS
  obtain ⟨L, W, cp⟩ := s
  obtain ⟨w0, hw0, p0, p1, p2, b0, z0⟩ := boxed3 w 25 (.slice a n c) (.slice b m d) (.int .i64 cp)
  obtain ⟨w1, hw1, -, -, -, b1, z1⟩ := boxed3 w0 25 (.slice none 0 0) (.slice none 0 0) (.int .i64 0)
  obtain ⟨w2, hw2, -, -, -, b2, z2⟩ := boxed3 w1 25 (.slice none 0 0) (.slice none 0 0) (.int .i64 cp)
  have v1 : Var3 w1 w0.heap.size (.slice none 0 0) (.slice none 0 0) (.int .i64 0) := by rw [← hw1]; exact var3_new _ _ _ _ _
  have v2 : Var3 w2 w1.heap.size (.slice none 0 0) (.slice none 0 0) (.int .i64 cp) := by rw [← hw2]; exact var3_new _ _ _ _ _
  simp only at hn hm hc1 hc2 hA hW
  have HN : Hid _ := hn
  have HM : Hid _ := hm
  have x0 : Var3 w0 w.heap.size (.slice a n c) (.slice b m d) (.int .i64 cp) := by rw [← hw0]; exact var3_new _ _ _ _ _
  have x1 := x0.below b1
  have x2 := x1.below b2
  have e2 := x1.c2
  have bel : Below w.heap.size w w2 := b0.trans ((b1.trans (b2.mono (by omega))).mono (by omega))
  have hA2 := Rep.below (rSectors.weaken hA (P' := fun b => b < w.heap.size) (fun b _ hl => hl)) bel
  have hW2 := Rep.below (rWaits.weaken hW (P' := fun b => b < w.heap.size) (fun b _ hl => hl)) bel
  have VR := v1.below b2
  clear hS hn hm p0 p1 p2 x0 x1 hA hW b0 b1 b2
  go_enter Try.func35, Try.ntmps35
  go_wp2
  clear hw0 hw1 hw2 e2
  rw [z1, z0] at v2
  rw [z0] at VR
  have hB : w2.heap.size = w.heap.size + 3 := by rw [z2, z1, z0]
  clear v1 z0 z1 z2
  have hvb : w.heap.size + 1 + 1 < w2.heap.size := by omega
  have H0 : Fill rBytes 26 w2 w2 (w.heap.size + 1 + 1) (.slice none 0 0) (L.take 0) := by rw [List.take_zero]; exact Fill.start _ _ _ _
  go_loopw [4] (fun i wr => ∃ (k : Nat) (v : Value) (M : List (List UInt8)), k ≤ n ∧ i = .int .i64 k ∧ M.length = k ∧ Hid (M = L.take k) ∧ Hid (Fill rBytes 26 w2 wr (w.heap.size + 1 + 1) v M) ∧ Hid (Var3 wr (w.heap.size + 1 + 1) v (.slice none 0 0) (.int .i64 cp))) (fun i _ => n - (intOf i).toNat)
  case atStart => exact ⟨0, _, _, Nat.zero_le _, rfl, by simp, rfl, H0, v2⟩
  case round =>
    obtain ⟨k, v, M, hk, rfl, hml, HMk, F, V⟩ := hrel
    clear H0 v2
    have y0 := F.out.kept.cell (p := ⟨w.heap.size, 0, none⟩) (by show w.heap.size < _ ∧ w.heap.size ≠ _; omega) x2.c0
    by_cases hlt : k < n
    · have hAr := Rep.kept hA2 F.out.kept (fun b hb hl => ⟨hl, by omega⟩)
      obtain ⟨g, off, rfl, -, hgl, hat⟩ := rLists_at hAr (by omega)
      have hkl : k < L.length := by rw [HN.out]; exact hlt
      obtain ⟨x, l, e, hx, hl, hcell⟩ := hat k hkl
      have HNX : Hid (M ++ [L[k]] = L.take (k + 1)) := by unfold Hid; rw [HMk.out, List.take_succ_eq_append_getElem hkl]
      clear hat hl hAr
      have y1 := V.out.c0
      have fz := V.out.f 0
      have hbl : w.heap.size < wr.heap.size := by have := F.out.kept.size; omega
      have hbl2 : w.heap.size + 1 + 1 < wr.heap.size := by have := F.out.kept.size; omega
      have hx2 : rBytes.rd wr.drew (fun b => b < w.heap.size) [.slice x l e] L[k] := hx
      have hok : Hid ((k + 1) * 24 ≤ 140737488355328 ∧ k + 1 ≤ maxLen) := ⟨by omega, by unfold maxLen; omega⟩
      clear hx
      generalize L[k] = X at *
      go_wp2
      go_region_law (first
        | (go_simp
           go_at_call 36
           refine (copied_r _ _ x l e _ hx2).mono ?_
           rintro e w5 ⟨b5, d5, rfl, hr5, bd5⟩
           have bb5 : Below wr.heap.size wr w5 := ⟨bd5.os, bd5.tape, bd5.output, bd5.size, bd5.block⟩
           clear bd5
           have y5 : w5.cell? ⟨w.heap.size, 0, none⟩ = some (.slice (some ⟨g, off, none⟩) n c) := (bb5.cell (p := ⟨w.heap.size, 0, none⟩) (by exact hbl)).trans y0
           have y6 : w5.cell? ⟨w.heap.size + 1 + 1, 0, none⟩ = some v := (bb5.cell (p := ⟨w.heap.size + 1 + 1, 0, none⟩) (by exact hbl2)).trans y1
           have hbl5 : w.heap.size + 1 + 1 < w5.heap.size := by have := bb5.size; omega)
        | (refine step_append_rep elem_sectors rfl (.tmp 17) (.tmp 24) rfl w2.heap.size v M (by simp [Act.eval]) (F.out.owns bb5 _) ⟨w5.heap.size, 0, none⟩ [.slice b5 l d5] X (by simp [Act.eval]) (cell_one_new _ _ _) (F.out.elem hr5 (fun b hb => hb) _) (by rw [hml]; exact hok.out.1) (by rw [hml]; exact hok.out.2) (F.out.size bb5 _) ?_
           intro b6 d6 w6 ho6 g6
           rw [hml] at ho6
           have V6 : Hid _ := F.out.var V.out hvb bb5 g6
           have y7 := V6.out.c0
           have f7 := V6.out.f 0))
      all_goals go_wp2
      all_goals
        go_roundw
        case rel => exact ⟨k + 1, _, M ++ [X], by omega, by go_num, by simp [hml], HNX, F.out.next hvb bb5 g6 ho6, V6.out.set0 _⟩
        case measure => simp [intOf]; omega
    · obtain rfl : k = n := by omega
      clear hA2
      rw [List.take_of_length_le (by rw [HN.out]; exact Nat.le_refl _)] at HMk
      have HM2 : Hid (M = L) := HMk
      clear HMk
      have hS3 : Hid (∃ a' c', v = .slice a' k c' ∧ rSectors.rd wr (fun b => w2.heap.size ≤ b) [.slice a' k c'] L) := by
        obtain ⟨a', c', e1, e2⟩ := Owns.rd (hs := by decide) F.out.own (by rw [hml]; show k * 24 ≤ _; omega)
        rw [hml, HM2.out] at e2
        rw [hml] at e1
        exact ⟨a', c', e1, e2⟩
      have x3 : Var3 wr w.heap.size (.slice a k c) (.slice b m d) (.int .i64 cp) := x2.keep (F.out.kept.block _ (by show w.heap.size < _ ∧ w.heap.size ≠ _; omega))
      have VR3 : Var3 wr (w.heap.size + 1) (.slice none 0 0) (.slice none 0 0) (.int .i64 0) := VR.keep (F.out.kept.block _ (by show w.heap.size + 1 < _ ∧ w.heap.size + 1 ≠ _; omega))
      have hW3 := Rep.kept hW2 F.out.kept (fun b hb hl => ⟨hl, by omega⟩)
      have bel3 : Below w.heap.size w wr := bel.trans ⟨F.out.kept.os, F.out.kept.tape, F.out.kept.output, F.out.kept.size, fun b hb => F.out.kept.block b ⟨by omega, by omega⟩⟩
      have hz3 : w2.heap.size ≤ wr.heap.size := F.out.kept.size
      clear F x2 VR hW2 bel
      have hvb3 : w.heap.size + 1 + 1 < wr.heap.size := by omega
      go_wp2
      clear y0
      have H0 : Fill rAct 63 wr wr (w.heap.size + 1 + 1) (.slice none 0 0) (W.take 0) := by rw [List.take_zero]; exact Fill.start _ _ _ _
      obtain ⟨w3, hw3⟩ : ∃ w3, w3 = wr := ⟨_, rfl⟩
      subst hw3
      go_loopw [5] (fun i wr => ∃ (j : Nat) (u : Value) (N : List Act), j ≤ m ∧ i = .int .i64 j ∧ N.length = j ∧ Hid (N = W.take j) ∧ Hid (Fill rAct 63 w3 wr (w.heap.size + 1 + 1) u N) ∧ Hid (Var3 wr (w.heap.size + 1 + 1) v u (.int .i64 cp))) (fun i _ => m - (intOf i).toNat)
      case atStart => exact ⟨0, _, _, Nat.zero_le _, rfl, by simp, rfl, H0, V⟩
      case round =>
        obtain ⟨j, u, N, hj, rfl, hnl, HNj, F, V'⟩ := hrel
        clear H0 V hml HM2
        have y0 := F.out.kept.cell (p := ⟨w.heap.size, 1, none⟩) (by show w.heap.size < _ ∧ w.heap.size ≠ _; omega) x3.c1
        by_cases hlt : j < m
        · have hWr := Rep.kept hW3 F.out.kept (fun b hb hl => ⟨hl, by omega⟩)
          obtain ⟨g, off, rfl, hgw, hgl, hat⟩ := rWaits_at hWr (by omega)
          have hjl : j < W.length := by rw [HM.out]; exact hlt
          obtain ⟨x, l, e, hx, hl, c0, c1, c2, k0, k1⟩ := hat j hjl
          have HNX : Hid (N ++ [(W[j].1, W[j].2.1, W[j].2.2)] = W.take (j + 1)) := by unfold Hid; rw [HNj.out, List.take_succ_eq_append_getElem hjl]
          clear hat hl hWr
          have y1 := V'.out.c1
          have fz := V'.out.f 1
          have hbl : w.heap.size < wr.heap.size := by have := F.out.kept.size; omega
          have hbl2 : w.heap.size + 1 + 1 < wr.heap.size := by have := F.out.kept.size; omega
          have hx2 : rBytes.rd wr.drew (fun b => b < w.heap.size) [.slice x l e] W[j].2.2 := hx
          have hok : Hid ((j + 1) * 40 ≤ 140737488355328 ∧ j + 1 ≤ maxLen) := ⟨by omega, by unfold maxLen; omega⟩
          clear hx
          generalize W[j].1 = what at *
          generalize W[j].2.1 = pos at *
          generalize W[j].2.2 = X at *
          go_wp2
          have hbv : ¬ w.heap.size + 1 + 1 = w.heap.size := by omega
          have hgv : ¬ w.heap.size + 1 + 1 = g := by have : g < w.heap.size := hgw; omega
          refine wp_region_held_drew (S := (fun w' : World => w'.cell? ⟨w.heap.size, 1, none⟩ = some (.slice (some ⟨g, off, none⟩) m d) ∧ w'.cell? ⟨g, off + j * 3, none⟩ = some (.int .i64 what) ∧ w'.cell? ⟨g, off + j * 3 + 1, none⟩ = some (.int .i64 pos) ∧ w'.cell? ⟨g, off + j * 3 + 2, none⟩ = some (.slice x l e))) (by kernel_rfl) (⟨y0, c0, c1, c2⟩) (fun hHeld => ?_)
          refine wpAnyH_take (i := 0) (v := ?_) rfl (by kernel_rfl) (by kernel_rfl) (by kernel_rfl) (fun _ _ _ h => h) (Or.inl ⟨by rfl, ?_⟩) (by assumption) ?_
          rotate_left
          · intro w hSw
            try dsimp only at hSw
            go_simp
            all_goals with_reducible rfl
          refine wpAnyH_take (i := 2) (v := ?_) rfl (by kernel_rfl) (by kernel_rfl) (by kernel_rfl) (fun _ _ _ h => h) (Or.inl ⟨by rfl, ?_⟩) (by assumption) ?_
          rotate_left
          · intro w hSw
            try dsimp only at hSw
            go_simp
            all_goals with_reducible rfl
          refine wpAnyH_take (i := 3) (v := ?_) rfl (by kernel_rfl) (by kernel_rfl) (by kernel_rfl) (fun _ _ _ h => h) (Or.inl ⟨by rfl, ?_⟩) (by assumption) ?_
          rotate_left
          · intro w hSw
            try dsimp only at hSw
            go_simp
            all_goals with_reducible rfl
          refine wpAnyH_take (i := 4) (v := ?_) rfl (by kernel_rfl) (by kernel_rfl) (by kernel_rfl) (fun _ _ _ h => h) (Or.inl ⟨by rfl, ?_⟩) (by assumption) ?_
          rotate_left
          · intro w hSw
            try dsimp only at hSw
            go_simp
            all_goals with_reducible rfl
          refine wpAnyH_take (i := 5) (v := ?_) rfl (by kernel_rfl) (by kernel_rfl) (by kernel_rfl) (fun _ _ _ h => h) (Or.inl ⟨by rfl, ?_⟩) (by assumption) ?_
          rotate_left
          · intro w hSw
            try dsimp only at hSw
            go_simp
            all_goals with_reducible rfl
          refine wpAnyH_take (i := 6) (v := ?_) rfl (by kernel_rfl) (by kernel_rfl) (by kernel_rfl) (fun _ _ _ h => h) (Or.inl ⟨by rfl, ?_⟩) (by assumption) ?_
          rotate_left
          · intro w hSw
            try dsimp only at hSw
            go_simp
            all_goals with_reducible rfl
          refine wpAnyH_take (i := 7) (v := ?_) rfl (by kernel_rfl) (by kernel_rfl) (by kernel_rfl) (fun _ _ _ h => h) (Or.inl ⟨by rfl, ?_⟩) (by assumption) ?_
          rotate_left
          · intro w hSw
            try dsimp only at hSw
            go_simp
            all_goals with_reducible rfl
          refine wpAnyH_take (i := 8) (v := ?_) rfl (by kernel_rfl) (by kernel_rfl) (by kernel_rfl) (fun _ _ _ h => h) (Or.inl ⟨by rfl, ?_⟩) (by assumption) ?_
          rotate_left
          · intro w hSw
            try dsimp only at hSw
            go_simp
            all_goals with_reducible rfl
          refine wpAnyH_take (i := 9) (v := ?_) rfl (by kernel_rfl) (by kernel_rfl) (by kernel_rfl) (fun _ _ _ h => h) (Or.inl ⟨by rfl, ?_⟩) (by assumption) ?_
          rotate_left
          · intro w hSw
            try dsimp only at hSw
            go_simp
            all_goals with_reducible rfl
          refine wpAnyH_take (i := 10) (v := ?_) rfl (by kernel_rfl) (by kernel_rfl) (by kernel_rfl) (fun _ _ _ h => h) (Or.inl ⟨by rfl, ?_⟩) (by assumption) ?_
          rotate_left
          · intro w hSw
            try dsimp only at hSw
            go_simp
            all_goals with_reducible rfl
          refine wpAnyH_take (i := 11) (v := ?_) rfl (by kernel_rfl) (by kernel_rfl) (by kernel_rfl) (fun _ _ _ h => h) (Or.inl ⟨by rfl, ?_⟩) (by assumption) ?_
          rotate_left
          · intro w hSw
            try dsimp only at hSw
            go_simp
            all_goals with_reducible rfl
          refine wpAnyH_take (i := 12) (v := ?_) rfl (by kernel_rfl) (by kernel_rfl) (by kernel_rfl) (fun _ _ _ h => h) (Or.inl ⟨by rfl, ?_⟩) (by assumption) ?_
          rotate_left
          · intro w hSw
            try dsimp only at hSw
            go_simp
            all_goals with_reducible rfl
          refine wpAnyH_take (i := 13) (v := ?_) rfl (by kernel_rfl) (by kernel_rfl) (by kernel_rfl) (fun _ _ _ h => h) (Or.inl ⟨by rfl, ?_⟩) (by assumption) ?_
          rotate_left
          · intro w hSw
            try dsimp only at hSw
            go_simp
            all_goals with_reducible rfl
          refine wpAnyH_take (i := 14) (v := ?_) rfl (by kernel_rfl) (by kernel_rfl) (by kernel_rfl) (fun _ _ _ h => h) (Or.inl ⟨by rfl, ?_⟩) (by assumption) ?_
          rotate_left
          · intro w hSw
            try dsimp only at hSw
            go_simp
            all_goals with_reducible rfl
          refine wpAnyH_take (i := 15) (v := ?_) rfl (by kernel_rfl) (by kernel_rfl) (by kernel_rfl) (fun _ _ _ h => h) (Or.inl ⟨by rfl, ?_⟩) (by assumption) ?_
          rotate_left
          · intro w hSw
            try dsimp only at hSw
            go_simp
            all_goals with_reducible rfl
          refine wpAnyH_take (i := 16) (v := ?_) rfl (by kernel_rfl) (by kernel_rfl) (by kernel_rfl) (fun _ _ _ h => h) (Or.inl ⟨by rfl, ?_⟩) (by assumption) ?_
          rotate_left
          · intro w hSw
            try dsimp only at hSw
            go_simp
            all_goals with_reducible rfl
          refine wpAnyH_take (i := 17) (v := ?_) rfl (by kernel_rfl) (by kernel_rfl) (by kernel_rfl) (fun _ _ _ h => h) (Or.inl ⟨by rfl, ?_⟩) (by assumption) ?_
          rotate_left
          · intro w hSw
            try dsimp only at hSw
            go_simp
            all_goals with_reducible rfl
          refine wpAnyH_take (i := 18) (v := ?_) rfl (by kernel_rfl) (by kernel_rfl) (by kernel_rfl) (fun _ _ _ h => h) (Or.inl ⟨by rfl, ?_⟩) (by assumption) ?_
          rotate_left
          · intro w hSw
            try dsimp only at hSw
            go_simp
            all_goals with_reducible rfl
          refine wpAnyH_take (i := 19) (v := ?_) rfl (by kernel_rfl) (by kernel_rfl) (by kernel_rfl) (fun _ _ _ h => h) (Or.inl ⟨by rfl, ?_⟩) (by assumption) ?_
          rotate_left
          · intro w hSw
            try dsimp only at hSw
            go_simp
            all_goals with_reducible rfl
          refine wpAnyH_ready (rs := [1, 20]) (by kernel_rfl) (by simp) ?_
          refine AllReadyH.cons rfl (fun K hK => ?_) ?_
          · go_simp
            refine hK.out _ _ ?_ (fun hHeld => ?_)
            · try dsimp only
              first | assumption | exact ⟨y0, c0, c1, c2⟩ | exact S6 | exact seen4_set (p := ⟨w.heap.size + 1 + 1, 1, none⟩) S6 hbv hgv _ | exact S5 | exact seen4_alloc S5 _
            clear hK K
            refine wpAnyH_ready (rs := [20]) (by kernel_rfl) (by simp) ?_
            refine AllReadyH.cons rfl (fun K hK => ?_) ?_
            · go_simp
              go_wp2_with (go_at_call 36
                           refine (copied_r _ _ x l e _ hx2).mono ?_
                           rintro e' w5 ⟨b5, d5, rfl, hr5, bd5⟩
                           have bb5 : Below wr.heap.size wr w5 := ⟨bd5.os, bd5.tape, bd5.output, bd5.size, bd5.block⟩
                           clear bd5
                           have S5 := And.intro ((bb5.cell (p := ⟨w.heap.size, 1, none⟩) (by exact hbl)).trans y0) (And.intro ((bb5.cell (p := ⟨g, off + j * 3, none⟩) (by exact hgl)).trans c0) (And.intro ((bb5.cell (p := ⟨g, off + j * 3 + 1, none⟩) (by exact hgl)).trans c1) ((bb5.cell (p := ⟨g, off + j * 3 + 2, none⟩) (by exact hgl)).trans c2)))
                           have y6 : w5.cell? ⟨w.heap.size + 1 + 1, 1, none⟩ = some u := (bb5.cell (p := ⟨w.heap.size + 1 + 1, 1, none⟩) (by exact hbl2)).trans y1
                           have hbl5 : w.heap.size + 1 + 1 < w5.heap.size := by have := bb5.size; omega)
              refine hK.out _ _ ?_ (fun hHeld => ?_)
              · try dsimp only
                first | assumption | exact ⟨y0, c0, c1, c2⟩ | exact S6 | exact seen4_set (p := ⟨w.heap.size + 1 + 1, 1, none⟩) S6 hbv hgv _ | exact S5 | exact seen4_alloc S5 _
              clear hK K
              refine wpAnyH_take (i := 21) (v := ?_) rfl (by kernel_rfl) (by kernel_rfl) (by kernel_rfl) (fun _ _ _ h => h) (Or.inl ⟨by rfl, ?_⟩) (by assumption) ?_
              rotate_left
              · intro w hSw
                try dsimp only at hSw
                go_simp
                all_goals with_reducible rfl
              refine wpAnyH_ready (rs := [22]) (by kernel_rfl) (by simp) ?_
              refine AllReadyH.cons rfl (fun K hK => ?_) ?_
              · go_simp
                refine hK.out _ _ ?_ (fun hHeld => ?_)
                · try dsimp only
                  first | assumption | exact ⟨y0, c0, c1, c2⟩ | exact S6 | exact seen4_set (p := ⟨w.heap.size + 1 + 1, 1, none⟩) S6 hbv hgv _ | exact S5 | exact seen4_alloc S5 _
                clear hK K
                refine wpAnyH_ready (rs := [23]) (by kernel_rfl) (by simp) ?_
                refine AllReadyH.cons rfl (fun K hK => ?_) ?_
                · refine step_append_rep elem_refWaits rfl (.tmp 35) (.tmp 56) rfl w3.heap.size u N (by simp [Act.eval]) (F.out.owns bb5 _) ⟨w5.heap.size, 0, none⟩ [.int .i64 what, .int .i64 pos, .slice b5 l d5] (what, pos, X) (by simp [Act.eval]) (cell_three_new _ _ _ _ _) (F.out.elem (act_rd k0 k1 hr5) (fun b hb => hb) _) (by rw [hnl]; exact hok.out.1) (by rw [hnl]; exact hok.out.2) (F.out.size bb5 _) ?_
                  intro b6 d6 w6 ho6 g6
                  rw [hnl] at ho6
                  have V6 : Hid _ := F.out.var V'.out hvb3 bb5 g6
                  have S6 := seen4_grown (seen4_alloc S5 _) g6 (fun h => by have := (F.out.own.row _ h).1; omega) (fun h => by have := (F.out.own.row _ h).1; omega)
                  have y7 := V6.out.c1
                  have f7 := V6.out.f 1
                  try go_simp
                  refine hK.out _ _ ?_ (fun hHeld => ?_)
                  · try dsimp only
                    first | assumption | exact ⟨y0, c0, c1, c2⟩ | exact S6 | exact seen4_set (p := ⟨w.heap.size + 1 + 1, 1, none⟩) S6 hbv hgv _ | exact S5 | exact seen4_alloc S5 _
                  clear hK K
                  refine wpAnyH_take (i := 24) (v := ?_) rfl (by kernel_rfl) (by kernel_rfl) (by kernel_rfl) (fun _ _ _ h => h) (Or.inl ⟨by rfl, ?_⟩) (by assumption) ?_
                  rotate_left
                  · intro w hSw
                    try dsimp only at hSw
                    go_simp
                    all_goals with_reducible rfl
                  refine wpAnyH_ready (rs := [25]) (by kernel_rfl) (by simp) ?_
                  refine AllReadyH.cons rfl (fun K hK => ?_) ?_
                  · go_simp
                    refine hK.out _ _ ?_ (fun hHeld => ?_)
                    · try dsimp only
                      first | assumption | exact ⟨y0, c0, c1, c2⟩ | exact S6 | exact seen4_set (p := ⟨w.heap.size + 1 + 1, 1, none⟩) S6 hbv hgv _ | exact S5 | exact seen4_alloc S5 _
                    clear hK K
                    refine wpAnyH_done (by kernel_rfl) ?_ _
                    go_wp2
                    go_roundw
                    case rel => exact ⟨j + 1, _, N ++ [(what, pos, X)], by omega, by go_num, by simp [hnl], HNX, F.out.next hvb3 bb5 g6 ho6, V6.out.set1 _⟩
                    case measure => simp [intOf]; omega
                  exact AllReadyH.nil
                exact AllReadyH.nil
              exact AllReadyH.nil
            exact AllReadyH.nil
          refine AllReadyH.cons rfl (fun K hK => ?_) ?_
          · go_simp
            go_wp2_with (go_at_call 36
                         refine (copied_r _ _ x l e _ hx2).mono ?_
                         rintro e' w5 ⟨b5, d5, rfl, hr5, bd5⟩
                         have bb5 : Below wr.heap.size wr w5 := ⟨bd5.os, bd5.tape, bd5.output, bd5.size, bd5.block⟩
                         clear bd5
                         have S5 := And.intro ((bb5.cell (p := ⟨w.heap.size, 1, none⟩) (by exact hbl)).trans y0) (And.intro ((bb5.cell (p := ⟨g, off + j * 3, none⟩) (by exact hgl)).trans c0) (And.intro ((bb5.cell (p := ⟨g, off + j * 3 + 1, none⟩) (by exact hgl)).trans c1) ((bb5.cell (p := ⟨g, off + j * 3 + 2, none⟩) (by exact hgl)).trans c2)))
                         have y6 : w5.cell? ⟨w.heap.size + 1 + 1, 1, none⟩ = some u := (bb5.cell (p := ⟨w.heap.size + 1 + 1, 1, none⟩) (by exact hbl2)).trans y1
                         have hbl5 : w.heap.size + 1 + 1 < w5.heap.size := by have := bb5.size; omega)
            refine hK.out _ _ ?_ (fun hHeld => ?_)
            · try dsimp only
              first | assumption | exact ⟨y0, c0, c1, c2⟩ | exact S6 | exact seen4_set (p := ⟨w.heap.size + 1 + 1, 1, none⟩) S6 hbv hgv _ | exact S5 | exact seen4_alloc S5 _
            clear hK K
            refine wpAnyH_take (i := 21) (v := ?_) rfl (by kernel_rfl) (by kernel_rfl) (by kernel_rfl) (fun _ _ _ h => h) (Or.inl ⟨by rfl, ?_⟩) (by assumption) ?_
            rotate_left
            · intro w hSw
              try dsimp only at hSw
              go_simp
              all_goals with_reducible rfl
            refine wpAnyH_ready (rs := [1, 22]) (by kernel_rfl) (by simp) ?_
            refine AllReadyH.cons rfl (fun K hK => ?_) ?_
            · go_simp
              refine hK.out _ _ ?_ (fun hHeld => ?_)
              · try dsimp only
                first | assumption | exact ⟨y0, c0, c1, c2⟩ | exact S6 | exact seen4_set (p := ⟨w.heap.size + 1 + 1, 1, none⟩) S6 hbv hgv _ | exact S5 | exact seen4_alloc S5 _
              clear hK K
              refine wpAnyH_ready (rs := [22]) (by kernel_rfl) (by simp) ?_
              refine AllReadyH.cons rfl (fun K hK => ?_) ?_
              · go_simp
                refine hK.out _ _ ?_ (fun hHeld => ?_)
                · try dsimp only
                  first | assumption | exact ⟨y0, c0, c1, c2⟩ | exact S6 | exact seen4_set (p := ⟨w.heap.size + 1 + 1, 1, none⟩) S6 hbv hgv _ | exact S5 | exact seen4_alloc S5 _
                clear hK K
                refine wpAnyH_ready (rs := [23]) (by kernel_rfl) (by simp) ?_
                refine AllReadyH.cons rfl (fun K hK => ?_) ?_
                · refine step_append_rep elem_refWaits rfl (.tmp 35) (.tmp 56) rfl w3.heap.size u N (by simp [Act.eval]) (F.out.owns bb5 _) ⟨w5.heap.size, 0, none⟩ [.int .i64 what, .int .i64 pos, .slice b5 l d5] (what, pos, X) (by simp [Act.eval]) (cell_three_new _ _ _ _ _) (F.out.elem (act_rd k0 k1 hr5) (fun b hb => hb) _) (by rw [hnl]; exact hok.out.1) (by rw [hnl]; exact hok.out.2) (F.out.size bb5 _) ?_
                  intro b6 d6 w6 ho6 g6
                  rw [hnl] at ho6
                  have V6 : Hid _ := F.out.var V'.out hvb3 bb5 g6
                  have S6 := seen4_grown (seen4_alloc S5 _) g6 (fun h => by have := (F.out.own.row _ h).1; omega) (fun h => by have := (F.out.own.row _ h).1; omega)
                  have y7 := V6.out.c1
                  have f7 := V6.out.f 1
                  try go_simp
                  refine hK.out _ _ ?_ (fun hHeld => ?_)
                  · try dsimp only
                    first | assumption | exact ⟨y0, c0, c1, c2⟩ | exact S6 | exact seen4_set (p := ⟨w.heap.size + 1 + 1, 1, none⟩) S6 hbv hgv _ | exact S5 | exact seen4_alloc S5 _
                  clear hK K
                  refine wpAnyH_take (i := 24) (v := ?_) rfl (by kernel_rfl) (by kernel_rfl) (by kernel_rfl) (fun _ _ _ h => h) (Or.inl ⟨by rfl, ?_⟩) (by assumption) ?_
                  rotate_left
                  · intro w hSw
                    try dsimp only at hSw
                    go_simp
                    all_goals with_reducible rfl
                  refine wpAnyH_ready (rs := [25]) (by kernel_rfl) (by simp) ?_
                  refine AllReadyH.cons rfl (fun K hK => ?_) ?_
                  · go_simp
                    refine hK.out _ _ ?_ (fun hHeld => ?_)
                    · try dsimp only
                      first | assumption | exact ⟨y0, c0, c1, c2⟩ | exact S6 | exact seen4_set (p := ⟨w.heap.size + 1 + 1, 1, none⟩) S6 hbv hgv _ | exact S5 | exact seen4_alloc S5 _
                    clear hK K
                    refine wpAnyH_done (by kernel_rfl) ?_ _
                    go_wp2
                    go_roundw
                    case rel => exact ⟨j + 1, _, N ++ [(what, pos, X)], by omega, by go_num, by simp [hnl], HNX, F.out.next hvb3 bb5 g6 ho6, V6.out.set1 _⟩
                    case measure => simp [intOf]; omega
                  exact AllReadyH.nil
                exact AllReadyH.nil
              exact AllReadyH.nil
            refine AllReadyH.cons rfl (fun K hK => ?_) ?_
            · go_simp
              refine hK.out _ _ ?_ (fun hHeld => ?_)
              · try dsimp only
                first | assumption | exact ⟨y0, c0, c1, c2⟩ | exact S6 | exact seen4_set (p := ⟨w.heap.size + 1 + 1, 1, none⟩) S6 hbv hgv _ | exact S5 | exact seen4_alloc S5 _
              clear hK K
              refine wpAnyH_ready (rs := [1]) (by kernel_rfl) (by simp) ?_
              refine AllReadyH.cons rfl (fun K hK => ?_) ?_
              · go_simp
                refine hK.out _ _ ?_ (fun hHeld => ?_)
                · try dsimp only
                  first | assumption | exact ⟨y0, c0, c1, c2⟩ | exact S6 | exact seen4_set (p := ⟨w.heap.size + 1 + 1, 1, none⟩) S6 hbv hgv _ | exact S5 | exact seen4_alloc S5 _
                clear hK K
                refine wpAnyH_ready (rs := [23]) (by kernel_rfl) (by simp) ?_
                refine AllReadyH.cons rfl (fun K hK => ?_) ?_
                · refine step_append_rep elem_refWaits rfl (.tmp 35) (.tmp 56) rfl w3.heap.size u N (by simp [Act.eval]) (F.out.owns bb5 _) ⟨w5.heap.size, 0, none⟩ [.int .i64 what, .int .i64 pos, .slice b5 l d5] (what, pos, X) (by simp [Act.eval]) (cell_three_new _ _ _ _ _) (F.out.elem (act_rd k0 k1 hr5) (fun b hb => hb) _) (by rw [hnl]; exact hok.out.1) (by rw [hnl]; exact hok.out.2) (F.out.size bb5 _) ?_
                  intro b6 d6 w6 ho6 g6
                  rw [hnl] at ho6
                  have V6 : Hid _ := F.out.var V'.out hvb3 bb5 g6
                  have S6 := seen4_grown (seen4_alloc S5 _) g6 (fun h => by have := (F.out.own.row _ h).1; omega) (fun h => by have := (F.out.own.row _ h).1; omega)
                  have y7 := V6.out.c1
                  have f7 := V6.out.f 1
                  try go_simp
                  refine hK.out _ _ ?_ (fun hHeld => ?_)
                  · try dsimp only
                    first | assumption | exact ⟨y0, c0, c1, c2⟩ | exact S6 | exact seen4_set (p := ⟨w.heap.size + 1 + 1, 1, none⟩) S6 hbv hgv _ | exact S5 | exact seen4_alloc S5 _
                  clear hK K
                  refine wpAnyH_take (i := 24) (v := ?_) rfl (by kernel_rfl) (by kernel_rfl) (by kernel_rfl) (fun _ _ _ h => h) (Or.inl ⟨by rfl, ?_⟩) (by assumption) ?_
                  rotate_left
                  · intro w hSw
                    try dsimp only at hSw
                    go_simp
                    all_goals with_reducible rfl
                  refine wpAnyH_ready (rs := [25]) (by kernel_rfl) (by simp) ?_
                  refine AllReadyH.cons rfl (fun K hK => ?_) ?_
                  · go_simp
                    refine hK.out _ _ ?_ (fun hHeld => ?_)
                    · try dsimp only
                      first | assumption | exact ⟨y0, c0, c1, c2⟩ | exact S6 | exact seen4_set (p := ⟨w.heap.size + 1 + 1, 1, none⟩) S6 hbv hgv _ | exact S5 | exact seen4_alloc S5 _
                    clear hK K
                    refine wpAnyH_done (by kernel_rfl) ?_ _
                    go_wp2
                    go_roundw
                    case rel => exact ⟨j + 1, _, N ++ [(what, pos, X)], by omega, by go_num, by simp [hnl], HNX, F.out.next hvb3 bb5 g6 ho6, V6.out.set1 _⟩
                    case measure => simp [intOf]; omega
                  exact AllReadyH.nil
                exact AllReadyH.nil
              exact AllReadyH.nil
            exact AllReadyH.nil
          exact AllReadyH.nil
        · obtain rfl : j = m := by omega
          obtain ⟨a7, c7, rfl, hL7⟩ := hS3.out
          rw [List.take_of_length_le (by rw [HM.out]; exact Nat.le_refl _)] at HNj
          obtain ⟨a8, c8, hu8, hW8⟩ := Owns.rd (hs := by decide) F.out.own (by rw [hnl]; show j * 40 ≤ _; omega)
          rw [hnl] at hu8 hW8
          rw [HNj.out] at hW8
          subst hu8
          have hO8 := F.out.own
          rw [HNj.out] at hO8
          have hL8 := Rep.kept (rSectors.weaken hL7 (P' := fun b => w2.heap.size ≤ b ∧ b < w3.heap.size) (fun b hb hl => ⟨hb, hl⟩)) F.out.kept (fun b hb hl => ⟨hl, by omega⟩)
          have hz8 : w3.heap.size ≤ wr.heap.size := F.out.kept.size
          have bel8 : Below w.heap.size w wr := bel3.trans ⟨F.out.kept.os, F.out.kept.tape, F.out.kept.output, F.out.kept.size, fun b hb => F.out.kept.block b ⟨by omega, by omega⟩⟩
          have q0 := V'.out.c0
          have q1 := V'.out.c1
          have q2 := V'.out.c2
          have VR4 : Var3 wr (w.heap.size + 1) (.slice none 0 0) (.slice none 0 0) (.int .i64 0) := VR3.keep (F.out.kept.block _ (by show w.heap.size + 1 < _ ∧ w.heap.size + 1 ≠ _; omega))
          have r0 := VR4.c0
          have r1 := VR4.c1
          have r2 := VR4.c2
          have f0 := VR4.f 0
          have f1 := VR4.f 1
          have f2 := VR4.f 2
          clear hW3
          go_wp2
          have kf : ∀ b, b ≠ w.heap.size + 1 → (((wr.setCell ⟨w.heap.size + 1, 0, none⟩ (.slice a7 k c7)).setCell ⟨w.heap.size + 1, 1, none⟩ (.slice a8 j c8)).setCell ⟨w.heap.size + 1, 2, none⟩ (.int .i64 cp)).heap[b]? = wr.heap[b]? := by
            intro b hb
            rw [Below.heap_setCell _ _ _ _ hb, Below.heap_setCell _ _ _ _ hb, Below.heap_setCell _ _ _ _ hb]
          have VF := ((VR4.set0 (.slice a7 k c7)).set1 (.slice a8 j c8)).set2 (.int .i64 cp)
          refine bodyPost_ret (v := .agg #[.slice a7 k c7, .slice a8 j c8, .int .i64 cp]) (results_var3 rfl rfl VF Try.underlying25 rfl (by kernel_rfl)) rfl ⟨a7, k, c7, a8, j, c8, w3.heap.size, rfl, by omega, by simp only [World.size_setCell]; exact hz8, ?_, ?_, ?_⟩
          · exact rSectors.weaken (rSectors.keep hL8 (fun b hb _ => kf b (by omega))) (fun b hb _ => ⟨by omega, hb.2⟩)
          · exact ((hO8.setCell (p := ⟨w.heap.size + 1, 0, none⟩) (by show w.heap.size + 1 < _; omega) _).setCell (p := ⟨w.heap.size + 1, 1, none⟩) (by show w.heap.size + 1 < _; omega) _).setCell (p := ⟨w.heap.size + 1, 2, none⟩) (by show w.heap.size + 1 < _; omega) _
          · exact ((bel8.setCell (p := ⟨w.heap.size + 1, 0, none⟩) (by show w.heap.size ≤ w.heap.size + 1; omega) _).setCell (p := ⟨w.heap.size + 1, 1, none⟩) (by show w.heap.size ≤ w.heap.size + 1; omega) _).setCell (p := ⟨w.heap.size + 1, 2, none⟩) (by show w.heap.size ≤ w.heap.size + 1; omega) _

/-- A list of the call's own and sectors ahead of it: a host. -/
theorem host_of {w : World} {e : TypeId} {base B : Nat} {a7 a8 : Option Addr} {n7 c7 m8 c8 : Nat} {L : List (List UInt8)} {W : List Act} {cp : Int} (hB : base ≤ B) (hL : rSectors.rd w (fun b => base ≤ b ∧ b < B) [.slice a7 n7 c7] L) (hO : Owns rAct e w B (.slice a8 m8 c8) W)
    (hm : W.length ≤ 3518437208780) (h1 : -9223372036854775808 ≤ cp) (h2 : cp ≤ 9223372036854775807) : rHost.rd w (fun b => base ≤ b) [.slice a7 n7 c7, .slice a8 m8 c8, .int .i64 cp] (L, W, cp) := by
  obtain ⟨a, c, e1, e2⟩ := Owns.rd (hs := by decide) hO (by show W.length * 40 ≤ _; omega)
  simp only [Value.slice.injEq] at e1
  obtain ⟨rfl, rfl, rfl⟩ := e1
  exact ⟨[_], [_, _], rfl, rSectors.weaken hL (fun b hb _ => hb.1), [_], [_], rfl, rWaits.weaken e2 (fun b hb _ => by have h1 : B ≤ b := hb; omega), rfl, h1, h2⟩

theorem refOwn_u (w : World) (P : Nat → Prop) (cs : List Value) (s : Host) (hS : rHost.rd w P cs s) :
    Calls Try.prog 35 #[.agg cs.toArray] w fun e w' => ∃ cs', e = .returned (.agg cs'.toArray) ∧ rHost.rd w' (fun b => w.heap.size ≤ b) cs' s ∧ Below w.heap.size w w' := by
  obtain ⟨a, n, c, b, m, d, -, -, -, -, hm, h1, h2, -, h3⟩ := rHost_cells hS
  refine (refOwn_o w P cs s hS).mono ?_
  rintro e w' ⟨a7, n7, c7, a8, m8, c8, B, rfl, hB, -, hL, hO, hb⟩
  exact ⟨[.slice a7 n7 c7, .slice a8 m8 c8, .int .i64 s.2.2], rfl, host_of hB hL hO (by rw [hm]; exact h3) h1 h2, hb⟩

end Go.Proofs.Ytckcicomkapdeaa
