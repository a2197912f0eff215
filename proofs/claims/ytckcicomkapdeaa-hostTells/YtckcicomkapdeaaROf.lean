/-
  The contract of the laws' own copy of a host for the program. Conditions: those that it names.
-/
import Derived.Test.YtckcicomkapdeaaHWith
import Derived.Deep.DeepCutAuto
import Derived.Deep.RegionHeldLaw
namespace Go.Proofs.Ytckcicomkapdeaa
open Go.RowKit
set_option linter.unusedVariables false

set_option maxHeartbeats 4000000 in
theorem of_u (w : World) (P : Nat → Prop) (cs : List Value) (s : Host) (hS : rHost.rd w P cs s) :
    Calls Try.prog 9 #[.agg cs.toArray] w fun e w' => ∃ cs', e = .returned (.agg cs'.toArray) ∧ rHost.rd w' (fun b => w.heap.size ≤ b) cs' s ∧ Below w.heap.size w w' := by
  obtain ⟨a, n, c, b, m, d, rfl, hA, hW, hn, hm, hc1, hc2, hn2, hm2⟩ := rHost_cells hS
  obtain ⟨L, W, cp⟩ := s
  obtain ⟨w0, hw0, -, -, -, b0, z0⟩ := boxed3 w 25 (.slice a n c) (.slice b m d) (.int .i64 cp)
  obtain ⟨w1, hw1, -, -, -, b1, z1⟩ := boxed3 w0 30 (.slice none 0 0) (.slice none 0 0) (.int .i64 0)
  have x0 : Var3 w0 w.heap.size (.slice a n c) (.slice b m d) (.int .i64 cp) := by rw [← hw0]; exact var3_new _ _ _ _ _
  have v1 : Var3 w1 w0.heap.size (.slice none 0 0) (.slice none 0 0) (.int .i64 0) := by rw [← hw1]; exact var3_new _ _ _ _ _
  rw [z0] at v1
  simp only at hn hm hc1 hc2 hA hW
  have HN : Hid _ := hn
  have HM : Hid _ := hm
  have X1 : Hid _ := x0.below b1
  have V1 : Hid _ := v1
  have bel : Below w.heap.size w w1 := on b0 b1
  have hA1 : rSectors.rd w1 (fun b => b < w.heap.size) [.slice a n c] L := Rep.below (rSectors.weaken hA (P' := fun b => b < w.heap.size) (fun b _ hl => hl)) bel
  have hW1 : rWaits.rd w1 (fun b => b < w.heap.size) [.slice b m d] W := Rep.below (rWaits.weaken hW (P' := fun b => b < w.heap.size) (fun b _ hl => hl)) bel
  have hs1 : w1.heap.size = w.heap.size + 2 := by omega
  have q0 := X1.out.c0
  have q1 := X1.out.c1
  have q2 := X1.out.c2
  clear hS hn hm x0 v1 hA hW b0 b1
  go_enter Try.func9, Try.ntmps9
  go_wp2
  have HS1 : Hid _ := hs1
  have hlt1 : w.heap.size < w1.heap.size := by omega
  clear hw0 hw1 z0 z1 hs1
  go_cut [3] (fun t wx => ∃ vb b2 d2, t = .pointer (some ⟨vb, 0, none⟩) ∧ w1.heap.size ≤ vb ∧ Hid (Var3 wx vb (.slice b2 n d2) (.slice none 0 0) (.int .i64 cp)) ∧ Hid (rSectors.rd wx (fun k => w1.heap.size ≤ k ∧ k ≠ vb) [.slice b2 n d2] L) ∧ Below w1.heap.size w1 wx)
  case first =>
    have hD : rSectors.rd w1.drew (fun b => b < w.heap.size) [.slice a n c] L := hA1
    have hDA : rSectors.rd (w1.drew.alloc (.cells #[.slice none 0 0, .slice none 0 0, .int .i64 0] 30)) (fun b => b < w.heap.size) [.slice a n c] L := Rep.below hD ((Below.refl _ _).alloc (Nat.le_refl _) _)
    have XA : Hid (Var3 (w1.drew.alloc (.cells #[.slice none 0 0, .slice none 0 0, .int .i64 0] 30)) w.heap.size (.slice a n c) (.slice b m d) (.int .i64 cp)) := Var3.below (w := w1.drew) ⟨X1.out.c0, X1.out.c1, X1.out.c2, X1.out.f⟩ ((Below.refl _ _).alloc (Nat.le_refl _) _)
    have VA : Hid (Var3 (w1.drew.alloc (.cells #[.slice none 0 0, .slice none 0 0, .int .i64 0] 30)) w1.heap.size (.slice none 0 0) (.slice none 0 0) (.int .i64 0)) := var3_new w1.drew _ _ _ _
    have BA : Hid (Below w1.heap.size w1 (w1.drew.alloc (.cells #[.slice none 0 0, .slice none 0 0, .int .i64 0] 30))) := ((Below.refl _ w1).drew).alloc (Nat.le_refl _) _
    go_region_law (go_simp; go_at_call 32; first
      | (refine (copyList_r _ _ a n c L hD).mono ?_; rintro e w5 ⟨b5, d5, rfl, hr5, bd5⟩; have bb5 := same_drew bd5; clear bd5; have X5 : Hid _ := X1.out.below bb5; have a0 := X5.out.c0; have a1 := X5.out.c1; have a2 := X5.out.c2; have hbl5 : w.heap.size < w5.heap.size := (by have := bb5.size; omega))
      | (refine (copyList_r _ _ a n c L hDA).mono ?_; rintro e w5 ⟨b5, d5, rfl, hr5, bd5⟩; have X5 : Hid _ := XA.out.below bd5; have a0 := X5.out.c0; have a1 := X5.out.c1; have a2 := X5.out.c2; have V5 : Hid _ := VA.out.below bd5; have e0 := V5.out.c0; have e1 := V5.out.c1; have e2 := V5.out.c2; have f0 := V5.out.f 0; have f1 := V5.out.f 1; have f2 := V5.out.f 2))
    all_goals go_wp2_with fail
    all_goals go_meet
    all_goals first
      | exact ⟨w5.heap.size, b5, d5, rfl, bb5.size, var3_new _ _ _ _ _, Rep.below (rSectors.weaken hr5 (fun k hk hl => ⟨hk, by omega⟩)) ((Below.refl _ _).alloc (Nat.le_refl _) _), bb5.alloc bb5.size _⟩
      | (have T := V5.out.whole (.slice b5 n d5) (.slice none 0 0) (.int .i64 cp)
         exact ⟨w1.heap.size, b5, d5, rfl, Nat.le_refl _, T.1, rSectors.weaken (Rep.kept hr5 T.2 (fun k hk _ => by have h1 : (w1.drew.alloc (.cells #[.slice none 0 0, .slice none 0 0, .int .i64 0] 30)).heap.size ≤ k := hk; simp only [World.size_alloc] at h1; show k ≠ w1.heap.size; have h2 : w1.drew.heap.size = w1.heap.size := rfl; omega)) (fun k hk _ => by have h1 : (w1.drew.alloc (.cells #[.slice none 0 0, .slice none 0 0, .int .i64 0] 30)).heap.size ≤ k := hk; simp only [World.size_alloc] at h1; have h2 : w1.drew.heap.size = w1.heap.size := rfl; exact ⟨by omega, by omega⟩), Kept.belowOf (on BA.out bd5) T.2 (Nat.le_refl _)⟩)
  case rest =>
    obtain ⟨vb, b2, d2, rfl, hvb1, V2, HL2, bel2⟩ := hcut
    obtain ⟨w3, hw3⟩ : ∃ w3, w3 = wc := ⟨_, rfl⟩
    subst hw3
    have X3 : Hid _ := X1.out.below bel2
    have VR3 : Hid _ := V1.out.below bel2
    have hW3 := Rep.below hW1 bel2
    have hs1 := HS1.out
    have hz3 := bel2.size
    have hvb3 : vb < w3.heap.size := V2.out.lt
    have H0 : Fill rAct 67 w3 w3 vb (.slice none 0 0) (W.take 0) := by rw [List.take_zero]; exact Fill.start _ _ _ _
    have HHS : Hid _ := hs1
    clear hs1 q0 q1 q2 X1 V1 hW1 hA1 HS1
    go_wp2
    go_loopw [4] (fun i wr => ∃ (j : Nat) (u : Value) (N : List Act), j ≤ m ∧ i = .int .i64 j ∧ N.length = j ∧ Hid (N = W.take j) ∧ Hid (Fill rAct 67 w3 wr vb u N) ∧ Hid (Var3 wr vb (.slice b2 n d2) u (.int .i64 cp))) (fun i _ => m - (intOf i).toNat)
    case atStart => exact ⟨0, _, _, Nat.zero_le _, rfl, by simp, rfl, H0, V2⟩
    case round =>
      obtain ⟨j, u, N, hj, rfl, hnl, HNj, F, V'⟩ := hrel
      clear H0 V2
      have hHS := HHS.out
      have y0 := F.out.kept.cell (p := ⟨w.heap.size, 1, none⟩) (by show w.heap.size < _ ∧ w.heap.size ≠ _; omega) X3.out.c1
      by_cases hlt : j < m
      · have hWr := Rep.kept hW3 F.out.kept (fun b hb hl => ⟨hl, by omega⟩)
        obtain ⟨g, off, rfl, hgw, hgl, hat⟩ := rWaits_at hWr (by omega)
        have hjl : j < W.length := by rw [HM.out]; exact hlt
        obtain ⟨x, l, e, hx, hl, c0, c1, c2, k0, k1⟩ := hat j hjl
        have HNX : Hid (N ++ [(W[j].1, W[j].2.1, W[j].2.2)] = W.take (j + 1)) := by unfold Hid; rw [HNj.out, List.take_succ_eq_append_getElem hjl]
        clear hat hl hWr
        have y1 := V'.out.c1
        have fz := V'.out.f 1
        have hbl : w.heap.size < wr.heap.size := by have := F.out.kept.size; omega
        have hbl2 : vb < wr.heap.size := by have := F.out.kept.size; omega
        have hx2 : rBytes.rd wr.drew (fun b => b < w.heap.size) [.slice x l e] W[j].2.2 := hx
        have hok : Hid ((j + 1) * 40 ≤ 140737488355328 ∧ j + 1 ≤ maxLen) := ⟨by omega, by unfold maxLen; omega⟩
        have hbv : ¬ vb = w.heap.size := by omega
        have hgv : ¬ vb = g := by have : g < w.heap.size := hgw; omega
        clear hx hHS
        generalize W[j].1 = what at *
        generalize W[j].2.1 = pos at *
        generalize W[j].2.2 = X at *
        go_wp2
        refine wp_region_held_drew (S := (fun w' : World => w'.cell? ⟨w.heap.size, 1, none⟩ = some (.slice (some ⟨g, off, none⟩) m d) ∧ w'.cell? ⟨g, off + j * 3, none⟩ = some (.int .i64 what) ∧ w'.cell? ⟨g, off + j * 3 + 1, none⟩ = some (.int .i64 pos) ∧ w'.cell? ⟨g, off + j * 3 + 2, none⟩ = some (.slice x l e))) (by kernel_rfl) (⟨y0, c0, c1, c2⟩) (fun hHeld => ?_)
        refine wpAnyH_take (i := 0) (v := ?_) rfl (by kernel_rfl) (by kernel_rfl) (by kernel_rfl) (fun _ _ _ h => h) (Or.inl ⟨by rfl, ?_⟩) (by assumption) ?_
        rotate_left
        · intro w hSw
          try dsimp only at hSw
          go_simp
          all_goals with_reducible rfl
        refine wpAnyH_take (i := 2) (v := ?_) rfl (by kernel_rfl) (by kernel_rfl) (by kernel_rfl) (fun _ _ _ h => h) (Or.inl ⟨by rfl, ?_⟩) (by assumption) ?_
        rotate_left
        · intro w hSw
          try dsimp only at hSw
          go_simp
          all_goals with_reducible rfl
        refine wpAnyH_take (i := 3) (v := ?_) rfl (by kernel_rfl) (by kernel_rfl) (by kernel_rfl) (fun _ _ _ h => h) (Or.inl ⟨by rfl, ?_⟩) (by assumption) ?_
        rotate_left
        · intro w hSw
          try dsimp only at hSw
          go_simp
          all_goals with_reducible rfl
        refine wpAnyH_take (i := 4) (v := ?_) rfl (by kernel_rfl) (by kernel_rfl) (by kernel_rfl) (fun _ _ _ h => h) (Or.inl ⟨by rfl, ?_⟩) (by assumption) ?_
        rotate_left
        · intro w hSw
          try dsimp only at hSw
          go_simp
          all_goals with_reducible rfl
        refine wpAnyH_take (i := 5) (v := ?_) rfl (by kernel_rfl) (by kernel_rfl) (by kernel_rfl) (fun _ _ _ h => h) (Or.inl ⟨by rfl, ?_⟩) (by assumption) ?_
        rotate_left
        · intro w hSw
          try dsimp only at hSw
          go_simp
          all_goals with_reducible rfl
        refine wpAnyH_take (i := 6) (v := ?_) rfl (by kernel_rfl) (by kernel_rfl) (by kernel_rfl) (fun _ _ _ h => h) (Or.inl ⟨by rfl, ?_⟩) (by assumption) ?_
        rotate_left
        · intro w hSw
          try dsimp only at hSw
          go_simp
          all_goals with_reducible rfl
        refine wpAnyH_take (i := 7) (v := ?_) rfl (by kernel_rfl) (by kernel_rfl) (by kernel_rfl) (fun _ _ _ h => h) (Or.inl ⟨by rfl, ?_⟩) (by assumption) ?_
        rotate_left
        · intro w hSw
          try dsimp only at hSw
          go_simp
          all_goals with_reducible rfl
        refine wpAnyH_take (i := 8) (v := ?_) rfl (by kernel_rfl) (by kernel_rfl) (by kernel_rfl) (fun _ _ _ h => h) (Or.inl ⟨by rfl, ?_⟩) (by assumption) ?_
        rotate_left
        · intro w hSw
          try dsimp only at hSw
          go_simp
          all_goals with_reducible rfl
        refine wpAnyH_take (i := 9) (v := ?_) rfl (by kernel_rfl) (by kernel_rfl) (by kernel_rfl) (fun _ _ _ h => h) (Or.inl ⟨by rfl, ?_⟩) (by assumption) ?_
        rotate_left
        · intro w hSw
          try dsimp only at hSw
          go_simp
          all_goals with_reducible rfl
        refine wpAnyH_take (i := 10) (v := ?_) rfl (by kernel_rfl) (by kernel_rfl) (by kernel_rfl) (fun _ _ _ h => h) (Or.inl ⟨by rfl, ?_⟩) (by assumption) ?_
        rotate_left
        · intro w hSw
          try dsimp only at hSw
          go_simp
          all_goals with_reducible rfl
        refine wpAnyH_take (i := 11) (v := ?_) rfl (by kernel_rfl) (by kernel_rfl) (by kernel_rfl) (fun _ _ _ h => h) (Or.inl ⟨by rfl, ?_⟩) (by assumption) ?_
        rotate_left
        · intro w hSw
          try dsimp only at hSw
          go_simp
          all_goals with_reducible rfl
        refine wpAnyH_take (i := 12) (v := ?_) rfl (by kernel_rfl) (by kernel_rfl) (by kernel_rfl) (fun _ _ _ h => h) (Or.inl ⟨by rfl, ?_⟩) (by assumption) ?_
        rotate_left
        · intro w hSw
          try dsimp only at hSw
          go_simp
          all_goals with_reducible rfl
        refine wpAnyH_take (i := 13) (v := ?_) rfl (by kernel_rfl) (by kernel_rfl) (by kernel_rfl) (fun _ _ _ h => h) (Or.inl ⟨by rfl, ?_⟩) (by assumption) ?_
        rotate_left
        · intro w hSw
          try dsimp only at hSw
          go_simp
          all_goals with_reducible rfl
        refine wpAnyH_take (i := 14) (v := ?_) rfl (by kernel_rfl) (by kernel_rfl) (by kernel_rfl) (fun _ _ _ h => h) (Or.inl ⟨by rfl, ?_⟩) (by assumption) ?_
        rotate_left
        · intro w hSw
          try dsimp only at hSw
          go_simp
          all_goals with_reducible rfl
        refine wpAnyH_take (i := 15) (v := ?_) rfl (by kernel_rfl) (by kernel_rfl) (by kernel_rfl) (fun _ _ _ h => h) (Or.inl ⟨by rfl, ?_⟩) (by assumption) ?_
        rotate_left
        · intro w hSw
          try dsimp only at hSw
          go_simp
          all_goals with_reducible rfl
        refine wpAnyH_take (i := 16) (v := ?_) rfl (by kernel_rfl) (by kernel_rfl) (by kernel_rfl) (fun _ _ _ h => h) (Or.inl ⟨by rfl, ?_⟩) (by assumption) ?_
        rotate_left
        · intro w hSw
          try dsimp only at hSw
          go_simp
          all_goals with_reducible rfl
        refine wpAnyH_take (i := 17) (v := ?_) rfl (by kernel_rfl) (by kernel_rfl) (by kernel_rfl) (fun _ _ _ h => h) (Or.inl ⟨by rfl, ?_⟩) (by assumption) ?_
        rotate_left
        · intro w hSw
          try dsimp only at hSw
          go_simp
          all_goals with_reducible rfl
        refine wpAnyH_take (i := 18) (v := ?_) rfl (by kernel_rfl) (by kernel_rfl) (by kernel_rfl) (fun _ _ _ h => h) (Or.inl ⟨by rfl, ?_⟩) (by assumption) ?_
        rotate_left
        · intro w hSw
          try dsimp only at hSw
          go_simp
          all_goals with_reducible rfl
        refine wpAnyH_take (i := 19) (v := ?_) rfl (by kernel_rfl) (by kernel_rfl) (by kernel_rfl) (fun _ _ _ h => h) (Or.inl ⟨by rfl, ?_⟩) (by assumption) ?_
        rotate_left
        · intro w hSw
          try dsimp only at hSw
          go_simp
          all_goals with_reducible rfl
        refine wpAnyH_ready (rs := [1, 20]) (by kernel_rfl) (by simp) ?_
        refine AllReadyH.cons rfl (fun K hK => ?_) ?_
        · go_simp
          refine hK.out _ _ ?_ (fun hHeld => ?_)
          · try dsimp only
            first | assumption | exact ⟨y0, c0, c1, c2⟩ | exact S6 | exact seen4_set (p := ⟨vb, 1, none⟩) S6 hbv hgv _ | exact S5 | exact seen4_alloc S5 _
          clear hK K
          refine wpAnyH_ready (rs := [20]) (by kernel_rfl) (by simp) ?_
          refine AllReadyH.cons rfl (fun K hK => ?_) ?_
          · go_simp
            go_wp2_with (go_at_call 10
                         refine (copy_r _ _ x l e _ hx2).mono ?_
                         rintro e' w5 ⟨b5, d5, rfl, hr5, bd5⟩
                         have bb5 : Below wr.heap.size wr w5 := ⟨bd5.os, bd5.tape, bd5.output, bd5.size, bd5.block⟩
                         clear bd5
                         have S5 := And.intro ((bb5.cell (p := ⟨w.heap.size, 1, none⟩) (by exact hbl)).trans y0) (And.intro ((bb5.cell (p := ⟨g, off + j * 3, none⟩) (by exact hgl)).trans c0) (And.intro ((bb5.cell (p := ⟨g, off + j * 3 + 1, none⟩) (by exact hgl)).trans c1) ((bb5.cell (p := ⟨g, off + j * 3 + 2, none⟩) (by exact hgl)).trans c2)))
                         have y6 : w5.cell? ⟨vb, 1, none⟩ = some u := (bb5.cell (p := ⟨vb, 1, none⟩) (by exact hbl2)).trans y1
                         have hbl5 : vb < w5.heap.size := by have := bb5.size; omega)
            refine hK.out _ _ ?_ (fun hHeld => ?_)
            · try dsimp only
              first | assumption | exact ⟨y0, c0, c1, c2⟩ | exact S6 | exact seen4_set (p := ⟨vb, 1, none⟩) S6 hbv hgv _ | exact S5 | exact seen4_alloc S5 _
            clear hK K
            refine wpAnyH_take (i := 21) (v := ?_) rfl (by kernel_rfl) (by kernel_rfl) (by kernel_rfl) (fun _ _ _ h => h) (Or.inl ⟨by rfl, ?_⟩) (by assumption) ?_
            rotate_left
            · intro w hSw
              try dsimp only at hSw
              go_simp
              all_goals with_reducible rfl
            refine wpAnyH_ready (rs := [22]) (by kernel_rfl) (by simp) ?_
            refine AllReadyH.cons rfl (fun K hK => ?_) ?_
            · go_simp
              refine hK.out _ _ ?_ (fun hHeld => ?_)
              · try dsimp only
                first | assumption | exact ⟨y0, c0, c1, c2⟩ | exact S6 | exact seen4_set (p := ⟨vb, 1, none⟩) S6 hbv hgv _ | exact S5 | exact seen4_alloc S5 _
              clear hK K
              refine wpAnyH_ready (rs := [23]) (by kernel_rfl) (by simp) ?_
              refine AllReadyH.cons rfl (fun K hK => ?_) ?_
              · refine step_append_rep elem_waits rfl (.tmp 19) (.tmp 40) rfl w3.heap.size u N (by simp [Act.eval]) (F.out.owns bb5 _) ⟨w5.heap.size, 0, none⟩ [.int .i64 what, .int .i64 pos, .slice b5 l d5] (what, pos, X) (by simp [Act.eval]) (cell_three_new _ _ _ _ _) (F.out.elem (act_rd k0 k1 hr5) (fun b hb => hb) _) (by rw [hnl]; exact hok.out.1) (by rw [hnl]; exact hok.out.2) (F.out.size bb5 _) ?_
                intro b6 d6 w6 ho6 g6
                rw [hnl] at ho6
                have V6 : Hid _ := F.out.var V'.out hvb3 bb5 g6
                have S6 := seen4_grown (seen4_alloc S5 _) g6 (fun h => by have := (F.out.own.row _ h).1; omega) (fun h => by have := (F.out.own.row _ h).1; omega)
                have y7 := V6.out.c1
                have f7 := V6.out.f 1
                try go_simp
                refine hK.out _ _ ?_ (fun hHeld => ?_)
                · try dsimp only
                  first | assumption | exact ⟨y0, c0, c1, c2⟩ | exact S6 | exact seen4_set (p := ⟨vb, 1, none⟩) S6 hbv hgv _ | exact S5 | exact seen4_alloc S5 _
                clear hK K
                refine wpAnyH_take (i := 24) (v := ?_) rfl (by kernel_rfl) (by kernel_rfl) (by kernel_rfl) (fun _ _ _ h => h) (Or.inl ⟨by rfl, ?_⟩) (by assumption) ?_
                rotate_left
                · intro w hSw
                  try dsimp only at hSw
                  go_simp
                  all_goals with_reducible rfl
                refine wpAnyH_ready (rs := [25]) (by kernel_rfl) (by simp) ?_
                refine AllReadyH.cons rfl (fun K hK => ?_) ?_
                · go_simp
                  refine hK.out _ _ ?_ (fun hHeld => ?_)
                  · try dsimp only
                    first | assumption | exact ⟨y0, c0, c1, c2⟩ | exact S6 | exact seen4_set (p := ⟨vb, 1, none⟩) S6 hbv hgv _ | exact S5 | exact seen4_alloc S5 _
                  clear hK K
                  refine wpAnyH_done (by kernel_rfl) ?_ _
                  go_wp2
                  go_roundw
                  case rel => exact ⟨j + 1, _, N ++ [(what, pos, X)], by omega, by go_num, by simp [hnl], HNX, F.out.next hvb3 bb5 g6 ho6, V6.out.set1 _⟩
                  case measure => simp [intOf]; omega
                exact AllReadyH.nil
              exact AllReadyH.nil
            exact AllReadyH.nil
          exact AllReadyH.nil
        refine AllReadyH.cons rfl (fun K hK => ?_) ?_
        · go_simp
          go_wp2_with (go_at_call 10
                       refine (copy_r _ _ x l e _ hx2).mono ?_
                       rintro e' w5 ⟨b5, d5, rfl, hr5, bd5⟩
                       have bb5 : Below wr.heap.size wr w5 := ⟨bd5.os, bd5.tape, bd5.output, bd5.size, bd5.block⟩
                       clear bd5
                       have S5 := And.intro ((bb5.cell (p := ⟨w.heap.size, 1, none⟩) (by exact hbl)).trans y0) (And.intro ((bb5.cell (p := ⟨g, off + j * 3, none⟩) (by exact hgl)).trans c0) (And.intro ((bb5.cell (p := ⟨g, off + j * 3 + 1, none⟩) (by exact hgl)).trans c1) ((bb5.cell (p := ⟨g, off + j * 3 + 2, none⟩) (by exact hgl)).trans c2)))
                       have y6 : w5.cell? ⟨vb, 1, none⟩ = some u := (bb5.cell (p := ⟨vb, 1, none⟩) (by exact hbl2)).trans y1
                       have hbl5 : vb < w5.heap.size := by have := bb5.size; omega)
          refine hK.out _ _ ?_ (fun hHeld => ?_)
          · try dsimp only
            first | assumption | exact ⟨y0, c0, c1, c2⟩ | exact S6 | exact seen4_set (p := ⟨vb, 1, none⟩) S6 hbv hgv _ | exact S5 | exact seen4_alloc S5 _
          clear hK K
          refine wpAnyH_take (i := 21) (v := ?_) rfl (by kernel_rfl) (by kernel_rfl) (by kernel_rfl) (fun _ _ _ h => h) (Or.inl ⟨by rfl, ?_⟩) (by assumption) ?_
          rotate_left
          · intro w hSw
            try dsimp only at hSw
            go_simp
            all_goals with_reducible rfl
          refine wpAnyH_ready (rs := [1, 22]) (by kernel_rfl) (by simp) ?_
          refine AllReadyH.cons rfl (fun K hK => ?_) ?_
          · go_simp
            refine hK.out _ _ ?_ (fun hHeld => ?_)
            · try dsimp only
              first | assumption | exact ⟨y0, c0, c1, c2⟩ | exact S6 | exact seen4_set (p := ⟨vb, 1, none⟩) S6 hbv hgv _ | exact S5 | exact seen4_alloc S5 _
            clear hK K
            refine wpAnyH_ready (rs := [22]) (by kernel_rfl) (by simp) ?_
            refine AllReadyH.cons rfl (fun K hK => ?_) ?_
            · go_simp
              refine hK.out _ _ ?_ (fun hHeld => ?_)
              · try dsimp only
                first | assumption | exact ⟨y0, c0, c1, c2⟩ | exact S6 | exact seen4_set (p := ⟨vb, 1, none⟩) S6 hbv hgv _ | exact S5 | exact seen4_alloc S5 _
              clear hK K
              refine wpAnyH_ready (rs := [23]) (by kernel_rfl) (by simp) ?_
              refine AllReadyH.cons rfl (fun K hK => ?_) ?_
              · refine step_append_rep elem_waits rfl (.tmp 19) (.tmp 40) rfl w3.heap.size u N (by simp [Act.eval]) (F.out.owns bb5 _) ⟨w5.heap.size, 0, none⟩ [.int .i64 what, .int .i64 pos, .slice b5 l d5] (what, pos, X) (by simp [Act.eval]) (cell_three_new _ _ _ _ _) (F.out.elem (act_rd k0 k1 hr5) (fun b hb => hb) _) (by rw [hnl]; exact hok.out.1) (by rw [hnl]; exact hok.out.2) (F.out.size bb5 _) ?_
                intro b6 d6 w6 ho6 g6
                rw [hnl] at ho6
                have V6 : Hid _ := F.out.var V'.out hvb3 bb5 g6
                have S6 := seen4_grown (seen4_alloc S5 _) g6 (fun h => by have := (F.out.own.row _ h).1; omega) (fun h => by have := (F.out.own.row _ h).1; omega)
                have y7 := V6.out.c1
                have f7 := V6.out.f 1
                try go_simp
                refine hK.out _ _ ?_ (fun hHeld => ?_)
                · try dsimp only
                  first | assumption | exact ⟨y0, c0, c1, c2⟩ | exact S6 | exact seen4_set (p := ⟨vb, 1, none⟩) S6 hbv hgv _ | exact S5 | exact seen4_alloc S5 _
                clear hK K
                refine wpAnyH_take (i := 24) (v := ?_) rfl (by kernel_rfl) (by kernel_rfl) (by kernel_rfl) (fun _ _ _ h => h) (Or.inl ⟨by rfl, ?_⟩) (by assumption) ?_
                rotate_left
                · intro w hSw
                  try dsimp only at hSw
                  go_simp
                  all_goals with_reducible rfl
                refine wpAnyH_ready (rs := [25]) (by kernel_rfl) (by simp) ?_
                refine AllReadyH.cons rfl (fun K hK => ?_) ?_
                · go_simp
                  refine hK.out _ _ ?_ (fun hHeld => ?_)
                  · try dsimp only
                    first | assumption | exact ⟨y0, c0, c1, c2⟩ | exact S6 | exact seen4_set (p := ⟨vb, 1, none⟩) S6 hbv hgv _ | exact S5 | exact seen4_alloc S5 _
                  clear hK K
                  refine wpAnyH_done (by kernel_rfl) ?_ _
                  go_wp2
                  go_roundw
                  case rel => exact ⟨j + 1, _, N ++ [(what, pos, X)], by omega, by go_num, by simp [hnl], HNX, F.out.next hvb3 bb5 g6 ho6, V6.out.set1 _⟩
                  case measure => simp [intOf]; omega
                exact AllReadyH.nil
              exact AllReadyH.nil
            exact AllReadyH.nil
          refine AllReadyH.cons rfl (fun K hK => ?_) ?_
          · go_simp
            refine hK.out _ _ ?_ (fun hHeld => ?_)
            · try dsimp only
              first | assumption | exact ⟨y0, c0, c1, c2⟩ | exact S6 | exact seen4_set (p := ⟨vb, 1, none⟩) S6 hbv hgv _ | exact S5 | exact seen4_alloc S5 _
            clear hK K
            refine wpAnyH_ready (rs := [1]) (by kernel_rfl) (by simp) ?_
            refine AllReadyH.cons rfl (fun K hK => ?_) ?_
            · go_simp
              refine hK.out _ _ ?_ (fun hHeld => ?_)
              · try dsimp only
                first | assumption | exact ⟨y0, c0, c1, c2⟩ | exact S6 | exact seen4_set (p := ⟨vb, 1, none⟩) S6 hbv hgv _ | exact S5 | exact seen4_alloc S5 _
              clear hK K
              refine wpAnyH_ready (rs := [23]) (by kernel_rfl) (by simp) ?_
              refine AllReadyH.cons rfl (fun K hK => ?_) ?_
              · refine step_append_rep elem_waits rfl (.tmp 19) (.tmp 40) rfl w3.heap.size u N (by simp [Act.eval]) (F.out.owns bb5 _) ⟨w5.heap.size, 0, none⟩ [.int .i64 what, .int .i64 pos, .slice b5 l d5] (what, pos, X) (by simp [Act.eval]) (cell_three_new _ _ _ _ _) (F.out.elem (act_rd k0 k1 hr5) (fun b hb => hb) _) (by rw [hnl]; exact hok.out.1) (by rw [hnl]; exact hok.out.2) (F.out.size bb5 _) ?_
                intro b6 d6 w6 ho6 g6
                rw [hnl] at ho6
                have V6 : Hid _ := F.out.var V'.out hvb3 bb5 g6
                have S6 := seen4_grown (seen4_alloc S5 _) g6 (fun h => by have := (F.out.own.row _ h).1; omega) (fun h => by have := (F.out.own.row _ h).1; omega)
                have y7 := V6.out.c1
                have f7 := V6.out.f 1
                try go_simp
                refine hK.out _ _ ?_ (fun hHeld => ?_)
                · try dsimp only
                  first | assumption | exact ⟨y0, c0, c1, c2⟩ | exact S6 | exact seen4_set (p := ⟨vb, 1, none⟩) S6 hbv hgv _ | exact S5 | exact seen4_alloc S5 _
                clear hK K
                refine wpAnyH_take (i := 24) (v := ?_) rfl (by kernel_rfl) (by kernel_rfl) (by kernel_rfl) (fun _ _ _ h => h) (Or.inl ⟨by rfl, ?_⟩) (by assumption) ?_
                rotate_left
                · intro w hSw
                  try dsimp only at hSw
                  go_simp
                  all_goals with_reducible rfl
                refine wpAnyH_ready (rs := [25]) (by kernel_rfl) (by simp) ?_
                refine AllReadyH.cons rfl (fun K hK => ?_) ?_
                · go_simp
                  refine hK.out _ _ ?_ (fun hHeld => ?_)
                  · try dsimp only
                    first | assumption | exact ⟨y0, c0, c1, c2⟩ | exact S6 | exact seen4_set (p := ⟨vb, 1, none⟩) S6 hbv hgv _ | exact S5 | exact seen4_alloc S5 _
                  clear hK K
                  refine wpAnyH_done (by kernel_rfl) ?_ _
                  go_wp2
                  go_roundw
                  case rel => exact ⟨j + 1, _, N ++ [(what, pos, X)], by omega, by go_num, by simp [hnl], HNX, F.out.next hvb3 bb5 g6 ho6, V6.out.set1 _⟩
                  case measure => simp [intOf]; omega
                exact AllReadyH.nil
              exact AllReadyH.nil
            exact AllReadyH.nil
          exact AllReadyH.nil
        exact AllReadyH.nil
      · obtain rfl : j = m := by omega
        rw [List.take_of_length_le (by rw [HM.out]; exact Nat.le_refl _)] at HNj
        obtain ⟨a8, c8, hu8, hW8⟩ := Owns.rd (hs := by decide) F.out.own (by rw [hnl]; show j * 40 ≤ _; omega)
        rw [hnl] at hu8 hW8
        rw [HNj.out] at hW8
        subst hu8
        have hL8 := Rep.kept HL2.out F.out.kept (fun b hb hl => ⟨hl, hb.2⟩)
        have hz8 : w3.heap.size ≤ wr.heap.size := F.out.kept.size
        have bel8 : Below w.heap.size w wr := (on bel bel2).trans ⟨F.out.kept.os, F.out.kept.tape, F.out.kept.output, F.out.kept.size, fun b hb => F.out.kept.block b ⟨by omega, by omega⟩⟩
        have q0 := V'.out.c0
        have q1 := V'.out.c1
        have q2 := V'.out.c2
        have VR4 : Hid (Var3 wr (w.heap.size + 1) (.slice none 0 0) (.slice none 0 0) (.int .i64 0)) := VR3.out.keep (F.out.kept.block _ (by show w.heap.size + 1 < _ ∧ w.heap.size + 1 ≠ _; omega))
        have r0 := VR4.out.c0
        have r1 := VR4.out.c1
        have r2 := VR4.out.c2
        have f0 := VR4.out.f 0
        have f1 := VR4.out.f 1
        have f2 := VR4.out.f 2
        clear hW3
        go_wp2
        have T := VR4.out.whole (.slice b2 n d2) (.slice a8 j c8) (.int .i64 cp)
        refine bodyPost_ret (v := .agg #[.slice b2 n d2, .slice a8 j c8, .int .i64 cp]) (results_var3 rfl rfl T.1 Try.underlying30 rfl (by kernel_rfl)) rfl ⟨[.slice b2 n d2, .slice a8 j c8, .int .i64 cp], rfl, ?_, Kept.belowOf bel8 T.2 (by omega)⟩
        refine ⟨[_], [_, _], rfl, rSectors.weaken (Rep.kept hL8 T.2 (fun b hb _ => by have h1 : w1.heap.size ≤ b := hb.1; show b ≠ _; omega)) (fun b hb _ => by have h1 : w1.heap.size ≤ b := hb.1; omega), [_], [_], rfl, rWaits.weaken (Rep.kept hW8 T.2 (fun b hb _ => by have h1 : w3.heap.size ≤ b := hb; show b ≠ _; omega)) (fun b hb _ => by have h1 : w3.heap.size ≤ b := hb; omega), rfl, hc1, hc2⟩

end Go.Proofs.Ytckcicomkapdeaa
