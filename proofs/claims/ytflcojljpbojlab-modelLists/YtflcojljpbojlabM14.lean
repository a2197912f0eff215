/-
  Facts that the proof rests on, part 15. Conditions: those that each of them names.
-/
import Derived.Test.YtflcojljpbojlabM13
namespace Go.Proofs.Ytflcojljpbojlab
open Go.RowKit
set_option linter.unusedVariables false
set_option maxRecDepth 20000 in
set_option maxHeartbeats 8000000 in
theorem done3_u (wK w : World) (P : Nat → Prop) (bs g n : Nat) (vs : List Value) (v : Value) (s : Sta) (H : StAt wK w bs g n vs v s) (hok : Mo.ok s = true) (at' N id : Int) (nm : ByteArray) (dt : List UInt8) (xa : Option Addr) (xn xc : Nat) (hX : rBytes.rd w P [.slice xa xn xc] dt) (h2 : I64 at') (h3 : I64 N) (h4 : I64 id) (hs : nm.size ≤ maxLen) (he : Mo.opE s (3, at', N, id, nm, dt) = 0) :
    Calls Try.prog 14 #[.pointer (some ⟨bs, 0, none⟩), .agg #[.int .i64 3, .int .i64 at', .int .i64 N, .int .i64 id, .string nm, .slice xa xn xc]] w (DoneP wK w bs g (Mo.chgS s (3, at', N, id, nm, dt)) (Mo.chgD s (3, at', N, id, nm, dt)) (Mo.chgI s (3, at', N, id, nm, dt)) (Mo.chgL s (3, at', N, id, nm, dt))) := by
  have hF := (Mo.ok_iff s).1 hok
  have hl8 := hF.few
  have hnx : -9223372036854775808 ≤ s.2.2 ∧ s.2.2 ≤ 9223372036854775807 := by have := hF.low; have := hF.high; omega
  have hn : n ≤ 65536 := by have h1 := (Mo.okDisk_iff.1 hF.now).1; rw [H.len] at h1; exact h1
  obtain ⟨va, vc, hv, hsn⟩ := H.list hl8
  have hdk : DiskR wK (fun b => g + 1 ≤ b ∧ b < wK.heap.size) g vs s.1 := H.disk.weaken (fun b hb hl => ⟨hb.1, hl⟩)
  have hlenD := H.len
  have he' : Mo.touchE s.1.length at' N = 0 := he
  obtain ⟨⟨e1, e2, e3, e4⟩, e5⟩ := Mo.touchE_zero he'
  obtain ⟨A, rfl⟩ : ∃ A : Nat, at' = (A : Int) := ⟨at'.toNat, by omega⟩
  obtain ⟨Kq, rfl⟩ : ∃ Kq : Nat, N = (Kq : Int) := ⟨N.toNat, by omega⟩
  rw [hlenD] at e3 e4
  obtain ⟨M, hM⟩ : ∃ M, M = A + Kq := ⟨_, rfl⟩
  have hMz : (A : Int) + (Kq : Int) = (M : Int) := by omega
  have hAm : M ≤ n := by omega
  have hAM : A ≤ M := by omega
  have hK6 : Kq ≤ 64 := by omega
  have HMA : Hid (M - A = Kq) := by unfold Hid; omega
  have HChg : Hid (Mo.chgS s (3, (A : Int), (Kq : Int), id, nm, dt) = (Mo.over s.1 A (List.replicate Kq []), s.2.1, s.2.2)) := by unfold Hid; rfl
  obtain ⟨w0, hw0, V0, b0, z0⟩ := boxedRow w 39 [.int .i64 3, .int .i64 (A : Int), .int .i64 (Kq : Int), .int .i64 id, .string nm, .slice xa xn xc]
  obtain ⟨w1, hw1, V1, b1, z1⟩ := boxedRow w0 34 [.int .i64 0, .slice none 0 0, .int .i64 0, .slice none 0 0, .int .i64 0]
  have B1 : Hid (Below w.heap.size w w1) := on b0 b1
  have HXR : Hid (Row w1 w.heap.size 39 [.int .i64 3, .int .i64 (A : Int), .int .i64 (Kq : Int), .int .i64 id, .string nm, .slice xa xn xc]) := V0.below b1
  have HRR : Hid (Row w1 w0.heap.size 34 [.int .i64 0, .slice none 0 0, .int .i64 0, .slice none 0 0, .int .i64 0]) := V1
  have HZ : Hid (w0.heap.size = w.heap.size + 1 ∧ w1.heap.size = w.heap.size + 2) := ⟨z0, by omega⟩
  have HBx : Hid (Row w1 bs 29 [.slice (some ⟨g, 0, none⟩) n n, v, .int .i64 s.2.2]) := H.box.below B1.out
  have HB : Hid (g < wK.heap.size ∧ wK.heap.size ≤ bs ∧ bs < w.heap.size ∧ wK.heap.size ≤ w.heap.size) := ⟨H.hg, H.hb, H.box.lt, H.bel.size⟩
  have BK : Hid (Below wK.heap.size wK w1) := H.bel.trans (B1.out.mono H.bel.size)
  have HDK : Hid _ := hdk
  have HSN : Hid _ := hsn
  have HV : Hid _ := hv
  have HD : Hid (s.1.length = n) := hlenD
  have HXd : Hid (rBytes.rd w1 (fun b => b < w.heap.size) [.slice xa xn xc] dt) := Rep.below (rBytes.weaken hX (fun b _ hl => hl)) B1.out
  have HNX : Hid _ := hnx
  have HL8 : Hid _ := hl8
  have HOwn : Hid _ := H.snaps
  have HFine : Hid _ := hF
  have x0 := HXR.out.cell (j := 0) rfl
  have x1 := HXR.out.cell (j := 1) rfl
  have x2 := HXR.out.cell (j := 2) rfl
  have HSee : Hid (∀ w', Kept (fun b => b < w1.heap.size ∧ b ≠ g ∧ b ≠ w0.heap.size) w1 w' → w'.cell? ⟨bs, 0, none⟩ = some (.slice (some ⟨g, 0, none⟩) n n) ∧ w'.cell? ⟨w.heap.size, 1, none⟩ = some (.int .i64 (A : Int)) ∧ w'.cell? ⟨w.heap.size, 2, none⟩ = some (.int .i64 (Kq : Int))) := by
    intro w' hk
    have h1 := HB.out
    have h2 := HZ.out
    unfold Hid at h1 h2
    exact ⟨hk.cell (p := ⟨bs, 0, none⟩) (by show bs < _ ∧ bs ≠ g ∧ bs ≠ w0.heap.size; omega) (HBx.out.cell (j := 0) rfl), hk.cell (p := ⟨w.heap.size, 1, none⟩) (by show w.heap.size < _ ∧ w.heap.size ≠ g ∧ w.heap.size ≠ w0.heap.size; omega) (HXR.out.cell (j := 1) rfl), hk.cell (p := ⟨w.heap.size, 2, none⟩) (by show w.heap.size < _ ∧ w.heap.size ≠ g ∧ w.heap.size ≠ w0.heap.size; omega) (HXR.out.cell (j := 2) rfl)⟩
  have S0 := HSee.out _ ((Kept.refl _ w1).drew)
  have hAn : (A : Int) ≤ (n : Int) := by omega
  have hMn : (M : Int) ≤ (n : Int) := by omega
  have hAMz : (A : Int) ≤ (M : Int) := by omega
  have hwM : IntKind.i64.wrap (M : Int) = (M : Int) := by rw [IntKind.wrap_i64]; omega
  have hKn : n - A < 65537 := by omega
  clear H hdk hsn hv hlenD hX hnx hF V0 V1 b0 b1 z0 z1 h4 hs hok hl8 he he' e1 e2 e3 e4 e5 h2 h3 hM
  by_cases hAc : n = A
  · subst hAc
    obtain rfl : M = n := by omega
    have HK0 : Hid (Kq = 0) := by have := HMA.out; unfold Hid at *; omega
    go_enter Try.func14, Try.ntmps14
    go_wp2_with fail
    refine wp_region_held_drew (S := (fun w' : World => w'.cell? ⟨bs, 0, none⟩ = some (.slice (some ⟨g, 0, none⟩) M M) ∧ w'.cell? ⟨w.heap.size, 1, none⟩ = some (.int .i64 (M : Int)) ∧ w'.cell? ⟨w.heap.size, 2, none⟩ = some (.int .i64 (Kq : Int)))) (by kernel_rfl) (S0) (fun hHeld => ?_)
    refine wpAnyH_takeL (i := 0) (v := ?_) rfl rfl (by kernel_rfl) (by kernel_rfl) (by kernel_rfl) (fun _ _ _ h => h) (Or.inl ⟨by rfl, ?_⟩) (by assumption) ?_
    rotate_left
    · intro w hSw
      try dsimp only at hSw
      go_simp
      all_goals with_reducible rfl
    simp only [List.set_cons_zero, List.set_cons_succ]
    refine wpAnyH_takeL (i := 1) (v := ?_) rfl rfl (by kernel_rfl) (by kernel_rfl) (by kernel_rfl) (fun _ _ _ h => h) (Or.inl ⟨by rfl, ?_⟩) (by assumption) ?_
    rotate_left
    · intro w hSw
      try dsimp only at hSw
      go_simp
      all_goals with_reducible rfl
    simp only [List.set_cons_zero, List.set_cons_succ]
    refine wpAnyH_takeL (i := 2) (v := ?_) rfl rfl (by kernel_rfl) (by kernel_rfl) (by kernel_rfl) (fun _ _ _ h => h) (Or.inl ⟨by rfl, ?_⟩) (by assumption) ?_
    rotate_left
    · intro w hSw
      try dsimp only at hSw
      go_simp
      all_goals with_reducible rfl
    simp only [List.set_cons_zero, List.set_cons_succ]
    refine wpAnyH_takeL (i := 3) (v := ?_) rfl rfl (by kernel_rfl) (by kernel_rfl) (by kernel_rfl) (fun _ _ _ h => h) (Or.inl ⟨by rfl, ?_⟩) (by assumption) ?_
    rotate_left
    · intro w hSw
      try dsimp only at hSw
      go_simp
      all_goals with_reducible rfl
    simp only [List.set_cons_zero, List.set_cons_succ]
    refine wpAnyH_takeL (i := 4) (v := ?_) rfl rfl (by kernel_rfl) (by kernel_rfl) (by kernel_rfl) (fun _ _ _ h => h) (Or.inl ⟨by rfl, ?_⟩) (by assumption) ?_
    rotate_left
    · intro w hSw
      try dsimp only at hSw
      go_simp
      all_goals with_reducible rfl
    simp only [List.set_cons_zero, List.set_cons_succ]
    refine wpAnyH_takeL (i := 5) (v := ?_) rfl rfl (by kernel_rfl) (by kernel_rfl) (by kernel_rfl) (fun _ _ _ h => h) (Or.inl ⟨by rfl, ?_⟩) (by assumption) ?_
    rotate_left
    · intro w hSw
      try dsimp only at hSw
      go_simp
      all_goals with_reducible rfl
    simp only [List.set_cons_zero, List.set_cons_succ]
    refine wpAnyH_takeL (i := 6) (v := ?_) rfl rfl (by kernel_rfl) (by kernel_rfl) (by kernel_rfl) (fun _ _ _ h => h) (Or.inl ⟨by rfl, ?_⟩) (by assumption) ?_
    rotate_left
    · intro w hSw
      try dsimp only at hSw
      go_simp
      all_goals with_reducible rfl
    simp only [List.set_cons_zero, List.set_cons_succ]
    refine wpAnyH_takeL (i := 7) (v := ?_) rfl rfl (by kernel_rfl) (by kernel_rfl) (by kernel_rfl) (fun _ _ _ h => h) (Or.inl ⟨by rfl, ?_⟩) (by assumption) ?_
    rotate_left
    · intro w hSw
      try dsimp only at hSw
      go_simp
      all_goals with_reducible rfl
    simp only [List.set_cons_zero, List.set_cons_succ]
    refine wpAnyH_takeL (i := 8) (v := ?_) rfl rfl (by kernel_rfl) (by kernel_rfl) (by kernel_rfl) (fun _ _ _ h => h) (Or.inl ⟨by rfl, ?_⟩) (by assumption) ?_
    rotate_left
    · intro w hSw
      try dsimp only at hSw
      go_simp
      all_goals with_reducible rfl
    simp only [List.set_cons_zero, List.set_cons_succ]
    refine wpAnyH_takeL (i := 9) (v := ?_) rfl rfl (by kernel_rfl) (by kernel_rfl) (by kernel_rfl) (fun _ _ _ h => h) (Or.inl ⟨by rfl, ?_⟩) (by assumption) ?_
    rotate_left
    · intro w hSw
      try dsimp only at hSw
      go_simp
      all_goals with_reducible rfl
    simp only [List.set_cons_zero, List.set_cons_succ]
    refine wpAnyH_takeL (i := 10) (v := ?_) rfl rfl (by kernel_rfl) (by kernel_rfl) (by kernel_rfl) (fun _ _ _ h => h) (Or.inl ⟨by rfl, ?_⟩) (by assumption) ?_
    rotate_left
    · intro w hSw
      try dsimp only at hSw
      go_simp
      all_goals with_reducible rfl
    simp only [List.set_cons_zero, List.set_cons_succ]
    refine wpAnyH_takeL (i := 11) (v := ?_) rfl rfl (by kernel_rfl) (by kernel_rfl) (by kernel_rfl) (fun _ _ _ h => h) (Or.inl ⟨by rfl, ?_⟩) (by assumption) ?_
    rotate_left
    · intro w hSw
      try dsimp only at hSw
      go_simp
      all_goals with_reducible rfl
    simp only [List.set_cons_zero, List.set_cons_succ]
    refine wpAnyH_ready (rs := [12]) (by kernel_rfl) (by simp) ?_
    refine AllReadyH.cons rfl (fun K hK => ?_) ?_
    · obtain ⟨w7, hr7, R7, k7, z7⟩ := clear_run (Pr := Try.prog) w1.drew 22 0 31 Try.underlying22 (.slice none 0 0) (fun w => by kernel_rfl) rfl rfl (some ⟨g, 0, none⟩) 0 0 g M vs 31 ((HDK.out.below BK.out).row.keep rfl) (fun h => absurd h (by decide)) (by rw [HDK.out.len, HD.out]; omega)
      have HRun : Hid _ := hr7
      have HR7 : Hid _ := R7
      have K7 : Hid (Kept (· ≠ g) w1 w7) := (Kept.refl _ w1).drew.trans k7
      have S1 := HSee.out _ (K7.out.mono (fun b hb => hb.2.1))
      clear hr7 R7 k7 z7
      refine held_clear rfl (by rfl) _ _ rfl _ _ rfl HRun.out ?_
      refine hK.out _ _ ?_ (fun hHeld => ?_)
      · try dsimp only
        exact S1
      clear hK K
      refine wpAnyH_done (by kernel_rfl) ?_ _
      clear hHeld S1
      have HDn : Hid (DiskR w7 (fun b => g + 1 ≤ b ∧ b < wK.heap.size) g (splice vs M (List.replicate Kq (.slice none 0 0))) (Mo.over s.1 M (List.replicate Kq []))) := (HDK.out.below BK.out).over (by rw [List.length_replicate, List.length_replicate]) (fun j v x h1 h2 => by
          rw [List.getElem?_replicate] at h1 h2
          split at h1
          · rename_i hj
            rw [if_pos hj] at h2
            cases h1
            cases h2
            exact rBytes_none _ _ _ _ (fun _ => rfl)
          · cases h1) (by rw [List.length_replicate, HD.out]; have := HMA.out; unfold Hid at this; omega) (by have h := HR7.out; rw [HK0.out]; exact h) (fun b hb _ => K7.out.block b (by have := hb.1; omega))
      have HBx7 : Hid (Row w7 bs 29 [.slice (some ⟨g, 0, none⟩) M M, v, .int .i64 s.2.2]) := HBx.out.keep (K7.out.block bs (by have := HB.out; unfold Hid at this; omega))
      have HSn7 : Hid (rSnps.rd w7 (fun b => g + 1 ≤ b ∧ b < wK.heap.size) [v] s.2.1) := rSnps.keep HSN.out (fun b hb hl => (K7.out.block b (by have := hb.1; omega)).trans (BK.out.block b hl))
      have HRR7 : Hid (Row w7 w0.heap.size 34 _) := HRR.out.keep (K7.out.block w0.heap.size (by have := HB.out; have := HZ.out; unfold Hid at *; omega))
      have r0 := HRR7.out.cell (j := 0) rfl
      have r1 := HRR7.out.cell (j := 1) rfl
      have r2 := HRR7.out.cell (j := 2) rfl
      have r3 := HRR7.out.cell (j := 3) rfl
      have r4 := HRR7.out.cell (j := 4) rfl
      have f0 := HRR7.out.frozen 0
      have f1 := HRR7.out.frozen 1
      have f2 := HRR7.out.frozen 2
      have f3 := HRR7.out.frozen 3
      have f4 := HRR7.out.frozen 4
      go_wp2
      have V8 := (((((HRR7.out.set 0 (.int .i64 0)).set 1 (.slice none 0 0)).set 2 (.int .i64 0)).set 3 (.slice none 0 0)).set 4 (.int .i64 0))
      have hk8 := kept5 w7 w0.heap.size (.int .i64 0) (.slice none 0 0) (.int .i64 0) (.slice none 0 0) (.int .i64 0)
      refine bodyPost_ret (results_row rfl rfl V8 Try.underlying34 rfl (by kernel_rfl)) rfl ⟨_, none, 0, 0, none, 0, 0, bs, rfl, HBx7.out.keep (hk8.block bs (by have := HB.out; have := HZ.out; unfold Hid at *; omega)), ?_, rFree_none _ _, rNmds_none _ _, .inl rfl, ?_, ?_⟩
      · rw [HChg.out]
        refine sta_rd (s := (Mo.over s.1 M (List.replicate Kq []), s.2.1, s.2.2)) (rSectors.weaken (Rep.kept (DiskR.rd (P := fun b => g ≤ b ∧ b < wK.heap.size) (HDn.out.weaken (fun b hb _ => ⟨by omega, hb.2⟩)) ⟨Nat.le_refl _, HB.out.1⟩ (by rw [Mo.over_len (by rw [List.length_replicate, HD.out]; have := HMA.out; unfold Hid at this; omega)]; exact HD.out) (by omega)) hk8 (fun b hb _ => ?_)) (fun b hb _ => ?_)) (rSnps.weaken (Rep.kept HSn7.out hk8 (fun b hb _ => ?_)) (fun b hb _ => ?_)) HNX.out
        all_goals (have h1 := HB.out; have h2 := HZ.out; unfold Hid at h1 h2; (try dsimp only at hb ⊢); omega)
      · exact Nat.lt_of_lt_of_le HBx7.out.lt hk8.size
      · exact ((Kept.below B1.out).mono (fun b hb => hb.1)).trans ((K7.out.mono (fun b hb => by have := HB.out; unfold Hid at this; have := hb.2.2; omega)).trans (hk8.mono (fun b hb => by have := HZ.out; unfold Hid at this; have := hb.1; omega)))
    exact AllReadyH.nil
  · have hAc2 : ¬ ((n : Int) = (A : Int)) := by omega
    go_enter Try.func14, Try.ntmps14
    go_wp2_with fail
    refine wp_region_held_drew (S := (fun w' : World => w'.cell? ⟨bs, 0, none⟩ = some (.slice (some ⟨g, 0, none⟩) n n) ∧ w'.cell? ⟨w.heap.size, 1, none⟩ = some (.int .i64 (A : Int)) ∧ w'.cell? ⟨w.heap.size, 2, none⟩ = some (.int .i64 (Kq : Int)))) (by kernel_rfl) (S0) (fun hHeld => ?_)
    refine wpAnyH_takeL (i := 0) (v := ?_) rfl rfl (by kernel_rfl) (by kernel_rfl) (by kernel_rfl) (fun _ _ _ h => h) (Or.inl ⟨by rfl, ?_⟩) (by assumption) ?_
    rotate_left
    · intro w hSw
      try dsimp only at hSw
      go_simp
      all_goals with_reducible rfl
    simp only [List.set_cons_zero, List.set_cons_succ]
    refine wpAnyH_takeL (i := 1) (v := ?_) rfl rfl (by kernel_rfl) (by kernel_rfl) (by kernel_rfl) (fun _ _ _ h => h) (Or.inl ⟨by rfl, ?_⟩) (by assumption) ?_
    rotate_left
    · intro w hSw
      try dsimp only at hSw
      go_simp
      all_goals with_reducible rfl
    simp only [List.set_cons_zero, List.set_cons_succ]
    refine wpAnyH_takeL (i := 2) (v := ?_) rfl rfl (by kernel_rfl) (by kernel_rfl) (by kernel_rfl) (fun _ _ _ h => h) (Or.inl ⟨by rfl, ?_⟩) (by assumption) ?_
    rotate_left
    · intro w hSw
      try dsimp only at hSw
      go_simp
      all_goals with_reducible rfl
    simp only [List.set_cons_zero, List.set_cons_succ]
    refine wpAnyH_takeL (i := 3) (v := ?_) rfl rfl (by kernel_rfl) (by kernel_rfl) (by kernel_rfl) (fun _ _ _ h => h) (Or.inl ⟨by rfl, ?_⟩) (by assumption) ?_
    rotate_left
    · intro w hSw
      try dsimp only at hSw
      go_simp
      all_goals with_reducible rfl
    simp only [List.set_cons_zero, List.set_cons_succ]
    refine wpAnyH_takeL (i := 4) (v := ?_) rfl rfl (by kernel_rfl) (by kernel_rfl) (by kernel_rfl) (fun _ _ _ h => h) (Or.inl ⟨by rfl, ?_⟩) (by assumption) ?_
    rotate_left
    · intro w hSw
      try dsimp only at hSw
      go_simp
      all_goals with_reducible rfl
    simp only [List.set_cons_zero, List.set_cons_succ]
    refine wpAnyH_takeL (i := 5) (v := ?_) rfl rfl (by kernel_rfl) (by kernel_rfl) (by kernel_rfl) (fun _ _ _ h => h) (Or.inl ⟨by rfl, ?_⟩) (by assumption) ?_
    rotate_left
    · intro w hSw
      try dsimp only at hSw
      go_simp
      all_goals with_reducible rfl
    simp only [List.set_cons_zero, List.set_cons_succ]
    refine wpAnyH_takeL (i := 6) (v := ?_) rfl rfl (by kernel_rfl) (by kernel_rfl) (by kernel_rfl) (fun _ _ _ h => h) (Or.inl ⟨by rfl, ?_⟩) (by assumption) ?_
    rotate_left
    · intro w hSw
      try dsimp only at hSw
      go_simp
      all_goals with_reducible rfl
    simp only [List.set_cons_zero, List.set_cons_succ]
    refine wpAnyH_takeL (i := 7) (v := ?_) rfl rfl (by kernel_rfl) (by kernel_rfl) (by kernel_rfl) (fun _ _ _ h => h) (Or.inl ⟨by rfl, ?_⟩) (by assumption) ?_
    rotate_left
    · intro w hSw
      try dsimp only at hSw
      go_simp
      all_goals with_reducible rfl
    simp only [List.set_cons_zero, List.set_cons_succ]
    refine wpAnyH_takeL (i := 8) (v := ?_) rfl rfl (by kernel_rfl) (by kernel_rfl) (by kernel_rfl) (fun _ _ _ h => h) (Or.inl ⟨by rfl, ?_⟩) (by assumption) ?_
    rotate_left
    · intro w hSw
      try dsimp only at hSw
      go_simp
      all_goals with_reducible rfl
    simp only [List.set_cons_zero, List.set_cons_succ]
    refine wpAnyH_takeL (i := 9) (v := ?_) rfl rfl (by kernel_rfl) (by kernel_rfl) (by kernel_rfl) (fun _ _ _ h => h) (Or.inl ⟨by rfl, ?_⟩) (by assumption) ?_
    rotate_left
    · intro w hSw
      try dsimp only at hSw
      go_simp
      all_goals with_reducible rfl
    simp only [List.set_cons_zero, List.set_cons_succ]
    refine wpAnyH_takeL (i := 10) (v := ?_) rfl rfl (by kernel_rfl) (by kernel_rfl) (by kernel_rfl) (fun _ _ _ h => h) (Or.inl ⟨by rfl, ?_⟩) (by assumption) ?_
    rotate_left
    · intro w hSw
      try dsimp only at hSw
      go_simp
      all_goals with_reducible rfl
    simp only [List.set_cons_zero, List.set_cons_succ]
    refine wpAnyH_takeL (i := 11) (v := ?_) rfl rfl (by kernel_rfl) (by kernel_rfl) (by kernel_rfl) (fun _ _ _ h => h) (Or.inl ⟨by rfl, ?_⟩) (by assumption) ?_
    rotate_left
    · intro w hSw
      try dsimp only at hSw
      go_simp
      all_goals with_reducible rfl
    simp only [List.set_cons_zero, List.set_cons_succ]
    refine wpAnyH_ready (rs := [12]) (by kernel_rfl) (by simp) ?_
    refine AllReadyH.cons rfl (fun K hK => ?_) ?_
    · obtain ⟨w7, hr7, R7, k7, z7⟩ := clear_run (Pr := Try.prog) w1.drew 22 0 31 Try.underlying22 (.slice none 0 0) (fun w => by kernel_rfl) rfl rfl (some ⟨g, A, none⟩) (M - A) (n - A) g A vs 31 ((HDK.out.below BK.out).row.keep rfl) (fun _ => rfl) (by rw [HDK.out.len, HD.out]; omega)
      have HRun : Hid _ := hr7
      have HR7 : Hid _ := R7
      have K7 : Hid (Kept (· ≠ g) w1 w7) := (Kept.refl _ w1).drew.trans k7
      have S1 := HSee.out _ (K7.out.mono (fun b hb => hb.2.1))
      clear hr7 R7 k7 z7
      refine held_clear rfl (by rfl) _ _ rfl _ _ rfl HRun.out ?_
      refine hK.out _ _ ?_ (fun hHeld => ?_)
      · try dsimp only
        exact S1
      clear hK K
      refine wpAnyH_done (by kernel_rfl) ?_ _
      clear hHeld S1
      have HDn : Hid (DiskR w7 (fun b => g + 1 ≤ b ∧ b < wK.heap.size) g (splice vs A (List.replicate Kq (.slice none 0 0))) (Mo.over s.1 A (List.replicate Kq []))) := (HDK.out.below BK.out).over (by rw [List.length_replicate, List.length_replicate]) (fun j v x h1 h2 => by
          rw [List.getElem?_replicate] at h1 h2
          split at h1
          · rename_i hj
            rw [if_pos hj] at h2
            cases h1
            cases h2
            exact rBytes_none _ _ _ _ (fun _ => rfl)
          · cases h1) (by rw [List.length_replicate, HD.out]; have := HMA.out; unfold Hid at this; omega) (by have h := HR7.out; rw [HMA.out] at h; exact h) (fun b hb _ => K7.out.block b (by have := hb.1; omega))
      have HBx7 : Hid (Row w7 bs 29 [.slice (some ⟨g, 0, none⟩) n n, v, .int .i64 s.2.2]) := HBx.out.keep (K7.out.block bs (by have := HB.out; unfold Hid at this; omega))
      have HSn7 : Hid (rSnps.rd w7 (fun b => g + 1 ≤ b ∧ b < wK.heap.size) [v] s.2.1) := rSnps.keep HSN.out (fun b hb hl => (K7.out.block b (by have := hb.1; omega)).trans (BK.out.block b hl))
      have HRR7 : Hid (Row w7 w0.heap.size 34 _) := HRR.out.keep (K7.out.block w0.heap.size (by have := HB.out; have := HZ.out; unfold Hid at *; omega))
      have r0 := HRR7.out.cell (j := 0) rfl
      have r1 := HRR7.out.cell (j := 1) rfl
      have r2 := HRR7.out.cell (j := 2) rfl
      have r3 := HRR7.out.cell (j := 3) rfl
      have r4 := HRR7.out.cell (j := 4) rfl
      have f0 := HRR7.out.frozen 0
      have f1 := HRR7.out.frozen 1
      have f2 := HRR7.out.frozen 2
      have f3 := HRR7.out.frozen 3
      have f4 := HRR7.out.frozen 4
      go_wp2
      have V8 := (((((HRR7.out.set 0 (.int .i64 0)).set 1 (.slice none 0 0)).set 2 (.int .i64 0)).set 3 (.slice none 0 0)).set 4 (.int .i64 0))
      have hk8 := kept5 w7 w0.heap.size (.int .i64 0) (.slice none 0 0) (.int .i64 0) (.slice none 0 0) (.int .i64 0)
      refine bodyPost_ret (results_row rfl rfl V8 Try.underlying34 rfl (by kernel_rfl)) rfl ⟨_, none, 0, 0, none, 0, 0, bs, rfl, HBx7.out.keep (hk8.block bs (by have := HB.out; have := HZ.out; unfold Hid at *; omega)), ?_, rFree_none _ _, rNmds_none _ _, .inl rfl, ?_, ?_⟩
      · rw [HChg.out]
        refine sta_rd (s := (Mo.over s.1 A (List.replicate Kq []), s.2.1, s.2.2)) (rSectors.weaken (Rep.kept (DiskR.rd (P := fun b => g ≤ b ∧ b < wK.heap.size) (HDn.out.weaken (fun b hb _ => ⟨by omega, hb.2⟩)) ⟨Nat.le_refl _, HB.out.1⟩ (by rw [Mo.over_len (by rw [List.length_replicate, HD.out]; have := HMA.out; unfold Hid at this; omega)]; exact HD.out) (by omega)) hk8 (fun b hb _ => ?_)) (fun b hb _ => ?_)) (rSnps.weaken (Rep.kept HSn7.out hk8 (fun b hb _ => ?_)) (fun b hb _ => ?_)) HNX.out
        all_goals (have h1 := HB.out; have h2 := HZ.out; unfold Hid at h1 h2; (try dsimp only at hb ⊢); omega)
      · exact Nat.lt_of_lt_of_le HBx7.out.lt hk8.size
      · exact ((Kept.below B1.out).mono (fun b hb => hb.1)).trans ((K7.out.mono (fun b hb => by have := HB.out; unfold Hid at this; have := hb.2.2; omega)).trans (hk8.mono (fun b hb => by have := HZ.out; unfold Hid at this; have := hb.1; omega)))
    exact AllReadyH.nil
end Go.Proofs.Ytflcojljpbojlab
