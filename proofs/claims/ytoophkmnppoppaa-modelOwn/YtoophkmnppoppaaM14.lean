/-
  Facts that the proof rests on, part 15. Conditions: those that each of them names.
-/
import Derived.Test.YtoophkmnppoppaaM13
namespace Go.Proofs.Ytoophkmnppoppaa
set_option maxHeartbeats 16000000
open Go.RowKit
set_option linter.unusedVariables false
set_option maxRecDepth 20000 in
theorem done3_u (wK w : World) (P : Nat → Prop) (bs g n : Nat) (vs : List Value) (v : Value) (s : Sta) (H : StAt wK w bs g n vs v s) (hok : Mo.ok s = true) (at' N id : Int) (nm : ByteArray) (dt : List UInt8) (xa : Option Addr) (xn xc : Nat) (hX : rBytes.rd w P [.slice xa xn xc] dt) (h2 : I64 at') (h3 : I64 N) (h4 : I64 id) (hs : nm.size ≤ maxLen) (he : Mo.opE s (3, at', N, id, nm, dt) = 0) :
 Calls Try.prog 31 #[.pointer (some ⟨bs, 0, none⟩), .agg #[.int .i64 3, .int .i64 at', .int .i64 N, .int .i64 id, .string nm, .slice xa xn xc]] w (qJx wK w bs g (Mo.chgS s (3, at', N, id, nm, dt)) (Mo.chgD s (3, at', N, id, nm, dt)) (Mo.chgI s (3, at', N, id, nm, dt)) (Mo.chgL s (3, at', N, id, nm, dt))) := by
 have hF := (Mo.ok_iff s).1 hok
 have hl8 := hF.few
 have hnx : -9223372036854775808 ≤ s.2.2 ∧ s.2.2 ≤ 9223372036854775807 := by have := hF.low; have := hF.high; omega
 have hn : n ≤ 65536 := by have h1 := (Mo.okDisk_iff.1 hF.now).1; rw [H.len] at h1; exact h1
 obtain ⟨va, vc, hv, hsn⟩ := H.list hl8
 have hdk : DiskR wK (fun b => g + 1 ≤ b ∧ b < wK.heap.size) g vs s.1 := H.disk.weaken (fun b hb hl => ⟨hb.1, hl⟩)
 have hlenD := H.len
 have he' : Mo.touchE s.1.length at' N = 0 := he
 obtain ⟨⟨e1, e2, e3, e4⟩, e5⟩ := Mo.touchE_zero he'
 obtain ⟨A, rfl⟩ : ∃ A : Nat, at' = (A : Int) := ⟨at'.toNat, by omega⟩
 obtain ⟨Kq, rfl⟩ : ∃ Kq : Nat, N = (Kq : Int) := ⟨N.toNat, by omega⟩
 rw [hlenD] at e3 e4
 obtain ⟨M, hM⟩ : ∃ M, M = A + Kq := ⟨_, rfl⟩
 have hMz : (A : Int) + (Kq : Int) = (M : Int) := by omega
 have hAm : M ≤ n := by omega
 have hAM : A ≤ M := by omega
 have hK6 : Kq ≤ 64 := by omega
 have HMA : Hid (M - A = Kq) := by unfold Hid; omega
 have HChg : Hid (Mo.chgS s (3, (A : Int), (Kq : Int), id, nm, dt) = (Mo.over s.1 A (List.replicate Kq []), s.2.1, s.2.2)) := by unfold Hid; rfl
 obtain ⟨w0, hw0, V0, b0, z0⟩ := q0q w 33 [.int .i64 3, .int .i64 (A : Int), .int .i64 (Kq : Int), .int .i64 id, .string nm, .slice xa xn xc]
 obtain ⟨w1, hw1, V1, b1, z1⟩ := q0q w0 38 [.int .i64 0, .slice none 0 0, .int .i64 0, .slice none 0 0, .int .i64 0]
 have B1 : Hid (Below w.heap.size w w1) := on b0 b1
 have HXR : Hid (Row w1 w.heap.size 33 [.int .i64 3, .int .i64 (A : Int), .int .i64 (Kq : Int), .int .i64 id, .string nm, .slice xa xn xc]) := V0.below b1
 have HRR : Hid _ := V1
 have HZ : Hid (w0.heap.size = w.heap.size + 1 ∧ w1.heap.size = w.heap.size + 2) := ⟨z0, by omega⟩
 have HBx : Hid (Row w1 bs 31 [.slice (some ⟨g, 0, none⟩) n n, v, .int .i64 s.2.2]) := H.box.below B1.out
 have HB : Hid (g < wK.heap.size ∧ wK.heap.size ≤ bs ∧ bs < w.heap.size ∧ wK.heap.size ≤ w.heap.size) := ⟨H.hg, H.hb, H.box.lt, H.bel.size⟩
 have BK : Hid (Below wK.heap.size wK w1) := H.bel.trans (B1.out.mono H.bel.size)
 have HDK : Hid _ := hdk
 have HSN : Hid _ := hsn
 have HV : Hid _ := hv
 have HD : Hid (s.1.length = n) := hlenD
 have HXd : Hid (rBytes.rd w1 (fun b => b < w.heap.size) [.slice xa xn xc] dt) := Rep.below (rBytes.weaken hX (fun b _ hl => hl)) B1.out
 have HNX : Hid _ := hnx
 have HL8 : Hid _ := hl8
 have HOwn : Hid _ := H.snaps
 have HFine : Hid _ := hF
 have x0 := HXR.out.cell (j := 0) rfl
 have x1 := HXR.out.cell (j := 1) rfl
 have x2 := HXR.out.cell (j := 2) rfl
 have HSee : Hid (∀ w', Kept (fun b => b < w1.heap.size ∧ b ≠ g ∧ b ≠ w0.heap.size) w1 w' → w'.cell? ⟨bs, 0, none⟩ = some (.slice (some ⟨g, 0, none⟩) n n) ∧ w'.cell? ⟨w.heap.size, 1, none⟩ = some (.int .i64 (A : Int)) ∧ w'.cell? ⟨w.heap.size, 2, none⟩ = some (.int .i64 (Kq : Int))) := by
  intro w' hk
  have h1 := HB.out
  have h2 := HZ.out
  unfold Hid at h1 h2
  exact ⟨hk.cell (p := ⟨bs, 0, none⟩) (by show bs < _ ∧ bs ≠ g ∧ bs ≠ w0.heap.size; omega) (HBx.out.cell (j := 0) rfl), hk.cell (p := ⟨w.heap.size, 1, none⟩) (by show w.heap.size < _ ∧ w.heap.size ≠ g ∧ w.heap.size ≠ w0.heap.size; omega) (HXR.out.cell (j := 1) rfl), hk.cell (p := ⟨w.heap.size, 2, none⟩) (by show w.heap.size < _ ∧ w.heap.size ≠ g ∧ w.heap.size ≠ w0.heap.size; omega) (HXR.out.cell (j := 2) rfl)⟩
 have S0 := HSee.out _ ((Kept.refl _ w1).drew)
 have hAn : (A : Int) ≤ (n : Int) := by omega
 have hMn : (M : Int) ≤ (n : Int) := by omega
 have hAMz : (A : Int) ≤ (M : Int) := by omega
 have hwM : IntKind.i64.wrap (M : Int) = (M : Int) := by rw [IntKind.wrap_i64]; omega
 have hKn : n - A < 65537 := by omega
 clear H hdk hsn hv hlenD hX hnx hF V0 V1 b0 b1 z0 z1 h4 hs hok hl8 he he' e1 e2 e3 e4 e5 h2 h3 hM
 by_cases hAc : n = A
 · subst hAc
   obtain rfl : M = n := by omega
   have HK0 : Hid (Kq = 0) := by have := HMA.out; unfold Hid at *; omega
   go_enter Try.func31, Try.ntmps31
   go_wp2_with fail
   refine wp_region_held_drew (S := (fun w' : World => w'.cell? ⟨bs, 0, none⟩ = some (.slice (some ⟨g, 0, none⟩) M M) ∧ w'.cell? ⟨w.heap.size, 1, none⟩ = some (.int .i64 (M : Int)) ∧ w'.cell? ⟨w.heap.size, 2, none⟩ = some (.int .i64 (Kq : Int)))) (by kernel_rfl) (S0) (fun hH => ?_)
   refine tkM 0 _ rfl rfl ?_; simp only [sz, ss]
   refine tkM 1 _ rfl rfl ?_; simp only [sz, ss]
   refine tkM 2 _ rfl rfl ?_; simp only [sz, ss]
   refine tkM 3 _ rfl rfl ?_; simp only [sz, ss]
   refine tkM 4 _ rfl rfl ?_; simp only [sz, ss]
   refine tkM 5 _ rfl rfl ?_; simp only [sz, ss]
   refine tkM 6 _ rfl rfl ?_; simp only [sz, ss]
   refine tkM 7 _ rfl rfl ?_; simp only [sz, ss]
   refine tkM 8 _ rfl rfl ?_; simp only [sz, ss]
   refine tkM 9 _ rfl rfl ?_; simp only [sz, ss]
   refine tkM 10 _ rfl rfl ?_; simp only [sz, ss]
   refine tkM 11 _ rfl rfl ?_; simp only [sz, ss]
   refine r1L 12 rfl fun K hK => ?_
   · obtain ⟨w7, hr7, R7, k7, z7⟩ := clear_run (Pr := Try.prog) w1.drew 22 0 26 Try.underlying22 (.slice none 0 0) (fun w => by kernel_rfl) rfl rfl (some ⟨g, 0, none⟩) 0 0 g M vs 26 ((HDK.out.below BK.out).row.keep rfl) (fun h => absurd h (by decide)) (by rw [HDK.out.len, HD.out]; omega)
     have HRun : Hid _ := hr7
     have HR7 : Hid _ := R7
     have K7 : Hid (Kept (· ≠ g) w1 w7) := (Kept.refl _ w1).drew.trans k7
     have S1 := HSee.out _ (K7.out.mono (fun b hb => hb.2.1))
     clear hr7 R7 k7 z7
     refine qHX rfl (by rfl) _ _ rfl _ _ rfl HRun.out ?_
     refine hK.out _ _ ?_ (fun hH => ?_)
     · try dsimp only
       exact S1
     clear hK K
     refine wpAnyH_done (by kernel_rfl) ?_ _
     clear hH S1
     have HDn : Hid (DiskR w7 (fun b => g + 1 ≤ b ∧ b < wK.heap.size) g (splice vs M (List.replicate Kq (.slice none 0 0))) (Mo.over s.1 M (List.replicate Kq []))) := (HDK.out.below BK.out).over (by rw [List.length_replicate, List.length_replicate]) (fun j v x h1 h2 => by
      rw [List.getElem?_replicate] at h1 h2
      split at h1
      · rename_i hj
        rw [if_pos hj] at h2
        cases h1
        cases h2
        exact q0j _ _ _ _ (fun _ => rfl)
      · cases h1) (by rw [List.length_replicate, HD.out]; have := HMA.out; unfold Hid at this; omega) (by have h := HR7.out; rw [HK0.out]; exact h) (fun b hb _ => K7.out.block b (by have := hb.1; omega))
     have HBx7 : Hid (Row w7 bs 31 [.slice (some ⟨g, 0, none⟩) M M, v, .int .i64 s.2.2]) := HBx.out.keep (K7.out.block bs (by have := HB.out; unfold Hid at this; omega))
     have HSn7 : Hid (rSnps.rd w7 (fun b => g + 1 ≤ b ∧ b < wK.heap.size) [v] s.2.1) := rSnps.keep HSN.out (fun b hb hl => (K7.out.block b (by have := hb.1; omega)).trans (BK.out.block b hl))
     have HRR7 : Hid (Row w7 w0.heap.size 38 _) := HRR.out.keep (K7.out.block w0.heap.size (by have := HB.out; have := HZ.out; unfold Hid at *; omega))
     have r0 := HRR7.out.cell (j := 0) rfl
     have r1 := HRR7.out.cell (j := 1) rfl
     have r2 := HRR7.out.cell (j := 2) rfl
     have r3 := HRR7.out.cell (j := 3) rfl
     have r4 := HRR7.out.cell (j := 4) rfl
     have f0 := HRR7.out.frozen 0
     have f1 := HRR7.out.frozen 1
     have f2 := HRR7.out.frozen 2
     have f3 := HRR7.out.frozen 3
     have f4 := HRR7.out.frozen 4
     go_wp2
     have V8 := (((((HRR7.out.set 0 (.int .i64 0)).set 1 (.slice none 0 0)).set 2 (.int .i64 0)).set 3 (.slice none 0 0)).set 4 (.int .i64 0))
     have hk8 := kept5 w7 w0.heap.size (.int .i64 0) (.slice none 0 0) (.int .i64 0) (.slice none 0 0) (.int .i64 0)
     refine bodyPost_ret (q1q rfl rfl V8 Try.underlying38 rfl (by kernel_rfl)) rfl ⟨_, none, 0, 0, none, 0, 0, bs, rfl, HBx7.out.keep (hk8.block bs (by have := HB.out; have := HZ.out; unfold Hid at *; omega)), ?_, q2x _ _, q0Z _ _, .inl rfl, ?_, ?_⟩
     · rw [HChg.out]
       refine q2Q (s := (Mo.over s.1 M (List.replicate Kq []), s.2.1, s.2.2)) (rSectors.weaken (Rep.kept (DiskR.rd (P := fun b => g ≤ b ∧ b < wK.heap.size) (HDn.out.weaken (fun b hb _ => ⟨by omega, hb.2⟩)) ⟨Nat.le_refl _, HB.out.1⟩ (by rw [Mo.over_len (by rw [List.length_replicate, HD.out]; have := HMA.out; unfold Hid at this; omega)]; exact HD.out) (by omega)) hk8 (fun b hb _ => ?_)) (fun b hb _ => ?_)) (rSnps.weaken (Rep.kept HSn7.out hk8 (fun b hb _ => ?_)) (fun b hb _ => ?_)) HNX.out
       all_goals (have h1 := HB.out; have h2 := HZ.out; unfold Hid at h1 h2; (try dsimp only at hb ⊢); omega)
     · exact Nat.lt_of_lt_of_le HBx7.out.lt hk8.size
     · exact ((Kept.below B1.out).mono (fun b hb => hb.1)).trans ((K7.out.mono (fun b hb => by have := HB.out; unfold Hid at this; have := hb.2.2; omega)).trans (hk8.mono (fun b hb => by have := HZ.out; unfold Hid at this; have := hb.1; omega)))
 · have hAc2 : ¬ ((n : Int) = (A : Int)) := by omega
   go_enter Try.func31, Try.ntmps31
   go_wp2_with fail
   refine wp_region_held_drew (S := (fun w' : World => w'.cell? ⟨bs, 0, none⟩ = some (.slice (some ⟨g, 0, none⟩) n n) ∧ w'.cell? ⟨w.heap.size, 1, none⟩ = some (.int .i64 (A : Int)) ∧ w'.cell? ⟨w.heap.size, 2, none⟩ = some (.int .i64 (Kq : Int)))) (by kernel_rfl) (S0) (fun hH => ?_)
   refine tkM 0 _ rfl rfl ?_; simp only [sz, ss]
   refine tkM 1 _ rfl rfl ?_; simp only [sz, ss]
   refine tkM 2 _ rfl rfl ?_; simp only [sz, ss]
   refine tkM 3 _ rfl rfl ?_; simp only [sz, ss]
   refine tkM 4 _ rfl rfl ?_; simp only [sz, ss]
   refine tkM 5 _ rfl rfl ?_; simp only [sz, ss]
   refine tkM 6 _ rfl rfl ?_; simp only [sz, ss]
   refine tkM 7 _ rfl rfl ?_; simp only [sz, ss]
   refine tkM 8 _ rfl rfl ?_; simp only [sz, ss]
   refine tkM 9 _ rfl rfl ?_; simp only [sz, ss]
   refine tkM 10 _ rfl rfl ?_; simp only [sz, ss]
   refine tkM 11 _ rfl rfl ?_; simp only [sz, ss]
   refine r1L 12 rfl fun K hK => ?_
   · obtain ⟨w7, hr7, R7, k7, z7⟩ := clear_run (Pr := Try.prog) w1.drew 22 0 26 Try.underlying22 (.slice none 0 0) (fun w => by kernel_rfl) rfl rfl (some ⟨g, A, none⟩) (M - A) (n - A) g A vs 26 ((HDK.out.below BK.out).row.keep rfl) (fun _ => rfl) (by rw [HDK.out.len, HD.out]; omega)
     have HRun : Hid _ := hr7
     have HR7 : Hid _ := R7
     have K7 : Hid (Kept (· ≠ g) w1 w7) := (Kept.refl _ w1).drew.trans k7
     have S1 := HSee.out _ (K7.out.mono (fun b hb => hb.2.1))
     clear hr7 R7 k7 z7
     refine qHX rfl (by rfl) _ _ rfl _ _ rfl HRun.out ?_
     refine hK.out _ _ ?_ (fun hH => ?_)
     · try dsimp only
       exact S1
     clear hK K
     refine wpAnyH_done (by kernel_rfl) ?_ _
     clear hH S1
     have HDn : Hid (DiskR w7 (fun b => g + 1 ≤ b ∧ b < wK.heap.size) g (splice vs A (List.replicate Kq (.slice none 0 0))) (Mo.over s.1 A (List.replicate Kq []))) := (HDK.out.below BK.out).over (by rw [List.length_replicate, List.length_replicate]) (fun j v x h1 h2 => by
      rw [List.getElem?_replicate] at h1 h2
      split at h1
      · rename_i hj
        rw [if_pos hj] at h2
        cases h1
        cases h2
        exact q0j _ _ _ _ (fun _ => rfl)
      · cases h1) (by rw [List.length_replicate, HD.out]; have := HMA.out; unfold Hid at this; omega) (by have h := HR7.out; rw [HMA.out] at h; exact h) (fun b hb _ => K7.out.block b (by have := hb.1; omega))
     have HBx7 : Hid (Row w7 bs 31 [.slice (some ⟨g, 0, none⟩) n n, v, .int .i64 s.2.2]) := HBx.out.keep (K7.out.block bs (by have := HB.out; unfold Hid at this; omega))
     have HSn7 : Hid (rSnps.rd w7 (fun b => g + 1 ≤ b ∧ b < wK.heap.size) [v] s.2.1) := rSnps.keep HSN.out (fun b hb hl => (K7.out.block b (by have := hb.1; omega)).trans (BK.out.block b hl))
     have HRR7 : Hid (Row w7 w0.heap.size 38 _) := HRR.out.keep (K7.out.block w0.heap.size (by have := HB.out; have := HZ.out; unfold Hid at *; omega))
     have r0 := HRR7.out.cell (j := 0) rfl
     have r1 := HRR7.out.cell (j := 1) rfl
     have r2 := HRR7.out.cell (j := 2) rfl
     have r3 := HRR7.out.cell (j := 3) rfl
     have r4 := HRR7.out.cell (j := 4) rfl
     have f0 := HRR7.out.frozen 0
     have f1 := HRR7.out.frozen 1
     have f2 := HRR7.out.frozen 2
     have f3 := HRR7.out.frozen 3
     have f4 := HRR7.out.frozen 4
     go_wp2
     have V8 := (((((HRR7.out.set 0 (.int .i64 0)).set 1 (.slice none 0 0)).set 2 (.int .i64 0)).set 3 (.slice none 0 0)).set 4 (.int .i64 0))
     have hk8 := kept5 w7 w0.heap.size (.int .i64 0) (.slice none 0 0) (.int .i64 0) (.slice none 0 0) (.int .i64 0)
     refine bodyPost_ret (q1q rfl rfl V8 Try.underlying38 rfl (by kernel_rfl)) rfl ⟨_, none, 0, 0, none, 0, 0, bs, rfl, HBx7.out.keep (hk8.block bs (by have := HB.out; have := HZ.out; unfold Hid at *; omega)), ?_, q2x _ _, q0Z _ _, .inl rfl, ?_, ?_⟩
     · rw [HChg.out]
       refine q2Q (s := (Mo.over s.1 A (List.replicate Kq []), s.2.1, s.2.2)) (rSectors.weaken (Rep.kept (DiskR.rd (P := fun b => g ≤ b ∧ b < wK.heap.size) (HDn.out.weaken (fun b hb _ => ⟨by omega, hb.2⟩)) ⟨Nat.le_refl _, HB.out.1⟩ (by rw [Mo.over_len (by rw [List.length_replicate, HD.out]; have := HMA.out; unfold Hid at this; omega)]; exact HD.out) (by omega)) hk8 (fun b hb _ => ?_)) (fun b hb _ => ?_)) (rSnps.weaken (Rep.kept HSn7.out hk8 (fun b hb _ => ?_)) (fun b hb _ => ?_)) HNX.out
       all_goals (have h1 := HB.out; have h2 := HZ.out; unfold Hid at h1 h2; (try dsimp only at hb ⊢); omega)
     · exact Nat.lt_of_lt_of_le HBx7.out.lt hk8.size
     · exact ((Kept.below B1.out).mono (fun b hb => hb.1)).trans ((K7.out.mono (fun b hb => by have := HB.out; unfold Hid at this; have := hb.2.2; omega)).trans (hk8.mono (fun b hb => by have := HZ.out; unfold Hid at this; have := hb.1; omega)))
set_option maxRecDepth 20000 in
theorem done4_u (wK w : World) (P : Nat → Prop) (bs g n : Nat) (vs : List Value) (v : Value) (s : Sta) (H : StAt wK w bs g n vs v s) (hok : Mo.ok s = true) (at' N id : Int) (nm : ByteArray) (dt : List UInt8) (xa : Option Addr) (xn xc : Nat) (hX : rBytes.rd w P [.slice xa xn xc] dt) (h2 : I64 at') (h3 : I64 N) (h4 : I64 id) (hs : nm.size ≤ maxLen) (he : Mo.opE s (4, at', N, id, nm, dt) = 0) :
 Calls Try.prog 31 #[.pointer (some ⟨bs, 0, none⟩), .agg #[.int .i64 4, .int .i64 at', .int .i64 N, .int .i64 id, .string nm, .slice xa xn xc]] w (qJx wK w bs g (Mo.chgS s (4, at', N, id, nm, dt)) (Mo.chgD s (4, at', N, id, nm, dt)) (Mo.chgI s (4, at', N, id, nm, dt)) (Mo.chgL s (4, at', N, id, nm, dt))) := by
 have hF := (Mo.ok_iff s).1 hok
 have hl8 := hF.few
 have hnx : -9223372036854775808 ≤ s.2.2 ∧ s.2.2 ≤ 9223372036854775807 := by have := hF.low; have := hF.high; omega
 have hn : n ≤ 65536 := by have h1 := (Mo.okDisk_iff.1 hF.now).1; rw [H.len] at h1; exact h1
 obtain ⟨va, vc, hv, hsn⟩ := H.list hl8
 have hdk : DiskR wK (fun b => g + 1 ≤ b ∧ b < wK.heap.size) g vs s.1 := H.disk.weaken (fun b hb hl => ⟨hb.1, hl⟩)
 have hlenD := H.len
 have he' : Mo.takeE (Mo.named s.2.1) s.2.2 nm = 0 := he
 obtain ⟨-, -, e3, e4⟩ := Mo.takeE_zero he'
 have e5 := hF.low
 have HNs : Hid (nm.size ≤ maxLen) := hs
 have HChg : Hid (Mo.chgS s (4, at', N, id, nm, dt) = (s.1, s.2.1 ++ [(s.2.2, nm, s.1)], s.2.2 + 1)) := by unfold Hid; rfl
 have HChI : Hid (Mo.chgI s (4, at', N, id, nm, dt) = s.2.2) := by unfold Hid; rfl
 have HChL : Hid (Mo.chgL s (4, at', N, id, nm, dt) = []) := by unfold Hid; rfl
 have HChD : Hid (Mo.chgD s (4, at', N, id, nm, dt) = []) := by unfold Hid; rfl
 obtain ⟨w0, hw0, V0, b0, z0⟩ := q0q w 33 [.int .i64 4, .int .i64 at', .int .i64 N, .int .i64 id, .string nm, .slice xa xn xc]
 obtain ⟨w1, hw1, V1, b1, z1⟩ := q0q w0 38 [.int .i64 0, .slice none 0 0, .int .i64 0, .slice none 0 0, .int .i64 0]
 have B1 : Hid (Below w.heap.size w w1) := on b0 b1
 have HXR : Hid (Row w1 w.heap.size 33 [.int .i64 4, .int .i64 at', .int .i64 N, .int .i64 id, .string nm, .slice xa xn xc]) := V0.below b1
 have HRR : Hid _ := V1
 have HZ : Hid (w0.heap.size = w.heap.size + 1 ∧ w1.heap.size = w.heap.size + 2) := ⟨z0, by omega⟩
 have HBx : Hid (Row w1 bs 31 [.slice (some ⟨g, 0, none⟩) n n, v, .int .i64 s.2.2]) := H.box.below B1.out
 have HB : Hid (g < wK.heap.size ∧ wK.heap.size ≤ bs ∧ bs < w.heap.size ∧ wK.heap.size ≤ w.heap.size) := ⟨H.hg, H.hb, H.box.lt, H.bel.size⟩
 have BK : Hid (Below wK.heap.size wK w1) := H.bel.trans (B1.out.mono H.bel.size)
 have HDK : Hid _ := hdk
 have HSN : Hid _ := hsn
 have HV : Hid _ := hv
 have HD : Hid (s.1.length = n) := hlenD
 have HXd : Hid (rBytes.rd w1 (fun b => b < w.heap.size) [.slice xa xn xc] dt) := Rep.below (rBytes.weaken hX (fun b _ hl => hl)) B1.out
 have HNX : Hid _ := hnx
 have HL8 : Hid _ := hl8
 have HOwn : Hid _ := H.snaps
 have HFine : Hid _ := hF
 have x0 := HXR.out.cell (j := 0) rfl
 have HSee : Hid (∀ w', Kept (fun b => b < w1.heap.size ∧ wK.heap.size ≤ b ∧ b ≠ w0.heap.size) w1 w' → w'.cell? ⟨bs, 0, none⟩ = some (.slice (some ⟨g, 0, none⟩) n n) ∧ w'.cell? ⟨w.heap.size, 4, none⟩ = some (.string nm)) := by
  intro w' hk
  have h1 := HB.out
  have h2 := HZ.out
  unfold Hid at h1 h2
  exact ⟨hk.cell (p := ⟨bs, 0, none⟩) (by show bs < _ ∧ wK.heap.size ≤ bs ∧ bs ≠ w0.heap.size; omega) (HBx.out.cell (j := 0) rfl), hk.cell (p := ⟨w.heap.size, 4, none⟩) (by show w.heap.size < _ ∧ wK.heap.size ≤ w.heap.size ∧ w.heap.size ≠ w0.heap.size; omega) (HXR.out.cell (j := 4) rfl)⟩
 have S0 := HSee.out _ ((Kept.refl _ w1).drew)
 have HDR : Hid (rSectors.rd w1 (fun b => g ≤ b ∧ b < wK.heap.size) [.slice (some ⟨g, 0, none⟩) n n] s.1) := DiskR.rd (P := fun b => g ≤ b ∧ b < wK.heap.size) ((HDK.out.below BK.out).weaken (fun b hb _ => ⟨Nat.le_of_succ_le hb.1, hb.2⟩)) ⟨Nat.le_refl _, HB.out.1⟩ HD.out (by omega)
 have y2 := HBx.out.cell (j := 2) rfl
 have HDo : Hid (DiskR wK (fun b => g + 1 ≤ b ∧ v.ownBlock ≠ some b ∧ b < wK.heap.size) g vs s.1) := H.disk.weaken (fun b hb hl => ⟨hb.1, hb.2, hl⟩)
 clear H hdk hsn hv hlenD hX hnx hF V0 V1 b0 b1 z0 z1 h4 hs hok he he' e3 h2 h3
 go_enter Try.func31, Try.ntmps31
 go_wp2_with fail
 clear y2
 refine wp_region_held_drew (S := (fun w' : World => w'.cell? ⟨bs, 0, none⟩ = some (.slice (some ⟨g, 0, none⟩) n n) ∧ w'.cell? ⟨w.heap.size, 4, none⟩ = some (.string nm))) (by kernel_rfl) (S0) (fun hH => ?_)
 refine tkM 0 _ rfl rfl ?_; simp only [sz, ss]
 refine tkM 1 _ rfl rfl ?_; simp only [sz, ss]
 refine tkM 2 _ rfl rfl ?_; simp only [sz, ss]
 refine tkM 3 _ rfl rfl ?_; simp only [sz, ss]
 refine tkM 5 _ rfl rfl ?_; simp only [sz, ss]
 refine tkM 6 _ rfl rfl ?_; simp only [sz, ss]
 refine tkM 7 _ rfl rfl ?_; simp only [sz, ss]
 refine tkM 8 _ rfl rfl ?_; simp only [sz, ss]
 refine tkM 9 _ rfl rfl ?_; simp only [sz, ss]
 refine tkM 10 _ rfl rfl ?_; simp only [sz, ss]
 refine tkM 11 _ rfl rfl ?_; simp only [sz, ss]
 refine rdL [4, 12] ?_
 refine rcL (fun K hK => ?_) ?_
 · have rv := (HBx.out.below (Below.refl _ w1).drew).cell (j := 1) rfl
   go_simp
   refine hK.out _ _ ?_ (fun hH => ?_)
   · try dsimp only
     first | exact S4 | exact S3 | exact S2 | exact S1 | exact S0
   clear hK K
   refine r1L 12 rfl fun K hK => ?_
   · go_simp
     go_at_call 46
     refine Calls.mono (q2j w1.drew (fun b => g ≤ b ∧ b < wK.heap.size) (some ⟨g, 0, none⟩) n n s.1 (rSectors.keep HDR.out (fun _ _ _ => rfl))) ?_
     rintro e w5 ⟨g5, vs5, rfl, hgs, hgl, hda, bd5⟩
     have B5 : Hid (Below w1.heap.size w1 w5) := (Below.refl w1.heap.size w1).drew.trans bd5
     have HR5 : Hid (rSectors.rd w5 (fun b => w1.heap.size ≤ b) [.slice (some ⟨g5, 0, none⟩) n n] s.1) := rSectors.weaken (hda.rd HD.out (by omega) (hgl g5 (Nat.lt_succ_self g5))) (fun b hb _ => Nat.le_trans hgs hb)
     have S1 := HSee.out _ ((Kept.below B5.out).mono (fun b hb => hb.1))
     clear hgs hda bd5 hgl
     go_simp
     refine hK.out _ _ ?_ (fun hH => ?_)
     · try dsimp only
       first | exact S4 | exact S3 | exact S2 | exact S1 | exact S0
     clear hK K
     refine tkM 13 _ rfl rfl ?_; simp only [sz, ss]
     refine r1L 14 rfl fun K hK => ?_
     · go_simp
       have BA : Hid (Below w5.heap.size w5 (w5.alloc (.cells #[.int .i64 s.2.2, .string nm, .slice (some ⟨g5, 0, none⟩) n n] 66))) := (Below.refl _ _).alloc (Nat.le_refl _) _
       have S2 := HSee.out _ ((Kept.below (on B5.out BA.out)).mono (fun b hb => hb.1))
       refine hK.out _ _ ?_ (fun hH => ?_)
       · try dsimp only
         first | exact S4 | exact S3 | exact S2 | exact S1 | exact S0
       clear hK K
       refine r1L 15 rfl fun K hK => ?_
       · refine q2q q5x rfl (.tmp 65) (.tmp 75) rfl (g + 1) (fun b => g + 1 ≤ b ∧ (b < wK.heap.size ∨ w1.heap.size ≤ b)) v s.2.1 (by simp [Go.Act.eval]) (Owns.toQ2 HOwn.out (fun b => g + 1 ≤ b ∧ (b < wK.heap.size ∨ w1.heap.size ≤ b)) (fun b h1 h2 => ⟨h1, .inl h2⟩) (BK.out.trans ((on B5.out BA.out).mono BK.out.size))) ⟨w5.heap.size, 0, none⟩ [.int .i64 s.2.2, .string nm, .slice (some ⟨g5, 0, none⟩) n n] (s.2.2, nm, s.1) (by simp [Go.Act.eval]) (q6x w5 s.2.2 nm _ _) ?_ ?_ ?_ ?_ ?_
         · exact rSnp.weaken (q4j HNX.out HNs.out (Rep.below HR5.out BA.out)) (fun b hb _ => by
            have hb2 : w1.heap.size ≤ b := hb
            exact ⟨⟨by (have h8 := HB.out; have h9 := HZ.out; unfold Hid at h8 h9; omega), .inr hb2⟩, fun e => by have h1 := (Owns.row HOwn.out b e).2; (have h8 := HB.out; have h9 := HZ.out; unfold Hid at h8 h9; omega)⟩)
         · show _ * 48 ≤ _; have := HL8.out; omega
         · unfold maxLen; have := HL8.out; omega
         · have h1 := B5.out.size; have h2 := BA.out.size; (have h8 := HB.out; have h9 := HZ.out; unfold Hid at h8 h9; omega)
         intro b6 d6 w6 ho6 g6 at6
         have B56 : Hid _ := on B5.out BA.out
         have HGr : Hid (∀ k, v.ownBlock = some k → g + 1 ≤ k ∧ k < wK.heap.size) := fun k hk => Owns.row HOwn.out k hk
         have HAt : Hid (∀ k, (Value.slice b6 (s.2.1.length + 1) d6).ownBlock = some k → g + 1 ≤ k ∧ (k < wK.heap.size ∨ w1.heap.size ≤ k)) := fun k hk => by
          rcases at6 with h | h
          · rw [h] at hk; have h1 := HGr.out _ hk; exact ⟨h1.1, .inl h1.2⟩
          · rw [h] at hk; have h1 := B56.out.size; cases hk; exact ⟨by (have h8 := HB.out; have h9 := HZ.out; unfold Hid at h8 h9; omega), .inr h1⟩
         have HO6 : Hid (rSnps.rd w6 (fun b => g + 1 ≤ b ∧ (b < wK.heap.size ∨ w1.heap.size ≤ b)) [.slice b6 (s.2.1.length + 1) d6] (s.2.1 ++ [(s.2.2, nm, s.1)])) := OwnsQ.rdQ (hs := by decide) ho6 (by rw [List.length_append, List.length_singleton]) (by show _ * 48 ≤ _; have := HL8.out; omega) HAt.out
         have V6 : Hid (Row w6 bs 31 [.slice (some ⟨g, 0, none⟩) n n, v, .int .i64 s.2.2]) := (HBx.out.below B56.out).keep (g6.block bs (Nat.lt_of_lt_of_le HBx.out.lt B56.out.size) (fun e => by have h1 := (HGr.out _ e.symm).2; (have h8 := HB.out; have h9 := HZ.out; unfold Hid at h8 h9; omega)))
         have hK6 : Kept (fun b => b < w1.heap.size ∧ (b < g + 1 ∨ wK.heap.size ≤ b)) w1 w6 := ((Kept.below B56.out).mono (fun b hb => hb.1)).grown g6 (fun b hb => Nat.lt_of_lt_of_le hb.1 B56.out.size) (fun j hj hs => by have h1 := HGr.out j hj; have h2 := hs.2; omega)
         have K6 : Hid _ := hK6
         have HD6 : Hid (DiskR w6 (fun b => g + 1 ≤ b ∧ b < wK.heap.size) g vs s.1) := ((HDo.out.below (BK.out.trans (B56.out.mono BK.out.size))).keep (fun b hb hl => g6.block b hl (fun e => hb.2.1 e.symm)) (g6.block g (Nat.lt_of_lt_of_le HB.out.1 (Nat.le_trans BK.out.size B56.out.size)) (fun e => by have h1 := (HGr.out _ e.symm).1; omega))).weaken (fun b hb _ => ⟨hb.1, hb.2.2⟩)
         have S3 := HSee.out _ (hK6.mono (fun b hb => ⟨hb.1, .inr hb.2.1⟩))
         clear ho6 g6 at6 hK6
         try go_simp
         refine hK.out _ _ ?_ (fun hH => ?_)
         · try dsimp only
           first | exact S4 | exact S3 | exact S2 | exact S1 | exact S0
         clear hK K
         refine tkM 16 _ rfl rfl ?_; simp only [sz, ss]
         refine tkM 17 _ rfl rfl ?_; simp only [sz, ss]
         refine r1L 18 rfl fun K hK => ?_
         · have y1 := V6.out.cell (j := 1) rfl
           have z1 := V6.out.frozen 1
           obtain ⟨w7, hw7⟩ : ∃ w7, w6.setCell ⟨bs, 1, none⟩ (.slice b6 (s.2.1.length + 1) d6) = w7 := ⟨_, rfl⟩
           have V7 : Hid (Row w7 bs 31 [.slice (some ⟨g, 0, none⟩) n n, .slice b6 (s.2.1.length + 1) d6, .int .i64 s.2.2]) := by rw [← hw7]; exact V6.out.set 1 _
           have K7 : Hid (Kept (· ≠ bs) w6 w7) := by rw [← hw7]; exact (Kept.refl _ w6).setCell (p := ⟨bs, 1, none⟩) (fun h => h rfl) _
           have S4 := And.intro (V7.out.cell (j := 0) rfl) (K7.out.cell (p := ⟨w.heap.size, 4, none⟩) (by show w.heap.size ≠ bs; (have h8 := HB.out; have h9 := HZ.out; unfold Hid at h8 h9; omega)) S3.2)
           go_simp
           refine hK.out _ _ ?_ (fun hH => ?_)
           · try dsimp only
             first | exact S4 | exact S3 | exact S2 | exact S1 | exact S0
           clear hK K
           refine wpAnyH_done (by kernel_rfl) ?_ _
           clear hH y1 z1 S4 S3
           have y2 := V7.out.cell (j := 2) rfl
           have z2 := V7.out.frozen 2
           obtain ⟨w8, hw8⟩ : ∃ w8, w7.setCell ⟨bs, 2, none⟩ (.int .i64 (s.2.2 + 1)) = w8 := ⟨_, rfl⟩
           have V8 : Hid (Row w8 bs 31 [.slice (some ⟨g, 0, none⟩) n n, .slice b6 (s.2.1.length + 1) d6, .int .i64 (s.2.2 + 1)]) := by rw [← hw8]; exact V7.out.set 2 _
           have K8 : Hid (Kept (· ≠ bs) w6 w8) := by rw [← hw8]; exact K7.out.setCell (p := ⟨bs, 2, none⟩) (fun h => h rfl) _
           have HRR8 := (HRR.out.keep (K6.out.block w0.heap.size (by show _ ∧ _; (have h8 := HB.out; have h9 := HZ.out; unfold Hid at h8 h9; omega)))).keep (K8.out.block w0.heap.size (by show w0.heap.size ≠ bs; (have h8 := HB.out; have h9 := HZ.out; unfold Hid at h8 h9; omega)))
           have r0 := HRR8.cell (j := 0) rfl
           have r1 := HRR8.cell (j := 1) rfl
           have r2 := HRR8.cell (j := 2) rfl
           have r3 := HRR8.cell (j := 3) rfl
           have r4 := HRR8.cell (j := 4) rfl
           have f0 := HRR8.frozen 0
           have f1 := HRR8.frozen 1
           have f2 := HRR8.frozen 2
           have f3 := HRR8.frozen 3
           have f4 := HRR8.frozen 4
           obtain ⟨w9, hw9, V9, K9⟩ := HRR8.whole5 (.int .i64 0) (.slice none 0 0) (.int .i64 s.2.2) (.slice none 0 0) (.int .i64 0)
           have HV9 : Hid _ := V9
           have HK9 : Hid _ := K9
           clear V9 K9 HRR8 hw7
           go_wp2
           refine bodyPost_ret (q1q rfl rfl HV9.out Try.underlying38 rfl (by kernel_rfl)) rfl ⟨_, none, 0, 0, none, 0, 0, bs, by rw [HChI.out], V8.out.keep (HK9.out.block bs (by show bs ≠ w0.heap.size; (have h8 := HB.out; have h9 := HZ.out; unfold Hid at h8 h9; omega))), ?_, by rw [HChD.out]; exact q2x _ _, by rw [HChL.out]; exact q0Z _ _, .inl rfl, ?_, ?_⟩
           · rw [HChg.out]
             refine q2Q (s := (s.1, s.2.1 ++ [(s.2.2, nm, s.1)], s.2.2 + 1)) (rSectors.weaken (Rep.kept (Rep.kept (DiskR.rd (P := fun b => g ≤ b ∧ b < wK.heap.size) (HD6.out.weaken (fun b hb _ => ⟨by omega, hb.2⟩)) ⟨Nat.le_refl _, HB.out.1⟩ HD.out (by omega)) K8.out (fun b hb _ => ?_)) HK9.out (fun b hb _ => ?_)) (fun b hb _ => ?_)) (rSnps.weaken (Rep.kept (Rep.kept HO6.out K8.out (fun b hb _ => ?_)) HK9.out (fun b hb _ => ?_)) (fun b hb _ => ?_)) (by show -9223372036854775808 ≤ s.2.2 + 1 ∧ s.2.2 + 1 ≤ 9223372036854775807; omega)
             all_goals (have h1 := HB.out; have h2 := HZ.out; unfold Hid at h1 h2; (try dsimp only at hb ⊢); omega)
           · exact Nat.lt_of_lt_of_le V8.out.lt HK9.out.size
           · exact ((Kept.below B1.out).mono (fun b hb => hb.1)).trans ((K6.out.mono (fun b hb => ⟨Nat.lt_of_lt_of_le hb.1 B1.out.size, by have := hb.2.2; omega⟩)).trans ((K8.out.mono (fun b hb => hb.2.1)).trans (HK9.out.mono (fun b hb => by have := HZ.out; unfold Hid at this; have := hb.1; omega))))
 refine rcL (fun K hK => ?_) ?_
 · go_simp
   go_at_call 46
   refine Calls.mono (q2j w1.drew (fun b => g ≤ b ∧ b < wK.heap.size) (some ⟨g, 0, none⟩) n n s.1 (rSectors.keep HDR.out (fun _ _ _ => rfl))) ?_
   rintro e w5 ⟨g5, vs5, rfl, hgs, hgl, hda, bd5⟩
   have B5 : Hid (Below w1.heap.size w1 w5) := (Below.refl w1.heap.size w1).drew.trans bd5
   have HR5 : Hid (rSectors.rd w5 (fun b => w1.heap.size ≤ b) [.slice (some ⟨g5, 0, none⟩) n n] s.1) := rSectors.weaken (hda.rd HD.out (by omega) (hgl g5 (Nat.lt_succ_self g5))) (fun b hb _ => Nat.le_trans hgs hb)
   have S1 := HSee.out _ ((Kept.below B5.out).mono (fun b hb => hb.1))
   clear hgs hda bd5 hgl
   go_simp
   refine hK.out _ _ ?_ (fun hH => ?_)
   · try dsimp only
     first | exact S4 | exact S3 | exact S2 | exact S1 | exact S0
   clear hK K
   refine tkM 13 _ rfl rfl ?_; simp only [sz, ss]
   refine rdL [4, 14] ?_
   refine rcL (fun K hK => ?_) ?_
   · have rv := (HBx.out.below B5.out).cell (j := 1) rfl
     go_simp
     refine hK.out _ _ ?_ (fun hH => ?_)
     · try dsimp only
       first | exact S4 | exact S3 | exact S2 | exact S1 | exact S0
     clear hK K
     refine r1L 14 rfl fun K hK => ?_
     · go_simp
       have BA : Hid (Below w5.heap.size w5 (w5.alloc (.cells #[.int .i64 s.2.2, .string nm, .slice (some ⟨g5, 0, none⟩) n n] 66))) := (Below.refl _ _).alloc (Nat.le_refl _) _
       have S2 := HSee.out _ ((Kept.below (on B5.out BA.out)).mono (fun b hb => hb.1))
       refine hK.out _ _ ?_ (fun hH => ?_)
       · try dsimp only
         first | exact S4 | exact S3 | exact S2 | exact S1 | exact S0
       clear hK K
       refine r1L 15 rfl fun K hK => ?_
       · refine q2q q5x rfl (.tmp 65) (.tmp 75) rfl (g + 1) (fun b => g + 1 ≤ b ∧ (b < wK.heap.size ∨ w1.heap.size ≤ b)) v s.2.1 (by simp [Go.Act.eval]) (Owns.toQ2 HOwn.out (fun b => g + 1 ≤ b ∧ (b < wK.heap.size ∨ w1.heap.size ≤ b)) (fun b h1 h2 => ⟨h1, .inl h2⟩) (BK.out.trans ((on B5.out BA.out).mono BK.out.size))) ⟨w5.heap.size, 0, none⟩ [.int .i64 s.2.2, .string nm, .slice (some ⟨g5, 0, none⟩) n n] (s.2.2, nm, s.1) (by simp [Go.Act.eval]) (q6x w5 s.2.2 nm _ _) ?_ ?_ ?_ ?_ ?_
         · exact rSnp.weaken (q4j HNX.out HNs.out (Rep.below HR5.out BA.out)) (fun b hb _ => by
            have hb2 : w1.heap.size ≤ b := hb
            exact ⟨⟨by (have h8 := HB.out; have h9 := HZ.out; unfold Hid at h8 h9; omega), .inr hb2⟩, fun e => by have h1 := (Owns.row HOwn.out b e).2; (have h8 := HB.out; have h9 := HZ.out; unfold Hid at h8 h9; omega)⟩)
         · show _ * 48 ≤ _; have := HL8.out; omega
         · unfold maxLen; have := HL8.out; omega
         · have h1 := B5.out.size; have h2 := BA.out.size; (have h8 := HB.out; have h9 := HZ.out; unfold Hid at h8 h9; omega)
         intro b6 d6 w6 ho6 g6 at6
         have B56 : Hid _ := on B5.out BA.out
         have HGr : Hid (∀ k, v.ownBlock = some k → g + 1 ≤ k ∧ k < wK.heap.size) := fun k hk => Owns.row HOwn.out k hk
         have HAt : Hid (∀ k, (Value.slice b6 (s.2.1.length + 1) d6).ownBlock = some k → g + 1 ≤ k ∧ (k < wK.heap.size ∨ w1.heap.size ≤ k)) := fun k hk => by
          rcases at6 with h | h
          · rw [h] at hk; have h1 := HGr.out _ hk; exact ⟨h1.1, .inl h1.2⟩
          · rw [h] at hk; have h1 := B56.out.size; cases hk; exact ⟨by (have h8 := HB.out; have h9 := HZ.out; unfold Hid at h8 h9; omega), .inr h1⟩
         have HO6 : Hid (rSnps.rd w6 (fun b => g + 1 ≤ b ∧ (b < wK.heap.size ∨ w1.heap.size ≤ b)) [.slice b6 (s.2.1.length + 1) d6] (s.2.1 ++ [(s.2.2, nm, s.1)])) := OwnsQ.rdQ (hs := by decide) ho6 (by rw [List.length_append, List.length_singleton]) (by show _ * 48 ≤ _; have := HL8.out; omega) HAt.out
         have V6 : Hid (Row w6 bs 31 [.slice (some ⟨g, 0, none⟩) n n, v, .int .i64 s.2.2]) := (HBx.out.below B56.out).keep (g6.block bs (Nat.lt_of_lt_of_le HBx.out.lt B56.out.size) (fun e => by have h1 := (HGr.out _ e.symm).2; (have h8 := HB.out; have h9 := HZ.out; unfold Hid at h8 h9; omega)))
         have hK6 : Kept (fun b => b < w1.heap.size ∧ (b < g + 1 ∨ wK.heap.size ≤ b)) w1 w6 := ((Kept.below B56.out).mono (fun b hb => hb.1)).grown g6 (fun b hb => Nat.lt_of_lt_of_le hb.1 B56.out.size) (fun j hj hs => by have h1 := HGr.out j hj; have h2 := hs.2; omega)
         have K6 : Hid _ := hK6
         have HD6 : Hid (DiskR w6 (fun b => g + 1 ≤ b ∧ b < wK.heap.size) g vs s.1) := ((HDo.out.below (BK.out.trans (B56.out.mono BK.out.size))).keep (fun b hb hl => g6.block b hl (fun e => hb.2.1 e.symm)) (g6.block g (Nat.lt_of_lt_of_le HB.out.1 (Nat.le_trans BK.out.size B56.out.size)) (fun e => by have h1 := (HGr.out _ e.symm).1; omega))).weaken (fun b hb _ => ⟨hb.1, hb.2.2⟩)
         have S3 := HSee.out _ (hK6.mono (fun b hb => ⟨hb.1, .inr hb.2.1⟩))
         clear ho6 g6 at6 hK6
         try go_simp
         refine hK.out _ _ ?_ (fun hH => ?_)
         · try dsimp only
           first | exact S4 | exact S3 | exact S2 | exact S1 | exact S0
         clear hK K
         refine tkM 16 _ rfl rfl ?_; simp only [sz, ss]
         refine tkM 17 _ rfl rfl ?_; simp only [sz, ss]
         refine r1L 18 rfl fun K hK => ?_
         · have y1 := V6.out.cell (j := 1) rfl
           have z1 := V6.out.frozen 1
           obtain ⟨w7, hw7⟩ : ∃ w7, w6.setCell ⟨bs, 1, none⟩ (.slice b6 (s.2.1.length + 1) d6) = w7 := ⟨_, rfl⟩
           have V7 : Hid (Row w7 bs 31 [.slice (some ⟨g, 0, none⟩) n n, .slice b6 (s.2.1.length + 1) d6, .int .i64 s.2.2]) := by rw [← hw7]; exact V6.out.set 1 _
           have K7 : Hid (Kept (· ≠ bs) w6 w7) := by rw [← hw7]; exact (Kept.refl _ w6).setCell (p := ⟨bs, 1, none⟩) (fun h => h rfl) _
           have S4 := And.intro (V7.out.cell (j := 0) rfl) (K7.out.cell (p := ⟨w.heap.size, 4, none⟩) (by show w.heap.size ≠ bs; (have h8 := HB.out; have h9 := HZ.out; unfold Hid at h8 h9; omega)) S3.2)
           go_simp
           refine hK.out _ _ ?_ (fun hH => ?_)
           · try dsimp only
             first | exact S4 | exact S3 | exact S2 | exact S1 | exact S0
           clear hK K
           refine wpAnyH_done (by kernel_rfl) ?_ _
           clear hH y1 z1 S4 S3
           have y2 := V7.out.cell (j := 2) rfl
           have z2 := V7.out.frozen 2
           obtain ⟨w8, hw8⟩ : ∃ w8, w7.setCell ⟨bs, 2, none⟩ (.int .i64 (s.2.2 + 1)) = w8 := ⟨_, rfl⟩
           have V8 : Hid (Row w8 bs 31 [.slice (some ⟨g, 0, none⟩) n n, .slice b6 (s.2.1.length + 1) d6, .int .i64 (s.2.2 + 1)]) := by rw [← hw8]; exact V7.out.set 2 _
           have K8 : Hid (Kept (· ≠ bs) w6 w8) := by rw [← hw8]; exact K7.out.setCell (p := ⟨bs, 2, none⟩) (fun h => h rfl) _
           have HRR8 := (HRR.out.keep (K6.out.block w0.heap.size (by show _ ∧ _; (have h8 := HB.out; have h9 := HZ.out; unfold Hid at h8 h9; omega)))).keep (K8.out.block w0.heap.size (by show w0.heap.size ≠ bs; (have h8 := HB.out; have h9 := HZ.out; unfold Hid at h8 h9; omega)))
           have r0 := HRR8.cell (j := 0) rfl
           have r1 := HRR8.cell (j := 1) rfl
           have r2 := HRR8.cell (j := 2) rfl
           have r3 := HRR8.cell (j := 3) rfl
           have r4 := HRR8.cell (j := 4) rfl
           have f0 := HRR8.frozen 0
           have f1 := HRR8.frozen 1
           have f2 := HRR8.frozen 2
           have f3 := HRR8.frozen 3
           have f4 := HRR8.frozen 4
           obtain ⟨w9, hw9, V9, K9⟩ := HRR8.whole5 (.int .i64 0) (.slice none 0 0) (.int .i64 s.2.2) (.slice none 0 0) (.int .i64 0)
           have HV9 : Hid _ := V9
           have HK9 : Hid _ := K9
           clear V9 K9 HRR8 hw7
           go_wp2
           refine bodyPost_ret (q1q rfl rfl HV9.out Try.underlying38 rfl (by kernel_rfl)) rfl ⟨_, none, 0, 0, none, 0, 0, bs, by rw [HChI.out], V8.out.keep (HK9.out.block bs (by show bs ≠ w0.heap.size; (have h8 := HB.out; have h9 := HZ.out; unfold Hid at h8 h9; omega))), ?_, by rw [HChD.out]; exact q2x _ _, by rw [HChL.out]; exact q0Z _ _, .inl rfl, ?_, ?_⟩
           · rw [HChg.out]
             refine q2Q (s := (s.1, s.2.1 ++ [(s.2.2, nm, s.1)], s.2.2 + 1)) (rSectors.weaken (Rep.kept (Rep.kept (DiskR.rd (P := fun b => g ≤ b ∧ b < wK.heap.size) (HD6.out.weaken (fun b hb _ => ⟨by omega, hb.2⟩)) ⟨Nat.le_refl _, HB.out.1⟩ HD.out (by omega)) K8.out (fun b hb _ => ?_)) HK9.out (fun b hb _ => ?_)) (fun b hb _ => ?_)) (rSnps.weaken (Rep.kept (Rep.kept HO6.out K8.out (fun b hb _ => ?_)) HK9.out (fun b hb _ => ?_)) (fun b hb _ => ?_)) (by show -9223372036854775808 ≤ s.2.2 + 1 ∧ s.2.2 + 1 ≤ 9223372036854775807; omega)
             all_goals (have h1 := HB.out; have h2 := HZ.out; unfold Hid at h1 h2; (try dsimp only at hb ⊢); omega)
           · exact Nat.lt_of_lt_of_le V8.out.lt HK9.out.size
           · exact ((Kept.below B1.out).mono (fun b hb => hb.1)).trans ((K6.out.mono (fun b hb => ⟨Nat.lt_of_lt_of_le hb.1 B1.out.size, by have := hb.2.2; omega⟩)).trans ((K8.out.mono (fun b hb => hb.2.1)).trans (HK9.out.mono (fun b hb => by have := HZ.out; unfold Hid at this; have := hb.1; omega))))
   refine rcL (fun K hK => ?_) ?_
   · go_simp
     have BA : Hid (Below w5.heap.size w5 (w5.alloc (.cells #[.int .i64 s.2.2, .string nm, .slice (some ⟨g5, 0, none⟩) n n] 66))) := (Below.refl _ _).alloc (Nat.le_refl _) _
     have S2 := HSee.out _ ((Kept.below (on B5.out BA.out)).mono (fun b hb => hb.1))
     refine hK.out _ _ ?_ (fun hH => ?_)
     · try dsimp only
       first | exact S4 | exact S3 | exact S2 | exact S1 | exact S0
     clear hK K
     refine r1L 4 rfl fun K hK => ?_
     · have rv := (HBx.out.below (on B5.out BA.out)).cell (j := 1) rfl
       go_simp
       refine hK.out _ _ ?_ (fun hH => ?_)
       · try dsimp only
         first | exact S4 | exact S3 | exact S2 | exact S1 | exact S0
       clear hK K
       refine r1L 15 rfl fun K hK => ?_
       · refine q2q q5x rfl (.tmp 65) (.tmp 75) rfl (g + 1) (fun b => g + 1 ≤ b ∧ (b < wK.heap.size ∨ w1.heap.size ≤ b)) v s.2.1 (by simp [Go.Act.eval]) (Owns.toQ2 HOwn.out (fun b => g + 1 ≤ b ∧ (b < wK.heap.size ∨ w1.heap.size ≤ b)) (fun b h1 h2 => ⟨h1, .inl h2⟩) (BK.out.trans ((on B5.out BA.out).mono BK.out.size))) ⟨w5.heap.size, 0, none⟩ [.int .i64 s.2.2, .string nm, .slice (some ⟨g5, 0, none⟩) n n] (s.2.2, nm, s.1) (by simp [Go.Act.eval]) (q6x w5 s.2.2 nm _ _) ?_ ?_ ?_ ?_ ?_
         · exact rSnp.weaken (q4j HNX.out HNs.out (Rep.below HR5.out BA.out)) (fun b hb _ => by
            have hb2 : w1.heap.size ≤ b := hb
            exact ⟨⟨by (have h8 := HB.out; have h9 := HZ.out; unfold Hid at h8 h9; omega), .inr hb2⟩, fun e => by have h1 := (Owns.row HOwn.out b e).2; (have h8 := HB.out; have h9 := HZ.out; unfold Hid at h8 h9; omega)⟩)
         · show _ * 48 ≤ _; have := HL8.out; omega
         · unfold maxLen; have := HL8.out; omega
         · have h1 := B5.out.size; have h2 := BA.out.size; (have h8 := HB.out; have h9 := HZ.out; unfold Hid at h8 h9; omega)
         intro b6 d6 w6 ho6 g6 at6
         have B56 : Hid _ := on B5.out BA.out
         have HGr : Hid (∀ k, v.ownBlock = some k → g + 1 ≤ k ∧ k < wK.heap.size) := fun k hk => Owns.row HOwn.out k hk
         have HAt : Hid (∀ k, (Value.slice b6 (s.2.1.length + 1) d6).ownBlock = some k → g + 1 ≤ k ∧ (k < wK.heap.size ∨ w1.heap.size ≤ k)) := fun k hk => by
          rcases at6 with h | h
          · rw [h] at hk; have h1 := HGr.out _ hk; exact ⟨h1.1, .inl h1.2⟩
          · rw [h] at hk; have h1 := B56.out.size; cases hk; exact ⟨by (have h8 := HB.out; have h9 := HZ.out; unfold Hid at h8 h9; omega), .inr h1⟩
         have HO6 : Hid (rSnps.rd w6 (fun b => g + 1 ≤ b ∧ (b < wK.heap.size ∨ w1.heap.size ≤ b)) [.slice b6 (s.2.1.length + 1) d6] (s.2.1 ++ [(s.2.2, nm, s.1)])) := OwnsQ.rdQ (hs := by decide) ho6 (by rw [List.length_append, List.length_singleton]) (by show _ * 48 ≤ _; have := HL8.out; omega) HAt.out
         have V6 : Hid (Row w6 bs 31 [.slice (some ⟨g, 0, none⟩) n n, v, .int .i64 s.2.2]) := (HBx.out.below B56.out).keep (g6.block bs (Nat.lt_of_lt_of_le HBx.out.lt B56.out.size) (fun e => by have h1 := (HGr.out _ e.symm).2; (have h8 := HB.out; have h9 := HZ.out; unfold Hid at h8 h9; omega)))
         have hK6 : Kept (fun b => b < w1.heap.size ∧ (b < g + 1 ∨ wK.heap.size ≤ b)) w1 w6 := ((Kept.below B56.out).mono (fun b hb => hb.1)).grown g6 (fun b hb => Nat.lt_of_lt_of_le hb.1 B56.out.size) (fun j hj hs => by have h1 := HGr.out j hj; have h2 := hs.2; omega)
         have K6 : Hid _ := hK6
         have HD6 : Hid (DiskR w6 (fun b => g + 1 ≤ b ∧ b < wK.heap.size) g vs s.1) := ((HDo.out.below (BK.out.trans (B56.out.mono BK.out.size))).keep (fun b hb hl => g6.block b hl (fun e => hb.2.1 e.symm)) (g6.block g (Nat.lt_of_lt_of_le HB.out.1 (Nat.le_trans BK.out.size B56.out.size)) (fun e => by have h1 := (HGr.out _ e.symm).1; omega))).weaken (fun b hb _ => ⟨hb.1, hb.2.2⟩)
         have S3 := HSee.out _ (hK6.mono (fun b hb => ⟨hb.1, .inr hb.2.1⟩))
         clear ho6 g6 at6 hK6
         try go_simp
         refine hK.out _ _ ?_ (fun hH => ?_)
         · try dsimp only
           first | exact S4 | exact S3 | exact S2 | exact S1 | exact S0
         clear hK K
         refine tkM 16 _ rfl rfl ?_; simp only [sz, ss]
         refine tkM 17 _ rfl rfl ?_; simp only [sz, ss]
         refine r1L 18 rfl fun K hK => ?_
         · have y1 := V6.out.cell (j := 1) rfl
           have z1 := V6.out.frozen 1
           obtain ⟨w7, hw7⟩ : ∃ w7, w6.setCell ⟨bs, 1, none⟩ (.slice b6 (s.2.1.length + 1) d6) = w7 := ⟨_, rfl⟩
           have V7 : Hid (Row w7 bs 31 [.slice (some ⟨g, 0, none⟩) n n, .slice b6 (s.2.1.length + 1) d6, .int .i64 s.2.2]) := by rw [← hw7]; exact V6.out.set 1 _
           have K7 : Hid (Kept (· ≠ bs) w6 w7) := by rw [← hw7]; exact (Kept.refl _ w6).setCell (p := ⟨bs, 1, none⟩) (fun h => h rfl) _
           have S4 := And.intro (V7.out.cell (j := 0) rfl) (K7.out.cell (p := ⟨w.heap.size, 4, none⟩) (by show w.heap.size ≠ bs; (have h8 := HB.out; have h9 := HZ.out; unfold Hid at h8 h9; omega)) S3.2)
           go_simp
           refine hK.out _ _ ?_ (fun hH => ?_)
           · try dsimp only
             first | exact S4 | exact S3 | exact S2 | exact S1 | exact S0
           clear hK K
           refine wpAnyH_done (by kernel_rfl) ?_ _
           clear hH y1 z1 S4 S3
           have y2 := V7.out.cell (j := 2) rfl
           have z2 := V7.out.frozen 2
           obtain ⟨w8, hw8⟩ : ∃ w8, w7.setCell ⟨bs, 2, none⟩ (.int .i64 (s.2.2 + 1)) = w8 := ⟨_, rfl⟩
           have V8 : Hid (Row w8 bs 31 [.slice (some ⟨g, 0, none⟩) n n, .slice b6 (s.2.1.length + 1) d6, .int .i64 (s.2.2 + 1)]) := by rw [← hw8]; exact V7.out.set 2 _
           have K8 : Hid (Kept (· ≠ bs) w6 w8) := by rw [← hw8]; exact K7.out.setCell (p := ⟨bs, 2, none⟩) (fun h => h rfl) _
           have HRR8 := (HRR.out.keep (K6.out.block w0.heap.size (by show _ ∧ _; (have h8 := HB.out; have h9 := HZ.out; unfold Hid at h8 h9; omega)))).keep (K8.out.block w0.heap.size (by show w0.heap.size ≠ bs; (have h8 := HB.out; have h9 := HZ.out; unfold Hid at h8 h9; omega)))
           have r0 := HRR8.cell (j := 0) rfl
           have r1 := HRR8.cell (j := 1) rfl
           have r2 := HRR8.cell (j := 2) rfl
           have r3 := HRR8.cell (j := 3) rfl
           have r4 := HRR8.cell (j := 4) rfl
           have f0 := HRR8.frozen 0
           have f1 := HRR8.frozen 1
           have f2 := HRR8.frozen 2
           have f3 := HRR8.frozen 3
           have f4 := HRR8.frozen 4
           obtain ⟨w9, hw9, V9, K9⟩ := HRR8.whole5 (.int .i64 0) (.slice none 0 0) (.int .i64 s.2.2) (.slice none 0 0) (.int .i64 0)
           have HV9 : Hid _ := V9
           have HK9 : Hid _ := K9
           clear V9 K9 HRR8 hw7
           go_wp2
           refine bodyPost_ret (q1q rfl rfl HV9.out Try.underlying38 rfl (by kernel_rfl)) rfl ⟨_, none, 0, 0, none, 0, 0, bs, by rw [HChI.out], V8.out.keep (HK9.out.block bs (by show bs ≠ w0.heap.size; (have h8 := HB.out; have h9 := HZ.out; unfold Hid at h8 h9; omega))), ?_, by rw [HChD.out]; exact q2x _ _, by rw [HChL.out]; exact q0Z _ _, .inl rfl, ?_, ?_⟩
           · rw [HChg.out]
             refine q2Q (s := (s.1, s.2.1 ++ [(s.2.2, nm, s.1)], s.2.2 + 1)) (rSectors.weaken (Rep.kept (Rep.kept (DiskR.rd (P := fun b => g ≤ b ∧ b < wK.heap.size) (HD6.out.weaken (fun b hb _ => ⟨by omega, hb.2⟩)) ⟨Nat.le_refl _, HB.out.1⟩ HD.out (by omega)) K8.out (fun b hb _ => ?_)) HK9.out (fun b hb _ => ?_)) (fun b hb _ => ?_)) (rSnps.weaken (Rep.kept (Rep.kept HO6.out K8.out (fun b hb _ => ?_)) HK9.out (fun b hb _ => ?_)) (fun b hb _ => ?_)) (by show -9223372036854775808 ≤ s.2.2 + 1 ∧ s.2.2 + 1 ≤ 9223372036854775807; omega)
             all_goals (have h1 := HB.out; have h2 := HZ.out; unfold Hid at h1 h2; (try dsimp only at hb ⊢); omega)
           · exact Nat.lt_of_lt_of_le V8.out.lt HK9.out.size
           · exact ((Kept.below B1.out).mono (fun b hb => hb.1)).trans ((K6.out.mono (fun b hb => ⟨Nat.lt_of_lt_of_le hb.1 B1.out.size, by have := hb.2.2; omega⟩)).trans ((K8.out.mono (fun b hb => hb.2.1)).trans (HK9.out.mono (fun b hb => by have := HZ.out; unfold Hid at this; have := hb.1; omega))))
   exact rnL
 exact rnL
abbrev Tri := Int × ByteArray × Value
def tri3 (t : Tri) : List Value := [.int .i64 t.1, .string t.2.1, t.2.2]
def q2X : List Tri → List Value
 | [] => []
 | t :: T => tri3 t ++ q2X T
theorem qBx : ∀ T : List Tri, (q2X T).length = T.length * 3
 | [] => rfl
 | t :: T => by rw [q2X, List.length_append, qBx T]; simp [tri3]; omega
theorem qDz : ∀ S T : List Tri, q2X (S ++ T) = q2X S ++ q2X T
 | [], T => rfl
 | t :: S, T => by rw [List.cons_append, q2X, q2X, qDz S T, List.append_assoc]
theorem qEq : ∀ (T : List Tri) (rest : List Value) (j : Nat) (hj : j < T.length), (q2X T ++ rest)[j * 3]? = some (.int .i64 T[j].1) ∧ (q2X T ++ rest)[j * 3 + 1]? = some (.string T[j].2.1) ∧ (q2X T ++ rest)[j * 3 + 2]? = some T[j].2.2
 | [], rest, j, hj => by cases hj
 | t :: T, rest, 0, hj => ⟨rfl, rfl, rfl⟩
 | t :: T, rest, j + 1, hj => by
   have ih := qEq T rest j (by simpa using hj)
   have e : ∀ r, (q2X (t :: T) ++ rest)[(j + 1) * 3 + r]? = (q2X T ++ rest)[j * 3 + r]? := fun r => by
    rw [q2X, List.append_assoc, List.getElem?_append_right (by simp [tri3]; omega)]
    congr 1
    simp [tri3]; omega
   have e0 := e 0
   rw [Nat.add_zero, Nat.add_zero] at e0
   exact ⟨by rw [e0]; exact ih.1, by rw [e 1]; exact ih.2.1, by rw [e 2]; exact ih.2.2⟩
theorem flat3_set : ∀ (T : List Tri) (rest : List Value) (j : Nat) (hj : j < T.length) (t : Tri), (((q2X T ++ rest).set (j * 3) (.int .i64 t.1)).set (j * 3 + 1) (.string t.2.1)).set (j * 3 + 2) t.2.2 = q2X (T.set j t) ++ rest
 | [], rest, j, hj, t => by cases hj
 | x :: T, rest, 0, hj, t => rfl
 | x :: T, rest, j + 1, hj, t => by
   have ih := flat3_set T rest j (by simpa using hj) t
   rw [List.set_cons_succ, q2X, q2X, List.append_assoc, List.append_assoc, ← ih]
   have e : ∀ (A : List Value) (r : Nat) (u : Value), (tri3 x ++ A).set ((j + 1) * 3 + r) u = tri3 x ++ A.set (j * 3 + r) u := fun A r u => by
    rw [List.set_append_right _ _ (by simp [tri3]; omega)]
    congr 2
    simp [tri3]; omega
   have e0 := e (q2X T ++ rest) 0 (.int .i64 t.1)
   rw [Nat.add_zero, Nat.add_zero] at e0
   rw [e0, e, e, Nat.add_zero]
theorem qHj {w : World} {P : Nat → Prop} : ∀ {l : List Snp} {xs : List Value}, q5j rSnp w P xs l → ∃ T : List Tri, xs = q2X T ∧ T.length = l.length ∧ ∀ (j : Nat) (h1 : j < T.length) (h2 : j < l.length), T[j].1 = l[j].1 ∧ T[j].2.1 = l[j].2.1 ∧ rSectors.rd w P [T[j].2.2] l[j].2.2 ∧ (-9223372036854775808 ≤ l[j].1 ∧ l[j].1 ≤ 9223372036854775807) ∧ l[j].2.1.size ≤ maxLen
 | [], xs, h => ⟨[], h, rfl, fun j h1 _ => by cases h1⟩
 | x :: l, _, ⟨c, r, e, h1, h2⟩ => by
   obtain ⟨T, g1, g2, g3⟩ := qHj h2
   obtain ⟨c0, c1, rfl, ⟨rfl, k1⟩, d0, d1, rfl, ⟨rfl, k2⟩, k3⟩ := h1
   have k3' := k3
   obtain ⟨a, m, d, rfl, -⟩ := k3
   refine ⟨(x.1, x.2.1, .slice a m d) :: T, by rw [e, g1]; rfl, by rw [List.length_cons, List.length_cons, g2], fun j h1 h2 => ?_⟩
   match j, h1, h2 with
   | 0, h1, h2 => exact ⟨rfl, rfl, k3', k1, k2⟩
   | j + 1, h1, h2 => exact g3 j (by simpa using h1) (by simpa using h2)
theorem snps_of {w : World} {P : Nat → Prop} {gb q cap : Nat} {T : List Tri} {rest : List Value} {l : List Snp} (h : Row w gb 66 (q2X T ++ rest)) (hP : P gb) (hl : T.length = l.length) (hq : l.length = q) (hc : q ≤ cap) (h8 : q ≤ 8)
 (he : ∀ (j : Nat) (h1 : j < T.length) (h2 : j < l.length), T[j].1 = l[j].1 ∧ T[j].2.1 = l[j].2.1 ∧ rSectors.rd w P [T[j].2.2] l[j].2.2 ∧ (-9223372036854775808 ≤ l[j].1 ∧ l[j].1 ≤ 9223372036854775807) ∧ l[j].2.1.size ≤ maxLen) : rSnps.rd w P [.slice (some ⟨gb, 0, none⟩) q cap] l := by
 refine ⟨_, _, _, rfl, hq, hc, (fun e => by cases e), by show q * 48 ≤ _; omega, fun x hx j hj => ?_⟩
 simp only [Option.some.injEq] at hx
 subst hx
 have hj' : j < T.length := by omega
 obtain ⟨e1, e2, e3, e4, e5⟩ := he j hj' hj
 obtain ⟨f1, f2, f3⟩ := qEq T rest j hj'
 refine ⟨hP, _, q4j e4 e5 e3, fun r u hu => ?_⟩
 rw [Addr.add_lit, Nat.zero_add, show rSnp.size = 3 from rfl]
 match r, hu with
 | 0, hu => simp only [List.getElem?_cons_zero, Option.some.injEq] at hu; subst hu; rw [Nat.add_zero]; have := h.cell f1; rw [e1] at this; exact this
 | 1, hu => simp only [List.getElem?_cons_succ, List.getElem?_cons_zero, Option.some.injEq] at hu; subst hu; have := h.cell f2; rw [e2] at this; exact this
 | 2, hu => simp only [List.getElem?_cons_succ, List.getElem?_cons_zero, Option.some.injEq] at hu; subst hu; exact h.cell f3
def q5X (T : List Tri) (p q : Nat) : List Tri := (T.eraseIdx p).take q ++ T.drop q
theorem moved_len {T : List Tri} {p q : Nat} (hp : p < T.length) (hq : q < T.length) : (q5X T p q).length = T.length := by
 unfold q5X
 rw [List.length_append, List.length_take, List.length_drop, List.length_eraseIdx_of_lt hp]; omega
theorem moved_start {T : List Tri} {p : Nat} (hp : p < T.length) : q5X T p p = T := by
 unfold q5X
 rw [List.eraseIdx_eq_take_drop_succ, List.take_append_of_le_length (by rw [List.length_take]; omega), List.take_of_length_le (by rw [List.length_take]; omega), List.take_append_drop]
theorem moved_at {T : List Tri} {p q : Nat} (hp : p < T.length) (hq : q + 1 < T.length) (h : q + 1 < (q5X T p q).length) : (q5X T p q)[q + 1] = T[q + 1] := by
 have e : (q5X T p q)[q + 1]? = T[q + 1]? := by
  unfold q5X
  have h1 : ((T.eraseIdx p).take q).length = q := by rw [List.length_take, List.length_eraseIdx_of_lt hp]; omega
  rw [List.getElem?_append_right (by omega), h1, List.getElem?_drop]
  congr 1
  omega
 rw [List.getElem?_eq_getElem h, List.getElem?_eq_getElem hq] at e
 exact Option.some.inj e
theorem moved_step {T : List Tri} {p q : Nat} (hp : p ≤ q) (hq : q + 1 < T.length) : (q5X T p q).set q T[q + 1] = q5X T p (q + 1) := by
 have h1 : ((T.eraseIdx p).take q).length = q := by rw [List.length_take, List.length_eraseIdx_of_lt (by omega)]; omega
 unfold q5X
 rw [List.set_append_right _ _ (by omega), h1, Nat.sub_self, List.drop_eq_getElem_cons (by omega), List.set_cons_zero]
 have h2 : q < (T.eraseIdx p).length := by rw [List.length_eraseIdx_of_lt (by omega)]; omega
 rw [List.take_succ_eq_append_getElem h2, List.append_assoc]
 congr 1
 rw [List.getElem_eraseIdx, dif_neg (by omega)]
 rfl
theorem moved_end {T : List Tri} {p q : Nat} (hp : p < T.length) (hq : q + 1 = T.length) : q5X T p q = T.eraseIdx p ++ T.drop q := by
 unfold q5X
 rw [List.take_of_length_le (by rw [List.length_eraseIdx_of_lt hp]; omega)]
theorem clear_run3 {Pr : Program} (w : World) (dT ty : TypeId) (e : TypeId) (hu : Pr.underlying dT = some (.slice e)) (z : Value) (hv : ∀ w, (zeroValue e).run Pr w = .ok z w) (hz : z.cells.size = 3) (h1 : ∀ v ∈ z.cells, v.oneCell' = true)
 (dp : Option Addr) (n cap : Nat) (g off : Nat) (cur : List Value) (t : TypeId) (hg : Row w g t cur) (hpos : 0 < n → dp = some ⟨g, off, none⟩) (hfit : off + n * 3 ≤ cur.length) :
 ∃ w' zs, zs.length = n * 3 ∧ (Builtin.clear_ #[dT] ty #[.slice dp n cap]).run Pr w = .ok (.tuple #[]) w' ∧ Row w' g t (splice cur off zs) ∧ Kept (· ≠ g) w w' ∧ w'.heap.size = w.heap.size := by
 by_cases h0 : n = 0
 · subst h0
   refine ⟨w, [], rfl, ?_, ?_, Kept.refl _ _, rfl⟩
   · cases dp <;> simp [Builtin.clear_, run_underlying hu]
   · rw [show splice cur off [] = cur from by simp [splice]]; exact hg
 · obtain rfl := hpos (by omega)
   obtain ⟨zs, hzs⟩ : ∃ zs, zs = (Builtin.zeroCells z.cells n).toList := ⟨_, rfl⟩
   have hzl : zs.length = n * 3 := by rw [hzs, Array.length_toList, size_zeroCells, hz]
   have hst := run_storeCells_at Pr g off t zs 0 cur.toArray w hg.eq (by simpa [hzl] using hfit) (by
    intro v hv'
    rw [hzs] at hv'
    simp only [Builtin.zeroCells, Array.toList_map, List.mem_map] at hv'
    obtain ⟨i, hi, rfl⟩ := hv'
    have hlt : i % z.cells.size < z.cells.size := Nat.mod_lt _ (by omega)
    refine h1 _ ?_
    rw [getElem!_pos z.cells _ hlt]
    exact Array.getElem_mem hlt)
   simp only [Nat.add_zero] at hst
   refine ⟨w.setRow g (splice cur off zs).toArray, zs, hzl, ?_, ⟨setRow_heap w g _ _ t _ hg.eq⟩, ⟨rfl, rfl, rfl, by simp, fun k hk => setRow_other w g k _ hk⟩, by simp⟩
   obtain ⟨m, rfl⟩ : ∃ m, n = m + 1 := ⟨n - 1, by omega⟩
   simp [Builtin.clear_, run_underlying hu, hv, ← hzs, hst, splice]
theorem setThree {w : World} {b : Nat} {t : TypeId} {T : List Tri} {rest : List Value} (V : Row w b t (q2X T ++ rest)) {j : Nat} (hj : j < T.length) (x : Tri) :
 ∃ w', ((w.setCell ⟨b, j * 3, none⟩ (.int .i64 x.1)).setCell ⟨b, j * 3 + 1, none⟩ (.string x.2.1)).setCell ⟨b, j * 3 + 2, none⟩ x.2.2 = w' ∧ Row w' b t (q2X (T.set j x) ++ rest) ∧ Kept (· ≠ b) w w' :=
 ⟨_, rfl, by rw [← flat3_set T rest j hj x]; exact ((V.set _ _).set _ _).set _ _, (((Kept.refl _ w).setCell (p := ⟨b, j * 3, none⟩) (fun h => h rfl) _).setCell (p := ⟨b, j * 3 + 1, none⟩) (fun h => h rfl) _).setCell (p := ⟨b, j * 3 + 2, none⟩) (fun h => h rfl) _⟩
theorem splice_mid {A D rest zs : List Value} {k : Nat} (h1 : A.length = k) (h2 : D.length = zs.length) : splice (A ++ D ++ rest) k zs = A ++ (zs ++ rest) := by
 have h : (A ++ (D ++ rest)).drop (k + zs.length) = rest := by
  rw [← List.append_assoc, List.drop_append_of_le_length (by rw [List.length_append]; omega), List.drop_of_length_le (by rw [List.length_append]; omega), List.nil_append]
 unfold splice
 rw [List.append_assoc, h, List.take_append_of_le_length (by omega), List.take_of_length_le (by omega)]
end Go.Proofs.Ytoophkmnppoppaa
