/-
  What is kept is what the document says; each root has what it had. Conditions: none.
-/
import Derived.Test.YtkbmadoaomoojaaGreatK10
import Derived.Test.YtkbmadoaomoojaaGreatK37
import Derived.Test.YtkbmadoaomoojaaGreatK41
import Derived.Test.YtkbmadoaomoojaaGreatK42
import Derived.Test.YtkbmadoaomoojaaGreatK43
import Derived.Test.YtkbmadoaomoojaaGreatK45
import Derived.Test.YtkbmadoaomoojaaGreatK46
namespace Go.Proofs.YtkbmadoaomoojaaGreat
set_option maxRecDepth 20000
open Go.ChangeShapes Go.WideShapes Go.ChangeAt Go.RowKit
set_option linter.unusedVariables false
namespace Tr
theorem rangeE_pos (s : Pgs) (root : Int) : rangeE s root 1048576 = readE s root := by
 unfold rangeE
 by_cases h : readE s root = 0
 · rw [if_pos h, h]; rfl
 · rw [if_neg h]
theorem rangeL_all {s : Pgs} {root : Int} (h : readE s root = 0) : rangeL s root 0 1048576 = readI s root := by
 unfold rangeL rangeOf
 rw [if_pos ⟨h, by decide⟩, show (readI s root).filter (fun x => decide (UInt64.toNat 0 ≤ x.1.toNat)) = readI s root from List.filter_eq_self.2 (fun x _ => decide_eq_true (by show (0 : UInt64).toNat ≤ _; exact Nat.zero_le _)), List.take_of_length_le (Nat.le_trans (readI_few s root) (by decide))]
end Tr
set_option maxRecDepth 20000 in
set_option maxHeartbeats 8000000 in
theorem tkeeps_walk (cs : List Value) (s : Pgs) (ra : Option Addr) (rn rc : Nat) (roots : List Int) (W : World) (h0 : rSectors.rd W (fun b => b < W.heap.size) cs s) (h1 : rKids.rd W (fun b => b < W.heap.size) [.slice ra rn rc] roots) :
 Calls Tryz.prog 3 #[.agg cs.toArray, .slice ra rn rc] W fun e W' => e = .returned (.bool true) ∧ Below W.heap.size W W' := by
 obtain ⟨a, n, c, rfl, hn, hn5⟩ := rPages_rd h0
 have hns : n = s.length := hn.symm
 subst hns
 have HN5 : Hid (s.length ≤ 5864062014634) := hn5
 have HRn : Hid (roots.length = rn) := (rL_len8 h1).1
 have HRb : Hid (rn * 8 ≤ 140737488351232) := (rL_len8 h1).2.2.2
 rw [show ([.slice a s.length c] : List Value).toArray = #[.slice a s.length c] from rfl]
 obtain ⟨w1, hw1, V1, b1, z1⟩ := boxedRow W 24 [.slice a s.length c]
 have Rs_1 : Hid _ := V1
 have B_1 : Hid _ := b1
 have Ss_1 : Hid (rSectors.rd w1 (fun b => b < W.heap.size) [.slice a s.length c] (s)) := Rep.below h0 B_1.out
 have Kr_1 : Hid (rKids.rd w1 (fun b => b < W.heap.size) [.slice ra rn rc] (roots)) := Rep.below h1 B_1.out
 clear V1 b1 z1 h0 h1 hn hn5
 go_enter Tryz.func3, Tryz.ntmps3
 have qs0 := Rs_1.out.cell (j := 0) rfl
 go_wp2_with fail
 go_at_call 6
 refine Calls.mono (of8_u _ _ s a s.length c Ss_1.out) ?_
 rintro e w2 ⟨ao, co, rfl, h2, b2⟩
 have So_2 : Hid _ := h2
 have Rs_2 : Hid _ := Rs_1.out.below (b2)
 have Ss_2 : Hid _ := Rep.below Ss_1.out (b2)
 have Kr_2 : Hid _ := Rep.below Kr_1.out (b2)
 have B_2 : Hid _ := on B_1.out (b2)
 clear qs0
 clear Rs_1 Ss_1 Kr_1
 clear h2 b2
 obtain ⟨w3, hw3, V3, b3, z3⟩ := boxedRow w2 26 [.slice ao s.length co]
 have Ro_3 : Hid _ := V3
 have Rs_3 : Hid _ := Rs_2.out.below (b3)
 have Ss_3 : Hid _ := Rep.below Ss_2.out (b3)
 have Kr_3 : Hid _ := Rep.below Kr_2.out (b3)
 have So_3 : Hid _ := Rep.below So_2.out (b3)
 have B_3 : Hid _ := on B_2.out (b3)
 clear Rs_2 Ss_2 Kr_2 So_2
 clear V3 b3 z3
 have qo0 := Ro_3.out.cell (j := 0) rfl
 go_wp2_with fail
 go_at_call 7
 refine Calls.mono (tkeep_u _ _ _ s roots _ _ ra rn rc So_3.out Kr_3.out) ?_
 rintro e w4 ⟨at9, nt, ct, rfl, h4, b4⟩
 have St_4 : Hid _ := h4
 have Rs_4 : Hid _ := Rs_3.out.below (b4)
 have Ss_4 : Hid _ := Rep.below Ss_3.out (b4)
 have Kr_4 : Hid _ := Rep.below Kr_3.out (b4)
 have So_4 : Hid _ := Rep.below So_3.out (b4)
 have Ro_4 : Hid _ := Ro_3.out.below (b4)
 have B_4 : Hid _ := on B_3.out (b4)
 clear qo0
 clear Rs_3 Ss_3 Kr_3 So_3 Ro_3
 clear h4 b4
 obtain ⟨w5, hw5, V5, b5, z5⟩ := boxedRow w4 26 [.slice at9 nt ct]
 have Rt_5 : Hid _ := V5
 have Rs_5 : Hid _ := Rs_4.out.below (b5)
 have Ss_5 : Hid _ := Rep.below Ss_4.out (b5)
 have Kr_5 : Hid _ := Rep.below Kr_4.out (b5)
 have So_5 : Hid _ := Rep.below So_4.out (b5)
 have Ro_5 : Hid _ := Ro_4.out.below (b5)
 have St_5 : Hid _ := Rep.below St_4.out (b5)
 have B_5 : Hid _ := on B_4.out (b5)
 clear Rs_4 Ss_4 Kr_4 So_4 Ro_4 St_4
 clear V5 b5 z5
 have qs0 := Rs_5.out.cell (j := 0) rfl
 go_wp2_with fail
 go_at_call 8
 refine Calls.mono (dkeep_u _ _ _ s roots _ _ ra rn rc Ss_5.out Kr_5.out) ?_
 rintro e w6 ⟨au, nu, cu, rfl, h6, b6⟩
 rw [← (Tr.keep_one s roots).2] at h6
 rw [← (Tr.keep_one s roots).1]
 have Su_6 : Hid _ := h6
 have Rs_6 : Hid _ := Rs_5.out.below (b6)
 have Ss_6 : Hid _ := Rep.below Ss_5.out (b6)
 have Kr_6 : Hid _ := Rep.below Kr_5.out (b6)
 have So_6 : Hid _ := Rep.below So_5.out (b6)
 have Ro_6 : Hid _ := Ro_5.out.below (b6)
 have St_6 : Hid _ := Rep.below St_5.out (b6)
 have Rt_6 : Hid _ := Rt_5.out.below (b6)
 have B_6 : Hid _ := on B_5.out (b6)
 clear qs0
 clear Rs_5 Ss_5 Kr_5 So_5 Ro_5 St_5 Rt_5
 clear h6 b6
 obtain ⟨w7, hw7, V7, b7, z7⟩ := boxedRow w6 24 [.slice au nu cu]
 have Ru_7 : Hid _ := V7
 have Rs_7 : Hid _ := Rs_6.out.below (b7)
 have Ss_7 : Hid _ := Rep.below Ss_6.out (b7)
 have Kr_7 : Hid _ := Rep.below Kr_6.out (b7)
 have So_7 : Hid _ := Rep.below So_6.out (b7)
 have Ro_7 : Hid _ := Ro_6.out.below (b7)
 have St_7 : Hid _ := Rep.below St_6.out (b7)
 have Rt_7 : Hid _ := Rt_6.out.below (b7)
 have Su_7 : Hid _ := Rep.below Su_6.out (b7)
 have B_7 : Hid _ := on B_6.out (b7)
 clear Rs_6 Ss_6 Kr_6 So_6 Ro_6 St_6 Rt_6 Su_6
 clear V7 b7 z7
 obtain ⟨E, hE⟩ : ∃ z, z = Tr.keepE s roots := ⟨_, rfl⟩
 rw [← hE]
 have HE : Hid _ := hE
 clear hE
 go_wp2_with fail
 go_at_call 9
 refine Calls.mono (alive8_u _) ?_
 rintro e w8 ⟨rfl, b8⟩
 have Rs_8 : Hid _ := Rs_7.out.below (b8)
 have Ss_8 : Hid _ := Rep.below Ss_7.out (b8)
 have Kr_8 : Hid _ := Rep.below Kr_7.out (b8)
 have So_8 : Hid _ := Rep.below So_7.out (b8)
 have Ro_8 : Hid _ := Ro_7.out.below (b8)
 have St_8 : Hid _ := Rep.below St_7.out (b8)
 have Rt_8 : Hid _ := Rt_7.out.below (b8)
 have Su_8 : Hid _ := Rep.below Su_7.out (b8)
 have Ru_8 : Hid _ := Ru_7.out.below (b8)
 have B_8 : Hid _ := on B_7.out (b8)
 clear Rs_7 Ss_7 Kr_7 So_7 Ro_7 St_7 Rt_7 Su_7 Ru_7
 clear b8
 have eE : (E != E) = false := bne_self_eq_false _
 have qt0 := Rt_8.out.cell (j := 0) rfl
 have qu0 := Ru_8.out.cell (j := 0) rfl
 go_wp2_with (go_at_call 10; refine (num8_u _ _).mono ?_; rintro e w99 ⟨rfl, rfl⟩)
 go_at_call 11
 refine Calls.mono (sameList_r _ _ _ _ _ _ _ _ _ _ _ St_8.out Su_8.out) ?_
 rintro e w9 ⟨rfl, b9⟩
 have Rs_9 : Hid _ := Rs_8.out.below (b9)
 have Ss_9 : Hid _ := Rep.below Ss_8.out (b9)
 have Kr_9 : Hid _ := Rep.below Kr_8.out (b9)
 have So_9 : Hid _ := Rep.below So_8.out (b9)
 have Ro_9 : Hid _ := Ro_8.out.below (b9)
 have St_9 : Hid _ := Rep.below St_8.out (b9)
 have Rt_9 : Hid _ := Rt_8.out.below (b9)
 have Su_9 : Hid _ := Rep.below Su_8.out (b9)
 have Ru_9 : Hid _ := Ru_8.out.below (b9)
 have B_9 : Hid _ := on B_8.out (b9)
 clear qt0 qu0
 clear Rs_8 Ss_8 Kr_8 So_8 Ro_8 St_8 Rt_8 Su_8 Ru_8
 clear b9
 rw [show (Tr.keepS s roots == Tr.keepS s roots) = true from beq_self_eq_true _]
 clear Su_9 Ru_9
 have qo0 := Ro_9.out.cell (j := 0) rfl
 have qs0 := Rs_9.out.cell (j := 0) rfl
 go_wp2_with (go_at_call 10; refine (num8_u _ _).mono ?_; rintro e w99 ⟨rfl, rfl⟩)
 go_at_call 11
 refine Calls.mono (sameList_r _ _ _ _ _ _ _ _ _ _ _ So_9.out Ss_9.out) ?_
 rintro e w10 ⟨rfl, b10⟩
 have Rs_10 : Hid _ := Rs_9.out.below (b10)
 have Ss_10 : Hid _ := Rep.below Ss_9.out (b10)
 have Kr_10 : Hid _ := Rep.below Kr_9.out (b10)
 have So_10 : Hid _ := Rep.below So_9.out (b10)
 have Ro_10 : Hid _ := Ro_9.out.below (b10)
 have St_10 : Hid _ := Rep.below St_9.out (b10)
 have Rt_10 : Hid _ := Rt_9.out.below (b10)
 have B_10 : Hid _ := on B_9.out (b10)
 clear qo0 qs0
 clear Rs_9 Ss_9 Kr_9 So_9 Ro_9 St_9 Rt_9
 clear b10 eE
 rw [show (s == s) = true from beq_self_eq_true _]
 clear Ss_10 Rs_10
 have HNt : Hid ((Tr.keepS s roots).length = nt) := (rL_len8 St_10.out).1
 obtain rfl : nt = (Tr.keepS s roots).length := HNt.out.symm
 go_wp2_with fail
 go_loopw [10] (fun iv wr => ∃ i : Nat, i ≤ rn ∧ iv = .int .i64 i ∧ Hid (Below w10.heap.size w10 wr)) (fun iv _ => rn - (intOf iv).toNat)
 case atStart => exact ⟨0, Nat.zero_le _, rfl, Below.refl _ _⟩
 case round =>
  obtain ⟨i, hi, rfl, BR⟩ := hrel
  obtain ⟨w11, hw11⟩ : ∃ v, v = wr := ⟨_, rfl⟩
  subst hw11
  have BL_11 : Hid _ := BR
  have Kr_11 : Hid _ := Rep.below Kr_10.out (BR.out)
  have So_11 : Hid _ := Rep.below So_10.out (BR.out)
  have Ro_11 : Hid _ := Ro_10.out.below (BR.out)
  have St_11 : Hid _ := Rep.below St_10.out (BR.out)
  have Rt_11 : Hid _ := Rt_10.out.below (BR.out)
  have B_11 : Hid _ := on B_10.out (BR.out)
  clear Kr_10 So_10 Ro_10 St_10 Rt_10
  clear BR
  have hrn8 : rn * 8 ≤ 140737488351232 := HRb.out
  by_cases hin : i < rn
  rotate_left
  · have hiz : ¬ (i : Int) < (rn : Int) := by omega
    go_wp2_with fail
    go_ret
    exact ⟨rfl, B_11.out⟩
  have hiz : (i : Int) < (rn : Int) := by omega
  by_cases hE0 : E = 0
  rotate_left
  · have hEb : (E == 0) = false := beq_eq_false_iff_ne.2 hE0
    go_wp2_with fail
    go_ret
    exact ⟨rfl, B_11.out⟩
  obtain rfl := hE0
  have hir : i < roots.length := by rw [HRn.out]; exact hin
  obtain ⟨rb, roff, rfl, -, -, hat⟩ := rKids_at Kr_11.out (by omega)
  obtain ⟨hc, hr0, hr1⟩ := hat i hir
  obtain ⟨r, hr⟩ : ∃ r, r = roots[i] := ⟨_, rfl⟩
  rw [← hr] at hc hr0 hr1
  have HI : Hid (-9223372036854775808 ≤ r ∧ r ≤ 9223372036854775807) := ⟨hr0, hr1⟩
  have HRD := Tr.keep_reads (s := s) (roots := roots) HE.out.symm (r := r) (by rw [hr]; exact List.getElem_mem hir)
  have HZ1 : Hid _ := HRD.1
  have HZ2 : Hid _ := HRD.2.1
  have HZ3 : Hid _ := HRD.2.2
  clear hat hr HRD
  have HSee11 : Hid (∀ w', Below w11.heap.size w11 w' → w'.cell? ⟨w2.heap.size, 0, none⟩ = some (.slice ao s.length co) ∧ w'.cell? ⟨rb, roff + i, none⟩ = some (.int .i64 r)) := fun w' hb => ⟨(Ro_11.out.below hb).cell (j := 0) rfl, Kept.cell (Kept.below hb) (p := ⟨rb, roff + i, none⟩) (World.block_lt_of_cell? w11 _ hc) hc⟩
  have S0 := HSee11.out _ (Below.refl _ w11).drew
  go_wp2_with fail
  refine wp_region_held_drew (S := (fun w' : World => w'.cell? ⟨w2.heap.size, 0, none⟩ = some (.slice ao s.length co) ∧ w'.cell? ⟨rb, roff + i, none⟩ = some (.int .i64 r))) (by kernel_rfl) (S0) (fun hH => ?_)
  refine tkM 0 _ rfl rfl ?_; simp only [sz, ss]
  refine tkM 1 _ rfl rfl ?_; simp only [sz, ss]
  refine tkM 2 _ rfl rfl ?_; simp only [sz, ss]
  refine tkM 3 _ rfl rfl ?_; simp only [sz, ss]
  refine tkM 4 _ rfl rfl ?_; simp only [sz, ss]
  refine r1L 5 rfl fun K hK => ?_
  · go_simp
    go_at_call 12
    refine Calls.mono (trange_u w11.drew _ s r 0 1048576 _ _ (rSectors.keep So_11.out (fun _ _ _ => rfl)) HI.out.1 HI.out.2 (by decide) (by decide)) ?_
    rw [show Tr.rangeE s r 1048576 = Tr.readE s r from Tr.rangeE_pos _ _]
    rintro e vx ⟨ax, nx, cx, rfl, hx, bx⟩
    have BQx : Hid (Below w11.heap.size w11 vx) := (Below.refl _ w11).drew.trans bx
    have HPx : Hid _ := hx
    have S5 := HSee11.out _ BQx.out
    clear bx hx
    go_simp
    refine hK.out _ _ ?_ (fun hH => ?_)
    · try dsimp only
      exact S5
    clear hK K
    refine tkM 6 _ rfl rfl ?_; simp only [sz, ss]
    refine tkM 7 _ rfl rfl ?_; simp only [sz, ss]
    refine tkM 8 _ rfl rfl ?_; simp only [sz, ss]
    refine tkM 9 _ rfl rfl ?_; simp only [sz, ss]
    refine tkM 10 _ rfl rfl ?_; simp only [sz, ss]
    refine wpAnyH_done (by kernel_rfl) ?_ _
    clear hH
    have hc2 := S5.2
    clear S5 S0 HSee11 hc
    have hc := hc2
    clear hc2
    obtain ⟨w12, hw12⟩ : ∃ v, v = vx := ⟨_, rfl⟩
    subst hw12
    have BL_12 : Hid _ := on BL_11.out BQx.out
    clear BL_11
    have Kr_12 : Hid _ := Rep.below Kr_11.out (BQx.out)
    have So_12 : Hid _ := Rep.below So_11.out (BQx.out)
    have Ro_12 : Hid _ := Ro_11.out.below (BQx.out)
    have St_12 : Hid _ := Rep.below St_11.out (BQx.out)
    have Rt_12 : Hid _ := Rt_11.out.below (BQx.out)
    have B_12 : Hid _ := on B_11.out (BQx.out)
    clear Kr_11 So_11 Ro_11 St_11 Rt_11
    have Px_12 : Hid _ := HPx
    clear HPx BQx
    have HSee12 : Hid (∀ w', Below w12.heap.size w12 w' → w'.cell? ⟨w4.heap.size, 0, none⟩ = some (.slice at9 (Tr.keepS s roots).length ct) ∧ w'.cell? ⟨rb, roff + i, none⟩ = some (.int .i64 r)) := fun w' hb => ⟨(Rt_12.out.below hb).cell (j := 0) rfl, Kept.cell (Kept.below hb) (p := ⟨rb, roff + i, none⟩) (World.block_lt_of_cell? w12 _ hc) hc⟩
    have S0 := HSee12.out _ (Below.refl _ w12).drew
    go_wp2_with fail
    refine wp_region_held_drew (S := (fun w' : World => w'.cell? ⟨w4.heap.size, 0, none⟩ = some (.slice at9 (Tr.keepS s roots).length ct) ∧ w'.cell? ⟨rb, roff + i, none⟩ = some (.int .i64 r))) (by kernel_rfl) (S0) (fun hH => ?_)
    refine tkM 0 _ rfl rfl ?_; simp only [sz, ss]
    refine tkM 1 _ rfl rfl ?_; simp only [sz, ss]
    refine tkM 2 _ rfl rfl ?_; simp only [sz, ss]
    refine tkM 3 _ rfl rfl ?_; simp only [sz, ss]
    refine tkM 4 _ rfl rfl ?_; simp only [sz, ss]
    refine r1L 5 rfl fun K hK => ?_
    · go_simp
      go_at_call 12
      refine Calls.mono (trange_u w12.drew _ (Tr.keepS s roots) r 0 1048576 _ _ (rSectors.keep St_12.out (fun _ _ _ => rfl)) HI.out.1 HI.out.2 (by decide) (by decide)) ?_
      rw [show Tr.rangeE (Tr.keepS s roots) r 1048576 = Tr.readE (Tr.keepS s roots) r from Tr.rangeE_pos _ _]
      rintro e vz ⟨az, nz, cz, rfl, hz, bz⟩
      have BQz : Hid (Below w12.heap.size w12 vz) := (Below.refl _ w12).drew.trans bz
      have HPz : Hid _ := hz
      have S5 := HSee12.out _ BQz.out
      clear bz hz
      go_simp
      refine hK.out _ _ ?_ (fun hH => ?_)
      · try dsimp only
        exact S5
      clear hK K
      refine tkM 6 _ rfl rfl ?_; simp only [sz, ss]
      refine tkM 7 _ rfl rfl ?_; simp only [sz, ss]
      refine tkM 8 _ rfl rfl ?_; simp only [sz, ss]
      refine tkM 9 _ rfl rfl ?_; simp only [sz, ss]
      refine tkM 10 _ rfl rfl ?_; simp only [sz, ss]
      refine wpAnyH_done (by kernel_rfl) ?_ _
      clear hH
      have hc2 := S5.2
      clear S5 S0 HSee12 hc
      have hc := hc2
      clear hc2
      obtain ⟨w13, hw13⟩ : ∃ v, v = vz := ⟨_, rfl⟩
      subst hw13
      have BL_13 : Hid _ := on BL_12.out BQz.out
      clear BL_12
      have Kr_13 : Hid _ := Rep.below Kr_12.out (BQz.out)
      have So_13 : Hid _ := Rep.below So_12.out (BQz.out)
      have Ro_13 : Hid _ := Ro_12.out.below (BQz.out)
      have St_13 : Hid _ := Rep.below St_12.out (BQz.out)
      have Rt_13 : Hid _ := Rt_12.out.below (BQz.out)
      have Px_13 : Hid _ := Px_12.out.below (BQz.out)
      have B_13 : Hid _ := on B_12.out (BQz.out)
      clear Kr_12 So_12 Ro_12 St_12 Rt_12 Px_12
      have Pz_13 : Hid _ := HPz
      clear HPz BQz
      rw [HZ1.out, HZ2.out]
      have HX : Hid (Tr.rangeL s r 0 1048576 = Tr.readI s r) := Tr.rangeL_all HZ1.out
      have HY : Hid (Tr.rangeL (Tr.keepS s roots) r 0 1048576 = Tr.readI s r) := (Tr.rangeL_all HZ2.out).trans HZ3.out
      have HF : Hid ((Tr.readI s r).length ≤ 6144) := Tr.readI_few s r
      go_wp2_with (go_at_call 10; refine (num8_u _ _).mono ?_; rintro e w99 ⟨rfl, rfl⟩)
      go_at_call 13
      refine Calls.mono (sameItms_u _ _ _ _ _ _ _ _ _ _ _ (Px_13.out.rd (by rw [HX.out]; have := HF.out; omega)) (Pz_13.out.rd (by rw [HY.out]; have := HF.out; omega))) ?_
      rintro e w14 ⟨rfl, b14⟩
      have BL_14 : Hid _ := on BL_13.out b14
      have Kr_14 : Hid _ := Rep.below Kr_13.out (b14)
      have So_14 : Hid _ := Rep.below So_13.out (b14)
      have Ro_14 : Hid _ := Ro_13.out.below (b14)
      have St_14 : Hid _ := Rep.below St_13.out (b14)
      have Rt_14 : Hid _ := Rt_13.out.below (b14)
      have Px_14 : Hid _ := Px_13.out.below (b14)
      have Pz_14 : Hid _ := Pz_13.out.below (b14)
      have B_14 : Hid _ := on B_13.out (b14)
      clear Kr_13 So_13 Ro_13 St_13 Rt_13 Px_13 Pz_13
      clear b14
      rw [show decide (Tr.rangeL s r 0 1048576 = Tr.rangeL (Tr.keepS s roots) r 0 1048576) = true from decide_eq_true (HX.out.trans HY.out.symm)]
      go_wp2
      go_roundw
      case rel => exact ⟨i + 1, by omega, by go_num, BL_14⟩
      case measure => simp [intOf]; omega
set_option maxRecDepth 100000 in
theorem tkeeps_lifted (os : Os) (started : os.Started) (H : Type) (enc : TypeId × Value → H) :
 ReturnsInHanded {} Tryz.checked os 3 .any (Rows.treeKeepsSpec.pre6 enc Tryz.prog Tryz.f3 Rows.treeKeepsRow.domain false) (Rows.treeKeepsSpec.post enc Tryz.prog Tryz.f3 false true false false) := by
 refine returnsInHanded_of_change_sized (C := Tryz.checked) own started (by kernel_rfl) Tryz.func3
  (ChangeSpec.witness6 (enc := enc) (C := Tryz.checked) false ⟨#[], #[.agg #[.slice none 0 0], .slice none 0 0], []⟩ 8 (by kernel_rfl) (by kernel_rfl) (by kernel_rfl) (by kernel_rfl)) ?_
 intro W base args ds gs before hval0 hW _ hsz0 _
 have hsz : (DataW.weightsEach Tryz.prog (Tryz.f3.params.toList ++ Rows.treeKeepsSpec.plain.varTypes Tryz.prog) (ds ++ gs)).all (· ≤ reachBytes) = true := hsz0
 clear hsz0
 have hval : ∀ (j : Nat) t v, Tryz.f3.params[j]? = some t → args[j]? = some v → Value.okWide Tryz.prog W .any base t v := hval0
 have hW' := hW
 obtain ⟨p, q, hA0, hV, rfl, hfz, hnd⟩ := hW
 have hA : DataW.TrodAll enc Tryz.prog W 0 (fun _ => true) true Tryz.f3.params.toList args.toList ds p := hA0
 rw [Tryz.params3] at hA hval hsz
 obtain ⟨v0, vs0, d0, ds0, p0, q0, hargs, rfl, rfl, h0, r0⟩ := trodAll_cons hA
 obtain ⟨v1, vs1, d1, ds1, p1, q1, rfl, rfl, rfl, h1, r1⟩ := trodAll_cons r0
 obtain ⟨rfl, rfl, rfl⟩ := trodAll_nil r1
 obtain rfl : args = #[v0, v1] := by cases args; simp_all
 obtain ⟨rfl, rfl⟩ := trodVars_none hV
 obtain ⟨c0, rfl, -⟩ := okWide_struct Tryz.underlying24 (hval 0 24 v0 rfl rfl)
 have k0 := h0
 have lt0 : ∀ x ∈ p0, x.block < W.heap.size := by obtain ⟨m, hm⟩ := k0; exact DataW.trod_lt m _ _ _ hm
 obtain ⟨x0, hx0⟩ := opens_pages.arg h0 hsz (j := 0) rfl rfl
 obtain ⟨a1, len1, cap1, rfl⟩ := okWide_slice Tryz.underlying25 (hval 1 25 v1 rfl rfl)
 have k1 := h1
 have lt1 : ∀ x ∈ p1, x.block < W.heap.size := by obtain ⟨m, hm⟩ := k1; exact DataW.trod_lt m _ _ _ hm
 obtain ⟨x1, hx1⟩ := opens_kids.arg h1 hsz (j := 1) rfl rfl
 clear hA0 hval0
 refine (tkeeps_walk c0.toList x0 a1 len1 cap1 x1 W hx0 hx1).mono fun e W' ⟨he, bel⟩ => ?_
 subst he
 exact ⟨_, rfl, _, _, _, [], _, [], hW', trodAll_mk1 (shut_bool Tryz.underlying4 _), (trodAll_cons_mk (Below.trod laidOut (by kernel_rfl) (of_decide_eq_true (by kernel_rfl)) k0 bel lt0) (trodAll_cons_mk (Below.trod laidOut (by kernel_rfl) (of_decide_eq_true (by kernel_rfl)) k1 bel lt1) trodAll_mk0)), rfl, bel.frame _, fun h => by cases h⟩
theorem treeKeeps_holds : Rows.TreeKeepsSaid :=
 OpenClaim.holds_of_wide 3 Tryz.f3 rfl rfl rfl rfl rfl rfl rfl ⟨rfl, rfl, rfl, rfl, rfl⟩ rfl rfl rfl rfl rfl (by kernel_rfl) Tryz.func3 (by kernel_rfl)
  (of_decide_eq_true (by kernel_rfl)) (by unfold Func.isWrapper; first | (rw [if_pos (by decide +kernel)]; kernel_rfl) | (rw [if_neg (by decide +kernel)]; exact ⟨rfl, rfl⟩))
  (fun os started H enc _ => tkeeps_lifted os started H enc)
end Go.Proofs.YtkbmadoaomoojaaGreat
