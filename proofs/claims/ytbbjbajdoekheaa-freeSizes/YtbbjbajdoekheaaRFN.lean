/-
  The document's own New and Without, at whatever size and spans. Conditions: those that each contract names.
-/
import Derived.Test.YtbbjbajdoekheaaRFT
import Derived.Test.YtbbjbajdoekheaaFWos
namespace Go.Proofs.Ytbbjbajdoekheaa
open Go.RowKit
set_option linter.unusedVariables false

theorem Fr.wo_new {z : Int} (h : Fr.sizeB z = true) : Fr.withoutE z [] = 0 ∧ Fr.withoutL z [] = Fr.newL z ∧ Fr.withoutZ z [] = z := by
  have hl : (Fr.leftOf (Fr.newL z) []).length ≤ 1024 := by
    show (Fr.newL z).length ≤ 1024
    unfold Fr.newL
    split <;> simp
  obtain ⟨t1, t2, t3⟩ := Fr.wo_said (u := []) h (by simp) (fun x hx => by cases hx)
  refine ⟨by rw [t1]; exact if_pos hl, by rw [t2]; exact if_pos hl, by rw [t3]; exact if_pos hl⟩

set_option maxRecDepth 20000 in
set_option maxHeartbeats 2000000 in
theorem refNew_u (w : World) (z : Int) :
    Calls Try.prog 31 #[.int .i64 z] w fun e w' => ∃ v, e = .returned (.tuple #[.agg #[.int .i64 (Fr.withoutZ z []), v], .int .i64 (Fr.withoutE z [])]) ∧ OwnS 26 w' w.heap.size v (Fr.withoutL z []) ∧ Below w.heap.size w w' := by
  obtain ⟨w0, hw0, V0, b0, z0⟩ := boxedRow w 24 [.int .i64 0, .slice none 0 0]
  have B0 : Hid (Below w.heap.size w w0) := b0
  have HV0 : Hid (Row w0 w.heap.size 24 [.int .i64 0, .slice none 0 0]) := V0
  have HZ0 : Hid (w.heap.size < w0.heap.size) := V0.lt
  obtain ⟨r0, r1⟩ := V0.two
  have r2 := V0.frozen 0
  have r3 := V0.frozen 1
  clear V0 b0
  cases hs : Fr.sizeB z
  · obtain ⟨t1, t2, t3⟩ := Fr.wo_range (u := []) hs
    rw [t1, t2, t3]
    have hzz : ¬ (0 ≤ z ∧ z ≤ 65536) := fun h => by unfold Fr.sizeB at hs; simp [h] at hs
    clear t1 t2 t3 hs
    by_cases h1 : z < 0
    · clear hzz
      go_enter Try.func31, Try.ntmps31
      go_wp2
      refine st_ret HV0.out B0.out (Nat.le_refl _) _ _ _ rfl rfl rfl Try.underlying24 rfl (by kernel_rfl) ?_
      intro w' K' B'
      exact ⟨_, rfl, OwnS.nil _ _ _, B'⟩
    · have h2 : 65536 < z := by omega
      clear hzz
      go_enter Try.func31, Try.ntmps31
      go_wp2
      refine st_ret HV0.out B0.out (Nat.le_refl _) _ _ _ rfl rfl rfl Try.underlying24 rfl (by kernel_rfl) ?_
      intro w' K' B'
      exact ⟨_, rfl, OwnS.nil _ _ _, B'⟩
  · obtain ⟨t1, t2, t3⟩ := Fr.wo_new hs
    rw [t1, t2, t3]
    obtain ⟨hz0, hz1⟩ : 0 ≤ z ∧ z ≤ 65536 := by unfold Fr.sizeB at hs; simpa using hs
    clear t1 t2 t3 hs
    by_cases hzz : z = 0
    · subst hzz
      have HN : Hid (Fr.newL 0 = []) := rfl
      rw [HN.out]
      go_enter Try.func31, Try.ntmps31
      go_wp2
      refine st_ret HV0.out B0.out (Nat.le_refl _) _ _ _ rfl rfl rfl Try.underlying24 rfl (by kernel_rfl) ?_
      intro w' K' B'
      exact ⟨_, rfl, OwnS.nil _ _ _, B'⟩
    · have HN : Hid (Fr.newL z = [(0, z)]) := if_neg hzz
      have hzb : (z == 0) = false := beq_eq_false_iff_ne.2 hzz
      rw [HN.out]
      obtain ⟨w1, hw1, -, b1, -⟩ := boxedRow w0 26 [.int .i64 0, .int .i64 z]
      have HO1 : Hid (OwnS 26 w1 w0.heap.size (.slice (some ⟨w0.heap.size, 0, none⟩) 1 1) [(0, z)]) := by rw [← hw1]; exact OwnS.lit 26 w0 w0.heap.size (Nat.le_refl _) (0, z) (by unfold In2 In64; simp only; omega)
      have HV1 : Hid (Row w1 w.heap.size 24 [.int .i64 0, .slice none 0 0]) := HV0.out.below b1
      have B1 : Hid (Below w.heap.size w w1) := on B0.out b1
      clear b1
      rw [z0] at HO1
      clear r0 r1 r2 r3
      obtain ⟨r0, r1⟩ := HV1.out.two
      have r2 := HV1.out.frozen 0
      have r3 := HV1.out.frozen 1
      go_enter Try.func31, Try.ntmps31
      go_wp2
      refine st_ret HV1.out B1.out (Nat.le_refl _) _ _ _ rfl rfl rfl Try.underlying24 rfl (by kernel_rfl) ?_
      intro w' K' B'
      exact ⟨_, rfl, (HO1.out.keptR K' (by omega)).mono (by omega), B'⟩

set_option maxRecDepth 20000 in
set_option maxHeartbeats 4000000 in
theorem refWithout_u (w : World) (P : Nat → Prop) (z : Int) (a : Option Addr) (n c : Nat) (u : List Spn) (hL : rSpns.rd w P [.slice a n c] u) :
    Calls Try.prog 33 #[.int .i64 z, .slice a n c] w fun e w' => ∃ v, e = .returned (.tuple #[.agg #[.int .i64 (Fr.withoutZ z u), v], .int .i64 (Fr.withoutE z u)]) ∧ OwnS 26 w' w.heap.size v (Fr.withoutL z u) ∧ Below w.heap.size w w' := by
  have HR : Hid _ := hL
  have HN : Hid (u.length = n) := (rList_len hL).1
  have HIn : Hid _ := rSpns_in hL
  have hn0 : n ≤ 8796093022000 := by have : n * 16 ≤ 140737488351232 := (rList_len hL).2.2.2; omega
  obtain ⟨w0, hw0, V0, b0, z0⟩ := boxedRow w 24 [.int .i64 0, .slice none 0 0]
  have B0 : Hid (Below w.heap.size w w0) := b0
  have HV0 : Hid (Row w0 w.heap.size 24 [.int .i64 0, .slice none 0 0]) := V0
  clear V0 b0 hL
  cases hs : Fr.sizeB z
  · have HNE : Hid _ := Fr.wo_range (u := []) hs
    obtain ⟨t1, t2, t3⟩ := Fr.wo_range (u := u) hs
    rw [t1, t2, t3]
    clear t1 t2 t3 hs
    go_enter Try.func33, Try.ntmps33
    go_wp2_with fail
    refine (refNew_u _ z).mono ?_
    rintro e w1 ⟨v1, rfl, ho1, b1⟩
    rw [HNE.out.2.1] at ho1
    rw [HNE.out.1, HNE.out.2.2]
    obtain ⟨a1, c1, hv1, -, -⟩ := ho1.slice
    subst hv1
    have HB01 : Hid (Below w0.heap.size w0 w1) := b1
    have HOlt : Hid (∀ k, (Value.slice a1 0 c1).ownBlock = some k → k < w1.heap.size) := fun k e => (ho1.row.lt k e).2
    obtain ⟨w2, hw2, V2, b2, z2⟩ := boxedRow w1 24 [.int .i64 0, .slice a1 0 c1]
    have B2 : Hid (Below w.heap.size w w2) := on (on B0.out b1) b2
    have HVR : Hid (Row w2 w.heap.size 24 [.int .i64 0, .slice none 0 0]) := (HV0.out.below b1).below b2
    have HVs : Hid (Row w2 w1.heap.size 24 [.int .i64 0, .slice a1 0 c1]) := V2
    have HO2 : Hid (OwnS 26 w2 w0.heap.size (.slice a1 0 c1) (([] : List Spn))) := ho1.below b2
    obtain ⟨r0, r1⟩ := HVR.out.two
    have r2 := HVR.out.frozen 0
    have r3 := HVR.out.frozen 1
    clear ho1 b1 V2 b2 z2
    go_wp2
    refine st_ret HVR.out B2.out (Nat.le_refl _) _ _ _ rfl rfl rfl Try.underlying24 rfl (by kernel_rfl) ?_
    intro w' K' B'
    exact ⟨_, rfl, OwnS.nil _ _ _, B'⟩
  have HSz : Hid (Fr.sizeB z = true) := hs
  obtain ⟨hz0, hz1⟩ : 0 ≤ z ∧ z ≤ 65536 := by unfold Fr.sizeB at hs; simpa using hs
  have HNE : Hid _ := Fr.wo_new hs
  by_cases hc : 1024 < n
  · obtain ⟨t1, t2, t3⟩ := Fr.wo_count (u := u) hs (by rw [HN.out]; omega)
    rw [t1, t2, t3]
    clear t1 t2 t3 hs
    go_enter Try.func33, Try.ntmps33
    go_wp2_with fail
    refine (refNew_u _ z).mono ?_
    rintro e w1 ⟨v1, rfl, ho1, b1⟩
    rw [HNE.out.2.1] at ho1
    rw [HNE.out.1, HNE.out.2.2]
    obtain ⟨a1, c1, hv1, -, -⟩ := ho1.slice
    subst hv1
    have HB01 : Hid (Below w0.heap.size w0 w1) := b1
    have HOlt : Hid (∀ k, (Value.slice a1 (Fr.newL z).length c1).ownBlock = some k → k < w1.heap.size) := fun k e => (ho1.row.lt k e).2
    obtain ⟨w2, hw2, V2, b2, z2⟩ := boxedRow w1 24 [.int .i64 z, .slice a1 (Fr.newL z).length c1]
    have B2 : Hid (Below w.heap.size w w2) := on (on B0.out b1) b2
    have HVR : Hid (Row w2 w.heap.size 24 [.int .i64 0, .slice none 0 0]) := (HV0.out.below b1).below b2
    have HVs : Hid (Row w2 w1.heap.size 24 [.int .i64 z, .slice a1 (Fr.newL z).length c1]) := V2
    have HO2 : Hid (OwnS 26 w2 w0.heap.size (.slice a1 (Fr.newL z).length c1) (Fr.newL z)) := ho1.below b2
    obtain ⟨r0, r1⟩ := HVR.out.two
    have r2 := HVR.out.frozen 0
    have r3 := HVR.out.frozen 1
    clear ho1 b1 V2 b2 z2
    go_wp2
    refine st_ret HVR.out B2.out (Nat.le_refl _) _ _ _ rfl rfl rfl Try.underlying24 rfl (by kernel_rfl) ?_
    intro w' K' B'
    exact ⟨_, rfl, OwnS.nil _ _ _, B'⟩
  clear hs
  go_enter Try.func33, Try.ntmps33
  go_wp2_with fail
  refine (refNew_u _ z).mono ?_
  rintro e w1 ⟨v1, rfl, ho1, b1⟩
  rw [HNE.out.2.1] at ho1
  rw [HNE.out.1, HNE.out.2.2]
  obtain ⟨a1, c1, hv1, -, -⟩ := ho1.slice
  subst hv1
  have HB01 : Hid (Below w0.heap.size w0 w1) := b1
  have HOlt : Hid (∀ k, (Value.slice a1 (Fr.newL z).length c1).ownBlock = some k → k < w1.heap.size) := fun k e => (ho1.row.lt k e).2
  obtain ⟨w2, hw2, V2, b2, z2⟩ := boxedRow w1 24 [.int .i64 z, .slice a1 (Fr.newL z).length c1]
  have B2 : Hid (Below w.heap.size w w2) := on (on B0.out b1) b2
  have HVR : Hid (Row w2 w.heap.size 24 [.int .i64 0, .slice none 0 0]) := (HV0.out.below b1).below b2
  have HVs : Hid (Row w2 w1.heap.size 24 [.int .i64 z, .slice a1 (Fr.newL z).length c1]) := V2
  have HO2 : Hid (OwnS 26 w2 w0.heap.size (.slice a1 (Fr.newL z).length c1) (Fr.newL z)) := ho1.below b2
  obtain ⟨r0, r1⟩ := HVR.out.two
  have r2 := HVR.out.frozen 0
  have r3 := HVR.out.frozen 1
  clear ho1 b1 V2 b2 z2
  have HS2 : Hid (OwnS 26 w2 w0.heap.size (.slice a1 (Fr.newL z).length c1) (Fr.newL z)) := HO2.out
  have HZr : Hid (w.heap.size < w0.heap.size) := HV0.out.lt
  have HZs : Hid (w0.heap.size ≤ w1.heap.size ∧ w1.heap.size < w2.heap.size) := ⟨HB01.out.size, HVs.out.lt⟩
  have HLs : Hid (∀ k, (Value.slice a1 (Fr.newL z).length c1).ownBlock = some k → k ≠ w1.heap.size) := fun k e => by have := (HOlt.out k e); omega
  clear HOlt
  go_wp2
  go_loopw [8] (fun i wr => ∃ (k : Nat) (vl : Value), k ≤ n ∧ i = .int .i64 k ∧ Hid (∀ j (h : j < u.length), j < k → Fr.Inside u[j] z) ∧ Hid (Row wr w1.heap.size 24 [.int .i64 z, vl]) ∧ Hid (OwnS 26 wr w0.heap.size vl (Fr.leftOf (Fr.newL z) (u.take k)) ∧ ∀ g, vl.ownBlock = some g → g ≠ w1.heap.size) ∧ Hid (Row wr w.heap.size 24 [.int .i64 0, .slice none 0 0]) ∧ Hid (Below w.heap.size w wr)) (fun i _ => n - (intOf i).toNat)
  case atStart => exact ⟨0, _, Nat.zero_le _, rfl, (fun j _ h => by omega), HVs, ⟨HS2.out, HLs.out⟩, HVR, B2⟩
  case round =>
    obtain ⟨k, vl, hk, rfl, HK, HVk, HOk, HVr, HB⟩ := hrel
    obtain ⟨al, cl, hvl, -, -⟩ := HOk.out.1.slice
    subst hvl
    obtain ⟨k0, k1⟩ := HVk.out.two
    have kf := HVk.out.frozen 1
    obtain ⟨r0, r1⟩ := HVr.out.two
    have r2 := HVr.out.frozen 0
    have r3 := HVr.out.frozen 1
    have HFit : Hid (Fr.Fit z (Fr.leftOf (Fr.newL z) (u.take k))) := Fr.left_fit hz0 (fun x hx => by
      obtain ⟨j, hj, rfl⟩ := List.mem_take_iff_getElem.1 hx
      exact (HK.out j (by omega) (by omega)).1)
    have HLen : Hid ((Fr.leftOf (Fr.newL z) (u.take k)).length ≤ 65536) := by have h := Fr.gaps_len HFit.out.gaps HFit.out.ends; unfold Hid; omega
    by_cases hlt : k < n
    · have hkl : k < u.length := by rw [HN.out]; exact hlt
      obtain ⟨g, off, rfl, -, hgl, hat⟩ := rSpns_at (Rep.below HR.out HB.out) (by omega)
      obtain ⟨c0, c1', -⟩ := hat k hkl
      have HI2 : Hid (In2 u[k]) := HIn.out u[k] (List.getElem_mem hkl)
      have HNx : Hid _ := Fr.left_next (z := z) hkl
      have HOut : Hid (Fr.inB z u[k] = false → Fr.withoutE z u = 4 ∧ Fr.withoutL z u = [] ∧ Fr.withoutZ z u = 0) := fun h => Fr.wo_out HSz.out (by rw [HN.out]; omega) (List.any_eq_true.2 ⟨u[k], List.getElem_mem hkl, by rw [h]; rfl⟩)
      have HKn : Hid (Fr.Inside u[k] z → ∀ j (h : j < u.length), j < k + 1 → Fr.Inside u[j] z) := fun h j hj hjk => by
        by_cases e : j = k
        · subst e; exact h
        · exact HK.out j hj (by omega)
      obtain ⟨y, hX⟩ : ∃ y, y = u[k] := ⟨_, rfl⟩
      rw [← hX] at c0 c1' HI2 HNx HOut HKn
      have HG : Hid (g < wr.heap.size) := hgl
      have hkz : (k : Int) < (n : Int) := by omega
      clear hX hat hgl
      cases hi : Fr.inB z y
      · have HI : Hid (Fr.inB z y = false) := hi
        obtain ⟨t1, t2, t3⟩ := HOut.out hi
        have T1 : Hid _ := t1
        have T2 : Hid _ := t2
        have T3 : Hid _ := t3
        clear t1 t2 t3 hi HKn
        go_wp2_with fail
        refine (inside_u _ y z HI2.out hz0 hz1 _ HI.out).mono ?_
        rintro e w5 ⟨rfl, b5⟩
        have B5 : Hid (Below w.heap.size w w5) := on HB.out b5
        have HV5 : Hid (Row w5 w.heap.size 24 [.int .i64 0, .slice none 0 0]) := HVr.out.below b5
        obtain ⟨f0, f1⟩ := HV5.out.two
        have f2 := HV5.out.frozen 0
        have f3 := HV5.out.frozen 1
        clear b5
        go_wp2
        refine st_ret HV5.out B5.out (Nat.le_refl _) _ _ _ rfl rfl rfl Try.underlying24 rfl (by kernel_rfl) ?_
        intro w' K' B'
        exact ⟨_, by rw [T1.out, T3.out], by rw [T2.out]; exact OwnS.nil _ _ _, B'⟩
      · have HI : Hid (Fr.inB z y = true) := hi
        have hin := Fr.inB_iff.1 hi
        have HKn2 : Hid _ := HKn.out hin
        have HYM : Hid (Fr.Mid y) := by unfold Hid Fr.Mid; unfold Fr.Inside at hin; omega
        have HMid : Hid (∀ x ∈ Fr.leftOf (Fr.newL z) (u.take k), Fr.Mid x) := fun x hx => by
          have h1 := Fr.Gaps_mem HFit.out.gaps hx
          have h2 := HFit.out.ends x hx
          unfold Fr.Mid
          omega
        clear hi hin HKn HOut
        go_wp2_with fail
        refine (inside_u _ y z HI2.out hz0 hz1 _ HI.out).mono ?_
        rintro e w5 ⟨rfl, b5⟩
        have B5 : Hid (Below w.heap.size w w5) := on HB.out b5
        have HV5 : Hid (Row w5 w.heap.size 24 [.int .i64 0, .slice none 0 0]) := HVr.out.below b5
        have HVk5 : Hid (Row w5 w1.heap.size 24 [.int .i64 z, .slice al (Fr.leftOf (Fr.newL z) (u.take k)).length cl]) := HVk.out.below b5
        have HOk5 : Hid (OwnS 26 w5 w0.heap.size (.slice al (Fr.leftOf (Fr.newL z) (u.take k)).length cl) (Fr.leftOf (Fr.newL z) (u.take k))) := HOk.out.1.below b5
        have g0 : w5.cell? ⟨g, off + k * 2, none⟩ = some (.int .i64 y.1) := (b5.cell (p := ⟨g, off + k * 2, none⟩) HG.out).trans c0
        have g1 : w5.cell? ⟨g, off + k * 2 + 1, none⟩ = some (.int .i64 y.2) := (b5.cell (p := ⟨g, off + k * 2 + 1, none⟩) HG.out).trans c1'
        have HG5 : Hid (g < w5.heap.size) := Nat.lt_of_lt_of_le HG.out b5.size
        obtain ⟨f0, f1⟩ := HVk5.out.two
        have SK : Hid (∀ {w' : World}, Below w5.heap.size w5 w' → w'.cell? ⟨w1.heap.size, 1, none⟩ = some (.slice al (Fr.leftOf (Fr.newL z) (u.take k)).length cl) ∧ w'.cell? ⟨g, off + k * 2, none⟩ = some (.int .i64 y.1) ∧ w'.cell? ⟨g, off + k * 2 + 1, none⟩ = some (.int .i64 y.2)) := fun b => ⟨(HVk5.out.below b).two.2, (b.cell (p := ⟨g, off + k * 2, none⟩) HG5.out).trans g0, (b.cell (p := ⟨g, off + k * 2 + 1, none⟩) HG5.out).trans g1⟩
        clear b5 c0 c1' k0 k1 kf r0 r1 r2 r3
        go_wp2_with fail
        go_region_with (go_at_call 45; refine Calls.mono (without_u _ _ al _ cl _ ((HOk5.out.below (Below.refl _ _).drew).rd (by have := HLen.out; omega)) HMid.out (by have := HLen.out; omega) y HYM.out) ?_; rintro e w6 ⟨v6, rfl, ho6, b6⟩; have B6 : Hid (Below w5.heap.size w5 w6) := below_drew_pre0 b6; obtain ⟨a6, c6, hv6, -, -⟩ := ho6.slice; subst hv6; have HO6 : Hid (OwnS _ _ _ _ _) := ho6; have HV6 : Hid (Row w6 w1.heap.size 24 [.int .i64 z, .slice al (Fr.leftOf (Fr.newL z) (u.take k)).length cl]) := HVk5.out.below B6.out; obtain ⟨h0, h1⟩ := HV6.out.two; have hf := HV6.out.frozen 1; clear ho6 b6)
        all_goals go_wp2
        all_goals go_roundw
        all_goals first
          | exact ⟨k + 1, _, by omega, by go_num, HKn2, HV6.out.set 1 (.slice a6 _ c6), ⟨by rw [HNx.out]; exact (HO6.out.mono (by show w0.heap.size ≤ w5.heap.size; have := HZs.out.1; have := HVk5.out.lt; omega)).keep1 (fun b e => Below.heap_setCell _ _ _ _ (fun h => by have := (HO6.out.row.lt b e).1; have h : b = w1.heap.size := h; have h2 : w5.heap.size ≤ b := this; have := HVk5.out.lt; omega)), fun b e => by have := (HO6.out.row.lt b e).1; have h2 : w5.heap.size ≤ b := this; have := HVk5.out.lt; omega⟩, (HV5.out.below B6.out).keep (Below.heap_setCell _ _ _ _ (fun h => by have h : w.heap.size = w1.heap.size := h; have := HZs.out.1; have := HZr.out; omega)), (on B5.out B6.out).setCell (p := ⟨w1.heap.size, 1, none⟩) (by show w.heap.size ≤ w1.heap.size; have := HZs.out.1; have := HZr.out; omega) _⟩
          | (simp [intOf]; omega)
    · obtain rfl : k = n := by omega
      have HT : Hid (u.take k = u) := List.take_of_length_le (by rw [HN.out]; exact Nat.le_refl _)
      have hall : ∀ x ∈ u, Fr.Inside x z := fun x hx => by
        obtain ⟨j, hj, rfl⟩ := List.mem_iff_getElem.1 hx
        exact HK.out j hj (by rw [← HN.out]; exact hj)
      obtain ⟨t1, t2, t3⟩ := Fr.wo_said HSz.out (show u.length ≤ 1024 by rw [HN.out]; omega) hall
      rw [HT.out] at HOk HVk k1 HLen
      by_cases hm : (Fr.leftOf (Fr.newL z) u).length ≤ 1024
      · have e1 : Fr.withoutE z u = 0 := by rw [t1]; exact if_pos hm
        have e2 : Fr.withoutL z u = Fr.leftOf (Fr.newL z) u := by rw [t2]; exact if_pos hm
        have e3 : Fr.withoutZ z u = z := by rw [t3]; exact if_pos hm
        have E1 : Hid _ := e1
        have E2 : Hid _ := e2
        have E3 : Hid _ := e3
        clear t1 t2 t3 e1 e2 e3 hall HFit
        go_wp2
        refine st_ret HVr.out HB.out (Nat.le_refl _) _ _ _ rfl rfl rfl Try.underlying24 rfl (by kernel_rfl) ?_
        intro w' K' B'
        exact ⟨_, by rw [E1.out, E3.out], by rw [E2.out]; exact (HOk.out.1.keptR K' HZr.out).mono (Nat.le_of_lt HZr.out), B'⟩
      · have e1 : Fr.withoutE z u = 51 := by rw [t1]; exact if_neg hm
        have e2 : Fr.withoutL z u = [] := by rw [t2]; exact if_neg hm
        have e3 : Fr.withoutZ z u = 0 := by rw [t3]; exact if_neg hm
        have E1 : Hid _ := e1
        have E2 : Hid _ := e2
        have E3 : Hid _ := e3
        clear t1 t2 t3 e1 e2 e3 hall HFit
        go_wp2
        refine st_ret HVr.out HB.out (Nat.le_refl _) _ _ _ rfl rfl rfl Try.underlying24 rfl (by kernel_rfl) ?_
        intro w' K' B'
        exact ⟨_, by rw [E1.out, E3.out], by rw [E2.out]; exact OwnS.nil _ _ _, B'⟩

end Go.Proofs.Ytbbjbajdoekheaa
