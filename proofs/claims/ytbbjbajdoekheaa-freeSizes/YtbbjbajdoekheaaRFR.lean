/-
  The document's own Own and Resize, at whatever state and size. Conditions: those that each contract names.
-/
import Derived.Test.YtbbjbajdoekheaaRFT
import Derived.Test.YtbbjbajdoekheaaRFH
import Derived.Test.YtbbjbajdoekheaaFRes
namespace Go.Proofs.Ytbbjbajdoekheaa
open Go.RowKit
set_option linter.unusedVariables false

set_option maxRecDepth 20000 in
set_option maxHeartbeats 2000000 in
theorem refOwn_u (w : World) (P : Nat → Prop) (z : Int) (a : Option Addr) (n c : Nat) (l : List Spn) (hL : rSpns.rd w P [.slice a n c] l) :
    Calls Try.prog 53 #[.agg #[.int .i64 z, .slice a n c]] w fun e w' => ∃ v, e = .returned (.agg #[.int .i64 z, v]) ∧ OwnS 26 w' w.heap.size v l ∧ Below w.heap.size w w' := by
  obtain ⟨w0, hw0, V0, b0, z0⟩ := boxedRow w 24 [.int .i64 z, .slice a n c]
  obtain ⟨w1, hw1, V1, b1, z1⟩ := boxedRow w0 24 [.int .i64 0, .slice none 0 0]
  rw [z0] at V1
  have HV0 : Hid (Row w1 w.heap.size 24 [.int .i64 z, .slice a n c]) := V0.below b1
  have B1 : Hid (Below w.heap.size w w1) := on b0 b1
  have HZ1 : Hid (w.heap.size + 1 < w1.heap.size) := V1.lt
  obtain ⟨v2, w2, hr, ho, bw⟩ := run_copy_spns (Rep.below (Rep.below hL B1.out) (Below.refl _ _).drew) 22
  have HRun : Hid _ := hr
  have HO2 : Hid (OwnS 26 w2 w1.heap.size v2 l) := ho
  have B2 : Hid (Below w.heap.size w w2) := on B1.out (below_drew_pre0 bw)
  have HVR : Hid (Row w2 (w.heap.size + 1) 24 [.int .i64 0, .slice none 0 0]) := V1.below (below_drew_pre0 bw)
  have SS := (HV0.out.below (below_drew_pre0 bw)).two
  obtain ⟨a2, c2, hv2, -, -⟩ := ho.slice
  subst hv2
  obtain ⟨r0, r1⟩ := HVR.out.two
  have r2 := HVR.out.frozen 0
  have r3 := HVR.out.frozen 1
  have SKS : Hid (∀ {w2 : World} {u0 u1 : Value} {w' : World}, w2.cell? ⟨w.heap.size, 0, none⟩ = some (.int .i64 z) ∧ w2.cell? ⟨w.heap.size, 1, none⟩ = some (.slice a n c) → (w2.setCell ⟨w.heap.size + 1, 0, none⟩ u0).setCell ⟨w.heap.size + 1, 1, none⟩ u1 = w' → w'.cell? ⟨w.heap.size, 0, none⟩ = some (.int .i64 z) ∧ w'.cell? ⟨w.heap.size, 1, none⟩ = some (.slice a n c)) := fun {w2 u0 u1 w'} h e => by
    subst e
    have hne : ∀ i j : Nat, (⟨w.heap.size + 1, j, none⟩ : Addr) ≠ ⟨w.heap.size, i, none⟩ := fun i j e => by have : w.heap.size + 1 = w.heap.size := congrArg Addr.block e; omega
    exact ⟨by rw [World.cell?_setCell_other _ _ _ _ (hne _ _), World.cell?_setCell_other _ _ _ _ (hne _ _)]; exact h.1, by rw [World.cell?_setCell_other _ _ _ _ (hne _ _), World.cell?_setCell_other _ _ _ _ (hne _ _)]; exact h.2⟩
  clear hL V0 V1 b0 b1 z1 hr ho bw
  go_enter Try.func53, Try.ntmps53
  go_wp2_with fail
  refine wp_region_held_drew (S := (fun w' : World => w'.cell? ⟨w.heap.size, 0, none⟩ = some (.int .i64 z) ∧ w'.cell? ⟨w.heap.size, 1, none⟩ = some (.slice a n c))) (by kernel_rfl) ((HV0.out.keep rfl : Row w1.drew _ _ _).two) (fun hHeld => ?_)
  refine wpAnyH_takeL (i := 0) (v := ?_) rfl rfl (by kernel_rfl) (by kernel_rfl) (by kernel_rfl) (fun _ _ _ h => h) (Or.inl ⟨by rfl, ?_⟩) (by assumption) ?_
  rotate_left
  · intro w hSw
    try dsimp only at hSw
    go_simp
    all_goals with_reducible rfl
  simp only [List.set_cons_zero, List.set_cons_succ]
  refine wpAnyH_takeL (i := 1) (v := ?_) rfl rfl (by kernel_rfl) (by kernel_rfl) (by kernel_rfl) (fun _ _ _ h => h) (Or.inl ⟨by rfl, ?_⟩) (by assumption) ?_
  rotate_left
  · intro w hSw
    try dsimp only at hSw
    go_simp
    all_goals with_reducible rfl
  simp only [List.set_cons_zero, List.set_cons_succ]
  refine wpAnyH_takeL (i := 2) (v := ?_) rfl rfl (by kernel_rfl) (by kernel_rfl) (by kernel_rfl) (fun _ _ _ h => h) (Or.inl ⟨by rfl, ?_⟩) (by assumption) ?_
  rotate_left
  · intro w hSw
    try dsimp only at hSw
    go_simp
    all_goals with_reducible rfl
  simp only [List.set_cons_zero, List.set_cons_succ]
  refine wpAnyH_takeL (i := 3) (v := ?_) rfl rfl (by kernel_rfl) (by kernel_rfl) (by kernel_rfl) (fun _ _ _ h => h) (Or.inl ⟨by rfl, ?_⟩) (by assumption) ?_
  rotate_left
  · intro w hSw
    try dsimp only at hSw
    go_simp
    all_goals with_reducible rfl
  simp only [List.set_cons_zero, List.set_cons_succ]
  refine wpAnyH_takeL (i := 4) (v := ?_) rfl rfl (by kernel_rfl) (by kernel_rfl) (by kernel_rfl) (fun _ _ _ h => h) (Or.inl ⟨by rfl, ?_⟩) (by assumption) ?_
  rotate_left
  · intro w hSw
    try dsimp only at hSw
    go_simp
    all_goals with_reducible rfl
  simp only [List.set_cons_zero, List.set_cons_succ]
  refine wpAnyH_ready (rs := [5]) (by kernel_rfl) (by simp) ?_
  refine AllReadyH.cons rfl (fun K hK => ?_) ?_
  · refine step_append_run (T := 22) rfl (.tmp 6) (.tmp 8) rfl _ _ rfl rfl _ _ HRun.out ?_
    go_simp
    refine hK.out _ _ ?_ (fun hHeld => ?_)
    · try dsimp only
      first | exact SS | exact SS2
    clear hK K
    refine wpAnyH_takeL (i := 6) (v := ?_) rfl rfl (by kernel_rfl) (by kernel_rfl) (by kernel_rfl) (fun _ _ _ h => h) (Or.inl ⟨by rfl, ?_⟩) (by assumption) ?_
    rotate_left
    · intro w hSw
      try dsimp only at hSw
      go_simp
      all_goals with_reducible rfl
    simp only [List.set_cons_zero, List.set_cons_succ]
    refine wpAnyH_ready (rs := [7]) (by kernel_rfl) (by simp) ?_
    refine AllReadyH.cons rfl (fun K hK => ?_) ?_
    · have SS2 := SKS.out SS (rfl : (w2.setCell ⟨w.heap.size + 1, 0, none⟩ (.int .i64 z)).setCell ⟨w.heap.size + 1, 1, none⟩ (.slice a2 l.length c2) = _)
      go_simp
      refine hK.out _ _ ?_ (fun hHeld => ?_)
      · try dsimp only
        first | exact SS | exact SS2
      clear hK K
      refine wpAnyH_done (by kernel_rfl) ?_ _
      clear hHeld SS
      go_wp2
      refine st_ret1 HVR.out B2.out (by omega) _ _ rfl rfl Try.underlying24 rfl (by kernel_rfl) ?_
      intro w' K' B'
      exact ⟨_, rfl, (HO2.out.keptR K' HZ1.out).mono B1.out.size, B'⟩
    exact AllReadyH.nil
  exact AllReadyH.nil

set_option maxRecDepth 20000 in
set_option maxHeartbeats 4000000 in
theorem refResize_u (w : World) (P : Nat → Prop) (z : Int) (a : Option Addr) (n c : Nat) (l : List Spn) (hL : rSpns.rd w P [.slice a n c] l) (m : Int) :
    Calls Try.prog 29 #[.agg #[.int .i64 z, .slice a n c], .int .i64 m] w fun e w' => ∃ v, e = .returned (.tuple #[.agg #[.int .i64 (Fr.resizeZ z l m), v], .int .i64 (Fr.resizeE z l m)]) ∧ OwnS 26 w' w.heap.size v (Fr.resizeL z l m) ∧ Below w.heap.size w w' := by
  have HR : Hid _ := hL
  have HN : Hid (l.length = n) := (rList_len hL).1
  obtain ⟨w0, hw0, V0, b0, z0⟩ := boxedRow w 24 [.int .i64 z, .slice a n c]
  obtain ⟨w2, hw2, V2, b2, z2⟩ := boxedRow w0 24 [.int .i64 0, .slice none 0 0]
  rw [z0] at V2
  have B2 : Hid (Below w.heap.size w w2) := on b0 b2
  have HV0 : Hid (Row w2 w.heap.size 24 [.int .i64 z, .slice a n c]) := V0.below b2
  have HV2 : Hid (Row w2 (w.heap.size + 1) 24 [.int .i64 0, .slice none 0 0]) := V2
  obtain ⟨d0, d1⟩ := HV0.out.two
  clear hL V0 V2 b0 b2 z2
  cases ho : Fr.okB z l
  · have HC : Hid (Fr.checkE z l = 9) := Fr.checkE_no ho
    obtain ⟨t1, t2, t3⟩ := Fr.resize_no (m := m) ho
    rw [t1, t2, t3]
    clear t1 t2 t3 ho
    go_enter Try.func29, Try.ntmps29
    go_wp2_with fail
    refine (refHighest_u _ P z a n c l (Rep.below HR.out B2.out)).mono ?_
    rintro e w3 ⟨rfl, b3⟩
    have B3 : Hid (Below w.heap.size w w3) := on B2.out b3
    have HA0 : Hid (Row w3 w.heap.size 24 [.int .i64 z, .slice a n c]) := HV0.out.below b3
    have HA2 : Hid (Row w3 (w.heap.size + 1) 24 [.int .i64 0, .slice none 0 0]) := HV2.out.below b3
    clear b3 d0 d1
    rw [HC.out]
    obtain ⟨r0, r1⟩ := HA2.out.two
    have r2 := HA2.out.frozen 0
    have r3 := HA2.out.frozen 1
    go_wp2
    refine st_ret HA2.out B3.out (by omega) _ _ _ rfl rfl rfl Try.underlying24 rfl (by kernel_rfl) ?_
    intro w' K' B'
    exact ⟨_, rfl, OwnS.nil _ _ _, B'⟩
  have HC : Hid (Fr.checkE z l = 0) := Fr.checkE_ok ho
  have HO : Hid (Fr.Ok z l) := Fr.ok_iff.1 ho
  have HH : Hid (Fr.highA z l = Fr.high z l) := by unfold Hid Fr.highA; rw [ho]; rfl
  have hn : n ≤ 1024 := by have h := HO.out.len; rw [HN.out] at h; exact h
  have hzl := HO.out.low
  have hzh := HO.out.high
  cases hs : Fr.sizeB m
  · obtain ⟨t1, t2, t3⟩ := Fr.resize_range ho hs
    rw [t1, t2, t3]
    have hmm : ¬ (0 ≤ m ∧ m ≤ 65536) := fun h => by unfold Fr.sizeB at hs; simp [h] at hs
    clear t1 t2 t3 ho hs
    by_cases h1 : m < 0
    · clear hmm
      go_enter Try.func29, Try.ntmps29
      go_wp2_with fail
      refine (refHighest_u _ P z a n c l (Rep.below HR.out B2.out)).mono ?_
      rintro e w3 ⟨rfl, b3⟩
      have B3 : Hid (Below w.heap.size w w3) := on B2.out b3
      have HA0 : Hid (Row w3 w.heap.size 24 [.int .i64 z, .slice a n c]) := HV0.out.below b3
      have HA2 : Hid (Row w3 (w.heap.size + 1) 24 [.int .i64 0, .slice none 0 0]) := HV2.out.below b3
      clear b3 d0 d1
      rw [HC.out]
      obtain ⟨r0, r1⟩ := HA2.out.two
      have r2 := HA2.out.frozen 0
      have r3 := HA2.out.frozen 1
      go_wp2
      refine st_ret HA2.out B3.out (by omega) _ _ _ rfl rfl rfl Try.underlying24 rfl (by kernel_rfl) ?_
      intro w' K' B'
      exact ⟨_, rfl, OwnS.nil _ _ _, B'⟩
    · have h2 : 65536 < m := by omega
      clear hmm
      go_enter Try.func29, Try.ntmps29
      go_wp2_with fail
      refine (refHighest_u _ P z a n c l (Rep.below HR.out B2.out)).mono ?_
      rintro e w3 ⟨rfl, b3⟩
      have B3 : Hid (Below w.heap.size w w3) := on B2.out b3
      have HA0 : Hid (Row w3 w.heap.size 24 [.int .i64 z, .slice a n c]) := HV0.out.below b3
      have HA2 : Hid (Row w3 (w.heap.size + 1) 24 [.int .i64 0, .slice none 0 0]) := HV2.out.below b3
      clear b3 d0 d1
      rw [HC.out]
      obtain ⟨r0, r1⟩ := HA2.out.two
      have r2 := HA2.out.frozen 0
      have r3 := HA2.out.frozen 1
      go_wp2
      refine st_ret HA2.out B3.out (by omega) _ _ _ rfl rfl rfl Try.underlying24 rfl (by kernel_rfl) ?_
      intro w' K' B'
      exact ⟨_, rfl, OwnS.nil _ _ _, B'⟩
  obtain ⟨hm0, hm1⟩ : 0 ≤ m ∧ m ≤ 65536 := by unfold Fr.sizeB at hs; simpa using hs
  by_cases hh : m < Fr.high z l
  · obtain ⟨t1, t2, t3⟩ := Fr.resize_busy ho hs hh
    rw [t1, t2, t3]
    obtain ⟨hi, hhi⟩ : ∃ hi, Fr.high z l = hi := ⟨_, rfl⟩
    rw [hhi] at hh
    have HHi : Hid _ := hhi
    clear t1 t2 t3 ho hs hhi
    go_enter Try.func29, Try.ntmps29
    go_wp2_with fail
    refine (refHighest_u _ P z a n c l (Rep.below HR.out B2.out)).mono ?_
    rintro e w3 ⟨rfl, b3⟩
    have B3 : Hid (Below w.heap.size w w3) := on B2.out b3
    have HA0 : Hid (Row w3 w.heap.size 24 [.int .i64 z, .slice a n c]) := HV0.out.below b3
    have HA2 : Hid (Row w3 (w.heap.size + 1) 24 [.int .i64 0, .slice none 0 0]) := HV2.out.below b3
    clear b3 d0 d1
    rw [HC.out, HH.out, HHi.out]
    obtain ⟨r0, r1⟩ := HA2.out.two
    have r2 := HA2.out.frozen 0
    have r3 := HA2.out.frozen 1
    go_wp2
    refine st_ret HA2.out B3.out (by omega) _ _ _ rfl rfl rfl Try.underlying24 rfl (by kernel_rfl) ?_
    intro w' K' B'
    exact ⟨_, rfl, OwnS.nil _ _ _, B'⟩
  obtain ⟨t1, t2, t3⟩ := Fr.resize_said ho hs hh
  rw [t1, t2, t3]
  obtain ⟨hi, hhi⟩ : ∃ hi, Fr.high z l = hi := ⟨_, rfl⟩
  rw [hhi] at hh
  have HHi : Hid _ := hhi
  clear t1 t2 t3 ho hs hhi
  by_cases c1 : m < z
  · have hr : Fr.resized z l m = Fr.without l (m, z - m) := by unfold Fr.resized; rw [if_pos c1]
    have hlen := Fr.resized_low HO.out c1
    rw [hr] at hlen ⊢
    have HLen : Hid _ := hlen
    have e1 : Fr.manyE (Fr.without l (m, z - m)) = 0 := if_pos hlen
    have e2 : Fr.manyL (Fr.without l (m, z - m)) = Fr.without l (m, z - m) := if_pos hlen
    have e3 : Fr.manyZ m (Fr.without l (m, z - m)) = m := if_pos hlen
    rw [e1, e2, e3]
    have HXM : Hid (Fr.Mid (m, z - m)) := by unfold Hid Fr.Mid; simp only; omega
    clear e1 e2 e3 hr hlen
    go_enter Try.func29, Try.ntmps29
    go_wp2_with fail
    refine (refHighest_u _ P z a n c l (Rep.below HR.out B2.out)).mono ?_
    rintro e w3 ⟨rfl, b3⟩
    have B3 : Hid (Below w.heap.size w w3) := on B2.out b3
    have HA0 : Hid (Row w3 w.heap.size 24 [.int .i64 z, .slice a n c]) := HV0.out.below b3
    have HA2 : Hid (Row w3 (w.heap.size + 1) 24 [.int .i64 0, .slice none 0 0]) := HV2.out.below b3
    clear b3 d0 d1
    rw [HC.out, HH.out, HHi.out]
    obtain ⟨e0, e1⟩ := HA0.out.two
    go_wp2_with fail
    refine (without_u _ P a n c l (Rep.below HR.out B3.out) HO.out.mid (by omega) (m, z - m) HXM.out).mono ?_
    rintro e w6 ⟨v6, rfl, ho6, b6⟩
    have B6 : Hid (Below w.heap.size w w6) := on B3.out b6
    have HD2 : Hid (Row w6 (w.heap.size + 1) 24 [.int .i64 0, .slice none 0 0]) := HA2.out.below b6
    have HO6 : Hid (OwnS _ _ _ _ _) := ho6
    have HZ6 : Hid (w.heap.size + 1 < w3.heap.size) := HA2.out.lt
    obtain ⟨a6, c6, hv6, -, -⟩ := ho6.slice
    subst hv6
    obtain ⟨r0, r1⟩ := HD2.out.two
    have r2 := HD2.out.frozen 0
    have r3 := HD2.out.frozen 1
    clear ho6 b6 e0 e1
    go_wp2
    refine st_ret HD2.out B6.out (by omega) _ _ _ rfl rfl rfl Try.underlying24 rfl (by kernel_rfl) ?_
    intro w' K' B'
    exact ⟨_, rfl, (HO6.out.keptR K' HZ6.out).mono B3.out.size, B'⟩
  by_cases c2 : m = z
  · subst c2
    have hr : Fr.resized m l m = l := by unfold Fr.resized; rw [if_neg (by omega), if_pos rfl]
    rw [hr]
    have e1 : Fr.manyE l = 0 := if_pos HO.out.len
    have e2 : Fr.manyL l = l := if_pos HO.out.len
    have e3 : Fr.manyZ m l = m := if_pos HO.out.len
    rw [e1, e2, e3]
    have hmm : (m == m) = true := beq_self_eq_true m
    clear e1 e2 e3 hr
    go_enter Try.func29, Try.ntmps29
    go_wp2_with fail
    refine (refHighest_u _ P m a n c l (Rep.below HR.out B2.out)).mono ?_
    rintro e w3 ⟨rfl, b3⟩
    have B3 : Hid (Below w.heap.size w w3) := on B2.out b3
    have HA0 : Hid (Row w3 w.heap.size 24 [.int .i64 m, .slice a n c]) := HV0.out.below b3
    have HA2 : Hid (Row w3 (w.heap.size + 1) 24 [.int .i64 0, .slice none 0 0]) := HV2.out.below b3
    clear b3 d0 d1
    rw [HC.out, HH.out, HHi.out]
    obtain ⟨e0, e1⟩ := HA0.out.two
    go_wp2_with fail
    refine (refOwn_u _ P m a n c l (Rep.below HR.out B3.out)).mono ?_
    rintro e w6 ⟨v6, rfl, ho6, b6⟩
    have B6 : Hid (Below w.heap.size w w6) := on B3.out b6
    have HD2 : Hid (Row w6 (w.heap.size + 1) 24 [.int .i64 0, .slice none 0 0]) := HA2.out.below b6
    have HO6 : Hid (OwnS _ _ _ _ _) := ho6
    have HZ6 : Hid (w.heap.size + 1 < w3.heap.size) := HA2.out.lt
    obtain ⟨a6, c6, hv6, -, -⟩ := ho6.slice
    subst hv6
    obtain ⟨r0, r1⟩ := HD2.out.two
    have r2 := HD2.out.frozen 0
    have r3 := HD2.out.frozen 1
    clear ho6 b6 e0 e1
    go_wp2
    refine st_ret HD2.out B6.out (by omega) _ _ _ rfl rfl rfl Try.underlying24 rfl (by kernel_rfl) ?_
    intro w' K' B'
    exact ⟨_, rfl, (HO6.out.keptR K' HZ6.out).mono B3.out.size, B'⟩
  have hmz : (m == z) = false := beq_eq_false_iff_ne.2 c2
  have hr : Fr.resized z l m = Fr.withR (z, m - z) false l := by unfold Fr.resized; rw [if_neg c1, if_neg c2]
  rw [hr]
  have HXM : Hid (Fr.Mid (z, m - z)) := by unfold Hid Fr.Mid; simp only; omega
  by_cases hlen : (Fr.withR (z, m - z) false l).length ≤ 1024
  · have e1 : Fr.manyE (Fr.withR (z, m - z) false l) = 0 := if_pos hlen
    have e2 : Fr.manyL (Fr.withR (z, m - z) false l) = Fr.withR (z, m - z) false l := if_pos hlen
    have e3 : Fr.manyZ m (Fr.withR (z, m - z) false l) = m := if_pos hlen
    rw [e1, e2, e3]
    clear e1 e2 e3 hr
    go_enter Try.func29, Try.ntmps29
    go_wp2_with fail
    refine (refHighest_u _ P z a n c l (Rep.below HR.out B2.out)).mono ?_
    rintro e w3 ⟨rfl, b3⟩
    have B3 : Hid (Below w.heap.size w w3) := on B2.out b3
    have HA0 : Hid (Row w3 w.heap.size 24 [.int .i64 z, .slice a n c]) := HV0.out.below b3
    have HA2 : Hid (Row w3 (w.heap.size + 1) 24 [.int .i64 0, .slice none 0 0]) := HV2.out.below b3
    clear b3 d0 d1
    rw [HC.out, HH.out, HHi.out]
    obtain ⟨e0, e1⟩ := HA0.out.two
    go_wp2_with fail
    refine (with_u _ P a n c l (Rep.below HR.out B3.out) HO.out.mid (by omega) (z, m - z) HXM.out).mono ?_
    rintro e w6 ⟨v6, rfl, ho6, b6⟩
    have B6 : Hid (Below w.heap.size w w6) := on B3.out b6
    have HD2 : Hid (Row w6 (w.heap.size + 1) 24 [.int .i64 0, .slice none 0 0]) := HA2.out.below b6
    have HO6 : Hid (OwnS _ _ _ _ _) := ho6
    have HZ6 : Hid (w.heap.size + 1 < w3.heap.size) := HA2.out.lt
    obtain ⟨a6, c6, hv6, -, -⟩ := ho6.slice
    subst hv6
    obtain ⟨r0, r1⟩ := HD2.out.two
    have r2 := HD2.out.frozen 0
    have r3 := HD2.out.frozen 1
    clear ho6 b6 e0 e1
    go_wp2
    refine st_ret HD2.out B6.out (by omega) _ _ _ rfl rfl rfl Try.underlying24 rfl (by kernel_rfl) ?_
    intro w' K' B'
    exact ⟨_, rfl, (HO6.out.keptR K' HZ6.out).mono B3.out.size, B'⟩
  · have e1 : Fr.manyE (Fr.withR (z, m - z) false l) = 51 := if_neg hlen
    have e2 : Fr.manyL (Fr.withR (z, m - z) false l) = [] := if_neg hlen
    have e3 : Fr.manyZ m (Fr.withR (z, m - z) false l) = 0 := if_neg hlen
    rw [e1, e2, e3]
    clear e1 e2 e3 hr
    go_enter Try.func29, Try.ntmps29
    go_wp2_with fail
    refine (refHighest_u _ P z a n c l (Rep.below HR.out B2.out)).mono ?_
    rintro e w3 ⟨rfl, b3⟩
    have B3 : Hid (Below w.heap.size w w3) := on B2.out b3
    have HA0 : Hid (Row w3 w.heap.size 24 [.int .i64 z, .slice a n c]) := HV0.out.below b3
    have HA2 : Hid (Row w3 (w.heap.size + 1) 24 [.int .i64 0, .slice none 0 0]) := HV2.out.below b3
    clear b3 d0 d1
    rw [HC.out, HH.out, HHi.out]
    obtain ⟨e0, e1⟩ := HA0.out.two
    go_wp2_with fail
    refine (with_u _ P a n c l (Rep.below HR.out B3.out) HO.out.mid (by omega) (z, m - z) HXM.out).mono ?_
    rintro e w6 ⟨v6, rfl, ho6, b6⟩
    have B6 : Hid (Below w.heap.size w w6) := on B3.out b6
    have HD2 : Hid (Row w6 (w.heap.size + 1) 24 [.int .i64 0, .slice none 0 0]) := HA2.out.below b6
    have HO6 : Hid (OwnS _ _ _ _ _) := ho6
    have HZ6 : Hid (w.heap.size + 1 < w3.heap.size) := HA2.out.lt
    obtain ⟨a6, c6, hv6, -, -⟩ := ho6.slice
    subst hv6
    obtain ⟨r0, r1⟩ := HD2.out.two
    have r2 := HD2.out.frozen 0
    have r3 := HD2.out.frozen 1
    clear ho6 b6 e0 e1
    go_wp2
    refine st_ret HD2.out B6.out (by omega) _ _ _ rfl rfl rfl Try.underlying24 rfl (by kernel_rfl) ?_
    intro w' K' B'
    exact ⟨_, rfl, OwnS.nil _ _ _, B'⟩

end Go.Proofs.Ytbbjbajdoekheaa
