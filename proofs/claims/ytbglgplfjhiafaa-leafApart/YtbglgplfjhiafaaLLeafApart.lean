/-
  Two unlike nodes that may be have unlike pages. Conditions: none.
-/
import Derived.Test.YtbglgplfjhiafaaIAlive
import Derived.Test.YtbglgplfjhiafaaIFrame
import Derived.Test.YtbglgplfjhiafaaIAlike
import Derived.Test.YtbglgplfjhiafaaBSame
namespace Go.Proofs.Ytbglgplfjhiafaa
open Go.ChangeShapes Go.WideShapes Go.ChangeAt Go.RowKit
set_option linter.unusedVariables false

set_option maxRecDepth 20000 in
set_option maxHeartbeats 8000000 in
theorem lapart_walk (cs : List Value) (s : Nod) (ct : List Value) (t : Nod) (W : World) (h0 : rNod.rd W (fun b => b < W.heap.size) cs s) (h1 : rNod.rd W (fun b => b < W.heap.size) ct t) :
    Calls Try.prog 6 #[.agg cs.toArray, .agg ct.toArray] W fun e W' => e = .returned (.bool true) ∧ Below W.heap.size W W' := by
  obtain ⟨a, n, c, a', n', c', rfl, hL, hK⟩ := rNod_rd h0
  obtain ⟨l, ks⟩ := s
  simp only at hL hK
  obtain ⟨e, m, d, e', m', d', rfl, hM, hJ⟩ := rNod_rd h1
  obtain ⟨p, js⟩ := t
  simp only at hM hJ
  have HN : Hid (l.length = n) := (rList_len hL).1
  have HLB : Hid (l.length ≤ 8796093021952) := by unfold Hid; rw [HN.out]; have h : n * 16 ≤ 140737488351232 := (rList_len hL).2.2.2; omega
  have HKB : Hid (ks.length ≤ 17592186043904) := by unfold Hid; rw [(rList_len hK).1]; have h : n' * 8 ≤ 140737488351232 := (rList_len hK).2.2.2; omega
  have HLB2 : Hid (p.length ≤ 8796093021952) := by unfold Hid; rw [(rList_len hM).1]; have h : m * 16 ≤ 140737488351232 := (rList_len hM).2.2.2; omega
  have HKB2 : Hid (js.length ≤ 17592186043904) := by unfold Hid; rw [(rList_len hJ).1]; have h : m' * 8 ≤ 140737488351232 := (rList_len hJ).2.2.2; omega
  rw [show ([.slice a n c, .slice a' n' c'] : List Value).toArray = #[.slice a n c, .slice a' n' c'] from rfl]
  rw [show ([.slice e m d, .slice e' m' d'] : List Value).toArray = #[.slice e m d, .slice e' m' d'] from rfl]
  obtain ⟨w0, hw0, V0, b0, z0⟩ := boxedRow W 25 [.slice a n c, .slice a' n' c']
  obtain ⟨w1, hw1, V1, b1, z1⟩ := boxedRow w0 25 [.slice e m d, .slice e' m' d']
  rw [z0] at V1
  have Rs_1 : Hid (Row w1 (W.heap.size) 25 [.slice a n c, .slice a' n' c']) := V0.below b1
  have Rt_1 : Hid (Row w1 (W.heap.size + 1) 25 [.slice e m d, .slice e' m' d']) := V1
  have B_1 : Hid (Below W.heap.size W w1) := on b0 b1
  have Is_1 : Hid (rItms.rd w1 (fun b => b < W.heap.size) [.slice a n c] (l)) := Rep.below hL B_1.out
  have Ks_1 : Hid (rKids.rd w1 (fun b => b < W.heap.size) [.slice a' n' c'] (ks)) := Rep.below hK B_1.out
  have It_1 : Hid (rItms.rd w1 (fun b => b < W.heap.size) [.slice e m d] (p)) := Rep.below hM B_1.out
  have Kt_1 : Hid (rKids.rd w1 (fun b => b < W.heap.size) [.slice e' m' d'] (js)) := Rep.below hJ B_1.out
  clear V0 V1 b0 b1 z1 hL hK hM hJ h0 h1
  go_enter Try.func6, Try.ntmps6
  go_wp2_with fail
  refine (alive7_u _).mono ?_
  rintro e w2 ⟨rfl, b2⟩
  have Rs_2 : Hid (Row w2 (W.heap.size) 25 [.slice a n c, .slice a' n' c']) := Rs_1.out.below (b2)
  have Rt_2 : Hid (Row w2 (W.heap.size + 1) 25 [.slice e m d, .slice e' m' d']) := Rt_1.out.below (b2)
  have Is_2 : Hid (rItms.rd w2 (fun b => b < W.heap.size) [.slice a n c] (l)) := Rep.below Is_1.out (b2)
  have Ks_2 : Hid (rKids.rd w2 (fun b => b < W.heap.size) [.slice a' n' c'] (ks)) := Rep.below Ks_1.out (b2)
  have It_2 : Hid (rItms.rd w2 (fun b => b < W.heap.size) [.slice e m d] (p)) := Rep.below It_1.out (b2)
  have Kt_2 : Hid (rKids.rd w2 (fun b => b < W.heap.size) [.slice e' m' d'] (js)) := Rep.below Kt_1.out (b2)
  have B_2 : Hid (Below W.heap.size W w2) := on B_1.out (b2)
  clear Rs_1 Rt_1 Is_1 Ks_1 It_1 Kt_1
  clear b2
  obtain ⟨qs0, qs1⟩ := Rs_2.out.two
  go_wp2_with (go_at_call 16; refine (num7_u _ _).mono ?_; rintro e w99 ⟨rfl, rfl⟩)
  refine (of_u _ _ _ _ _ _ _ _ _ l ks Is_2.out Ks_2.out).mono ?_
  rintro e w3 ⟨v3, u3, rfl, hI3, hK3, b3⟩
  obtain ⟨ao, no, co, rfl⟩ : ∃ a n c, v3 = .slice a n c := by obtain ⟨a, c, e, -⟩ := hI3.slice; exact ⟨a, _, c, e⟩
  obtain ⟨go, mo, fo, rfl⟩ : ∃ a n c, u3 = .slice a n c := by obtain ⟨a, c, e, -⟩ := hK3.slice; exact ⟨a, _, c, e⟩
  have Io_3 : Hid (rItms.rd w3 (fun b => w2.heap.size ≤ b) [.slice ao no co] (l)) := hI3.rd (HLB.out)
  have Ko_3 : Hid (rKids.rd w3 (fun b => w2.heap.size ≤ b) [.slice go mo fo] (ks)) := hK3.rd (HKB.out)
  have Rs_3 : Hid (Row w3 (W.heap.size) 25 [.slice a n c, .slice a' n' c']) := Rs_2.out.below (b3)
  have Rt_3 : Hid (Row w3 (W.heap.size + 1) 25 [.slice e m d, .slice e' m' d']) := Rt_2.out.below (b3)
  have Is_3 : Hid (rItms.rd w3 (fun b => b < W.heap.size) [.slice a n c] (l)) := Rep.below Is_2.out (b3)
  have Ks_3 : Hid (rKids.rd w3 (fun b => b < W.heap.size) [.slice a' n' c'] (ks)) := Rep.below Ks_2.out (b3)
  have It_3 : Hid (rItms.rd w3 (fun b => b < W.heap.size) [.slice e m d] (p)) := Rep.below It_2.out (b3)
  have Kt_3 : Hid (rKids.rd w3 (fun b => b < W.heap.size) [.slice e' m' d'] (js)) := Rep.below Kt_2.out (b3)
  have B_3 : Hid (Below W.heap.size W w3) := on B_2.out (b3)
  clear qs0 qs1
  clear Rs_2 Rt_2 Is_2 Ks_2 It_2 Kt_2
  clear hI3 hK3 b3
  go_wp2_with (go_at_call 16; refine (num7_u _ _).mono ?_; rintro e w99 ⟨rfl, rfl⟩)
  refine (encode_u _ _ _ _ _ _ _ _ _ l ks Io_3.out Ko_3.out).mono ?_
  rintro e w4 ⟨xx, yx, zx, rfl, ho4, b4⟩
  obtain ⟨hx4, hy4, hz4⟩ := owns_isB ho4
  have Bx_4 : Hid (IsB w4 (xx) (yx) (Lf.encodeL (l, ks))) := hx4
  have HCx : Hid (yx ≤ zx) := hy4
  have HZx : Hid (xx = none → zx = 0) := hz4
  have Rs_4 : Hid (Row w4 (W.heap.size) 25 [.slice a n c, .slice a' n' c']) := Rs_3.out.below (b4)
  have Rt_4 : Hid (Row w4 (W.heap.size + 1) 25 [.slice e m d, .slice e' m' d']) := Rt_3.out.below (b4)
  have Is_4 : Hid (rItms.rd w4 (fun b => b < W.heap.size) [.slice a n c] (l)) := Rep.below Is_3.out (b4)
  have Ks_4 : Hid (rKids.rd w4 (fun b => b < W.heap.size) [.slice a' n' c'] (ks)) := Rep.below Ks_3.out (b4)
  have It_4 : Hid (rItms.rd w4 (fun b => b < W.heap.size) [.slice e m d] (p)) := Rep.below It_3.out (b4)
  have Kt_4 : Hid (rKids.rd w4 (fun b => b < W.heap.size) [.slice e' m' d'] (js)) := Rep.below Kt_3.out (b4)
  have Io_4 : Hid (rItms.rd w4 (fun b => w2.heap.size ≤ b) [.slice ao no co] (l)) := Rep.below Io_3.out (b4)
  have Ko_4 : Hid (rKids.rd w4 (fun b => w2.heap.size ≤ b) [.slice go mo fo] (ks)) := Rep.below Ko_3.out (b4)
  have B_4 : Hid (Below W.heap.size W w4) := on B_3.out (b4)
  clear Rs_3 Rt_3 Is_3 Ks_3 It_3 Kt_3 Io_3 Ko_3
  clear hx4 hy4 hz4 ho4 b4
  clear Io_4 Ko_4
  obtain ⟨qt0, qt1⟩ := Rt_4.out.two
  go_wp2_with (go_at_call 16; refine (num7_u _ _).mono ?_; rintro e w99 ⟨rfl, rfl⟩)
  refine (of_u _ _ _ _ _ _ _ _ _ p js It_4.out Kt_4.out).mono ?_
  rintro e w5 ⟨v5, u5, rfl, hI5, hK5, b5⟩
  obtain ⟨au, nu, cu, rfl⟩ : ∃ a n c, v5 = .slice a n c := by obtain ⟨a, c, e, -⟩ := hI5.slice; exact ⟨a, _, c, e⟩
  obtain ⟨gu, mu, fu, rfl⟩ : ∃ a n c, u5 = .slice a n c := by obtain ⟨a, c, e, -⟩ := hK5.slice; exact ⟨a, _, c, e⟩
  have Iu_5 : Hid (rItms.rd w5 (fun b => w4.heap.size ≤ b) [.slice au nu cu] (p)) := hI5.rd (HLB2.out)
  have Ku_5 : Hid (rKids.rd w5 (fun b => w4.heap.size ≤ b) [.slice gu mu fu] (js)) := hK5.rd (HKB2.out)
  have Rs_5 : Hid (Row w5 (W.heap.size) 25 [.slice a n c, .slice a' n' c']) := Rs_4.out.below (b5)
  have Rt_5 : Hid (Row w5 (W.heap.size + 1) 25 [.slice e m d, .slice e' m' d']) := Rt_4.out.below (b5)
  have Is_5 : Hid (rItms.rd w5 (fun b => b < W.heap.size) [.slice a n c] (l)) := Rep.below Is_4.out (b5)
  have Ks_5 : Hid (rKids.rd w5 (fun b => b < W.heap.size) [.slice a' n' c'] (ks)) := Rep.below Ks_4.out (b5)
  have It_5 : Hid (rItms.rd w5 (fun b => b < W.heap.size) [.slice e m d] (p)) := Rep.below It_4.out (b5)
  have Kt_5 : Hid (rKids.rd w5 (fun b => b < W.heap.size) [.slice e' m' d'] (js)) := Rep.below Kt_4.out (b5)
  have Bx_5 : Hid (IsB w5 (xx) (yx) (Lf.encodeL (l, ks))) := Bx_4.out.below (b5)
  have B_5 : Hid (Below W.heap.size W w5) := on B_4.out (b5)
  clear qt0 qt1
  clear Rs_4 Rt_4 Is_4 Ks_4 It_4 Kt_4 Bx_4
  clear hI5 hK5 b5
  go_wp2_with (go_at_call 16; refine (num7_u _ _).mono ?_; rintro e w99 ⟨rfl, rfl⟩)
  refine (encode_u _ _ _ _ _ _ _ _ _ p js Iu_5.out Ku_5.out).mono ?_
  rintro e w6 ⟨xy, yy, zy, rfl, ho6, b6⟩
  obtain ⟨hx6, hy6, hz6⟩ := owns_isB ho6
  have By_6 : Hid (IsB w6 (xy) (yy) (Lf.encodeL (p, js))) := hx6
  have HCy : Hid (yy ≤ zy) := hy6
  have HZy : Hid (xy = none → zy = 0) := hz6
  have Rs_6 : Hid (Row w6 (W.heap.size) 25 [.slice a n c, .slice a' n' c']) := Rs_5.out.below (b6)
  have Rt_6 : Hid (Row w6 (W.heap.size + 1) 25 [.slice e m d, .slice e' m' d']) := Rt_5.out.below (b6)
  have Is_6 : Hid (rItms.rd w6 (fun b => b < W.heap.size) [.slice a n c] (l)) := Rep.below Is_5.out (b6)
  have Ks_6 : Hid (rKids.rd w6 (fun b => b < W.heap.size) [.slice a' n' c'] (ks)) := Rep.below Ks_5.out (b6)
  have It_6 : Hid (rItms.rd w6 (fun b => b < W.heap.size) [.slice e m d] (p)) := Rep.below It_5.out (b6)
  have Kt_6 : Hid (rKids.rd w6 (fun b => b < W.heap.size) [.slice e' m' d'] (js)) := Rep.below Kt_5.out (b6)
  have Bx_6 : Hid (IsB w6 (xx) (yx) (Lf.encodeL (l, ks))) := Bx_5.out.below (b6)
  have Iu_6 : Hid (rItms.rd w6 (fun b => w4.heap.size ≤ b) [.slice au nu cu] (p)) := Rep.below Iu_5.out (b6)
  have Ku_6 : Hid (rKids.rd w6 (fun b => w4.heap.size ≤ b) [.slice gu mu fu] (js)) := Rep.below Ku_5.out (b6)
  have B_6 : Hid (Below W.heap.size W w6) := on B_5.out (b6)
  clear Rs_5 Rt_5 Is_5 Ks_5 It_5 Kt_5 Bx_5 Iu_5 Ku_5
  clear hx6 hy6 hz6 ho6 b6
  clear Iu_6 Ku_6
  cases hok : Lf.ok (l, ks)
  · rw [show Lf.encodeE (l, ks) = 9 by unfold Lf.encodeE; rw [hok]; rfl]
    have hx0 : ((yx : Int) == 0) = true := by have h := Bx_6.out.1; rw [show Lf.encodeL (l, ks) = [] by unfold Lf.encodeL; rw [hok]; rfl] at h; simp only [List.length_nil] at h; rw [beq_iff_eq]; omega
    obtain ⟨E, hE⟩ : ∃ E, E = Lf.encodeE (p, js) := ⟨_, rfl⟩
    rw [← hE]
    clear hok hE
    go_wp2_with (go_at_call 16; refine (num7_u _ _).mono ?_; rintro e w99 ⟨rfl, rfl⟩)
    go_ret
    exact ⟨rfl, B_6.out⟩
  · have HOK : Hid _ := hok
    rw [show Lf.encodeE (l, ks) = 0 from if_pos hok]
    have HXe : Hid (Lf.encodeL (l, ks) = Lf.enc (l, ks)) := if_pos hok
    have HX64 : Hid (yx = 64) := by have h := Bx_6.out.1; rw [HXe.out, Lf.enc_len (Lf.ok_iff.1 hok)] at h; exact h.symm
    clear hok
    cases hok2 : Lf.ok (p, js)
    · rw [show Lf.encodeE (p, js) = 9 by unfold Lf.encodeE; rw [hok2]; rfl]
      have hy0 : ((yy : Int) == 0) = true := by have h := By_6.out.1; rw [show Lf.encodeL (p, js) = [] by unfold Lf.encodeL; rw [hok2]; rfl] at h; simp only [List.length_nil] at h; rw [beq_iff_eq]; omega
      have hx0 : ((yx : Int) == 0) = false := beq_eq_false_iff_ne.2 (by have := HX64.out; omega)
      clear hok2
      go_wp2_with (go_at_call 16; refine (num7_u _ _).mono ?_; rintro e w99 ⟨rfl, rfl⟩)
      go_ret
      exact ⟨rfl, B_6.out⟩
    · have HOK2 : Hid _ := hok2
      rw [show Lf.encodeE (p, js) = 0 from if_pos hok2]
      have HYe : Hid (Lf.encodeL (p, js) = Lf.enc (p, js)) := if_pos hok2
      clear hok2
      have SK : Hid (∀ {w' : World}, Below w6.heap.size w6 w' → w'.cell? ⟨W.heap.size, 0, none⟩ = some (.slice a n c) ∧ w'.cell? ⟨W.heap.size, 1, none⟩ = some (.slice a' n' c') ∧ w'.cell? ⟨W.heap.size + 1, 0, none⟩ = some (.slice e m d) ∧ w'.cell? ⟨W.heap.size + 1, 1, none⟩ = some (.slice e' m' d')) := fun b => ⟨(Rs_6.out.below b).two.1, (Rs_6.out.below b).two.2, (Rt_6.out.below b).two.1, (Rt_6.out.below b).two.2⟩
      by_cases hEq : (l, ks) = (p, js)
      · have HSB : Hid ((Lf.encodeL (l, ks) == Lf.encodeL (p, js)) = true) := by unfold Hid; rw [hEq]; exact beq_self_eq_true _
        have hp : p = l := (congrArg Prod.fst hEq).symm
        have hj : js = ks := (congrArg Prod.snd hEq).symm
        have IT : Hid (rItms.rd w6 (fun b => b < W.heap.size) [.slice e m d] l) := by have h := It_6.out; rw [hp] at h; exact h
        have KT : Hid (rKids.rd w6 (fun b => b < W.heap.size) [.slice e' m' d'] ks) := by have h := Kt_6.out; rw [hj] at h; exact h
        clear hEq hp hj
        go_wp2_with (go_at_call 16; refine (num7_u _ _).mono ?_; rintro e w99 ⟨rfl, rfl⟩)
        refine wp_region_held_drew (S := (fun w' : World => w'.cell? ⟨W.heap.size, 0, none⟩ = some (.slice a n c) ∧ w'.cell? ⟨W.heap.size, 1, none⟩ = some (.slice a' n' c') ∧ w'.cell? ⟨W.heap.size + 1, 0, none⟩ = some (.slice e m d) ∧ w'.cell? ⟨W.heap.size + 1, 1, none⟩ = some (.slice e' m' d'))) (by kernel_rfl) (SK.out (Below.refl _ _).drew) (fun hHeld => ?_)
        refine wpAnyH_takeL (i := 0) (v := ?_) rfl rfl (by kernel_rfl) (by kernel_rfl) (by kernel_rfl) (fun _ _ _ h => h) (Or.inl ⟨by rfl, ?_⟩) (by assumption) ?_
        rotate_left
        · intro w hSw
          try dsimp only at hSw
          go_simp
          all_goals with_reducible rfl
        simp only [List.set_cons_zero, List.set_cons_succ]
        refine wpAnyH_takeL (i := 1) (v := ?_) rfl rfl (by kernel_rfl) (by kernel_rfl) (by kernel_rfl) (fun _ _ _ h => h) (Or.inl ⟨by rfl, ?_⟩) (by assumption) ?_
        rotate_left
        · intro w hSw
          try dsimp only at hSw
          go_simp
          all_goals with_reducible rfl
        simp only [List.set_cons_zero, List.set_cons_succ]
        refine wpAnyH_takeL (i := 3) (v := ?_) rfl rfl (by kernel_rfl) (by kernel_rfl) (by kernel_rfl) (fun _ _ _ h => h) (Or.inl ⟨by rfl, ?_⟩) (by assumption) ?_
        rotate_left
        · intro w hSw
          try dsimp only at hSw
          go_simp
          all_goals with_reducible rfl
        simp only [List.set_cons_zero, List.set_cons_succ]
        refine wpAnyH_takeL (i := 5) (v := ?_) rfl rfl (by kernel_rfl) (by kernel_rfl) (by kernel_rfl) (fun _ _ _ h => h) (Or.inl ⟨by rfl, ?_⟩) (by assumption) ?_
        rotate_left
        · intro w hSw
          try dsimp only at hSw
          go_simp
          all_goals with_reducible rfl
        simp only [List.set_cons_zero, List.set_cons_succ]
        refine wpAnyH_ready (rs := [2]) (by kernel_rfl) (by simp) ?_
        refine AllReadyH.cons rfl (fun K hK => ?_) ?_
        · go_simp
          go_at_call 15
          refine Calls.mono (sameBytes_any _ _ _ _ _ _ _ _ _ (Bx_6.out.below (Below.refl _ _).drew) (By_6.out.below (Below.refl _ _).drew)) ?_
          rintro e x2 ⟨rfl, rfl⟩
          rw [HSB.out]
          go_simp
          refine hK.out _ _ ?_ (fun hHeld => ?_)
          · try dsimp only
            exact SK.out (Below.refl _ _).drew
          clear hK K
          refine wpAnyH_ready (rs := [4]) (by kernel_rfl) (by simp) ?_
          refine AllReadyH.cons rfl (fun K hK => ?_) ?_
          · go_simp
            go_at_call 9
            refine Calls.mono (of_u _ _ _ _ _ _ _ _ _ l ks (Rep.below Is_6.out (Below.refl _ _).drew) (Rep.below Ks_6.out (Below.refl _ _).drew)) ?_
            rintro e x4 ⟨v4, u4, rfl, hI4, hK4, b4⟩
            have D4 : Hid (Below w6.heap.size w6 x4) := below_drew_pre0 b4
            obtain ⟨a4, n4, c4, rfl⟩ : ∃ a n c, v4 = .slice a n c := by obtain ⟨a, c, e, -⟩ := hI4.slice; exact ⟨a, _, c, e⟩
            obtain ⟨g4, m4, f4, rfl⟩ : ∃ a n c, u4 = .slice a n c := by obtain ⟨a, c, e, -⟩ := hK4.slice; exact ⟨a, _, c, e⟩
            have HI4 : Hid (OwnI _ _ _ _ _) := hI4
            have HK4 : Hid (OwnK _ _ _ _ _) := hK4
            clear hI4 hK4 b4
            go_simp
            refine hK.out _ _ ?_ (fun hHeld => ?_)
            · try dsimp only
              exact SK.out D4.out
            clear hK K
            refine wpAnyH_ready (rs := [6]) (by kernel_rfl) (by simp) ?_
            refine AllReadyH.cons rfl (fun K hK => ?_) ?_
            · go_simp
              go_at_call 17
              refine Calls.mono (alike_u _ _ _ _ _ _ _ _ _ _ _ _ _ _ _ _ _ l ks (HI4.out.rd HLB.out) (HK4.out.rd HKB.out) (Rep.below (IT.out) D4.out) (Rep.below (KT.out) D4.out)) ?_
              rintro e x6 ⟨rfl, b6⟩
              have D6 : Hid (Below w6.heap.size w6 x6) := on D4.out b6
              clear b6
              go_simp
              refine hK.out _ _ ?_ (fun hHeld => ?_)
              · try dsimp only
                exact SK.out D6.out
              clear hK K
              refine wpAnyH_takeL (i := 7) (v := ?_) rfl rfl (by kernel_rfl) (by kernel_rfl) (by kernel_rfl) (fun _ _ _ h => h) (Or.inl ⟨by rfl, ?_⟩) (by assumption) ?_
              rotate_left
              · intro w hSw
                try dsimp only at hSw
                go_simp
                all_goals with_reducible rfl
              simp only [List.set_cons_zero, List.set_cons_succ]
              refine wpAnyH_takeL (i := 8) (v := ?_) rfl rfl (by kernel_rfl) (by kernel_rfl) (by kernel_rfl) (fun _ _ _ h => h) (Or.inl ⟨by rfl, ?_⟩) (by assumption) ?_
              rotate_left
              · intro w hSw
                try dsimp only at hSw
                go_simp
                all_goals with_reducible rfl
              simp only [List.set_cons_zero, List.set_cons_succ]
              refine wpAnyH_takeL (i := 9) (v := ?_) rfl rfl (by kernel_rfl) (by kernel_rfl) (by kernel_rfl) (fun _ _ _ h => h) (Or.inl ⟨by rfl, ?_⟩) (by assumption) ?_
              rotate_left
              · intro w hSw
                try dsimp only at hSw
                go_simp
                all_goals with_reducible rfl
              simp only [List.set_cons_zero, List.set_cons_succ]
              refine wpAnyH_done (by kernel_rfl) ?_ _
              clear hHeld
              go_wp2
              go_ret
              exact ⟨rfl, on B_6.out D6.out⟩
            exact AllReadyH.nil
          exact AllReadyH.nil
        exact AllReadyH.nil
      · have HSB : Hid ((Lf.encodeL (l, ks) == Lf.encodeL (p, js)) = false) := by unfold Hid; rw [HXe.out, HYe.out]; exact beq_eq_false_iff_ne.2 (fun h => hEq ((Lf.enc_inj HOK.out HOK2.out).1 h))
        have HNE : Hid _ := hEq
        clear hEq
        go_wp2_with (go_at_call 16; refine (num7_u _ _).mono ?_; rintro e w99 ⟨rfl, rfl⟩)
        refine wp_region_held_drew (S := (fun w' : World => w'.cell? ⟨W.heap.size, 0, none⟩ = some (.slice a n c) ∧ w'.cell? ⟨W.heap.size, 1, none⟩ = some (.slice a' n' c') ∧ w'.cell? ⟨W.heap.size + 1, 0, none⟩ = some (.slice e m d) ∧ w'.cell? ⟨W.heap.size + 1, 1, none⟩ = some (.slice e' m' d'))) (by kernel_rfl) (SK.out (Below.refl _ _).drew) (fun hHeld => ?_)
        refine wpAnyH_takeL (i := 0) (v := ?_) rfl rfl (by kernel_rfl) (by kernel_rfl) (by kernel_rfl) (fun _ _ _ h => h) (Or.inl ⟨by rfl, ?_⟩) (by assumption) ?_
        rotate_left
        · intro w hSw
          try dsimp only at hSw
          go_simp
          all_goals with_reducible rfl
        simp only [List.set_cons_zero, List.set_cons_succ]
        refine wpAnyH_takeL (i := 1) (v := ?_) rfl rfl (by kernel_rfl) (by kernel_rfl) (by kernel_rfl) (fun _ _ _ h => h) (Or.inl ⟨by rfl, ?_⟩) (by assumption) ?_
        rotate_left
        · intro w hSw
          try dsimp only at hSw
          go_simp
          all_goals with_reducible rfl
        simp only [List.set_cons_zero, List.set_cons_succ]
        refine wpAnyH_takeL (i := 3) (v := ?_) rfl rfl (by kernel_rfl) (by kernel_rfl) (by kernel_rfl) (fun _ _ _ h => h) (Or.inl ⟨by rfl, ?_⟩) (by assumption) ?_
        rotate_left
        · intro w hSw
          try dsimp only at hSw
          go_simp
          all_goals with_reducible rfl
        simp only [List.set_cons_zero, List.set_cons_succ]
        refine wpAnyH_takeL (i := 5) (v := ?_) rfl rfl (by kernel_rfl) (by kernel_rfl) (by kernel_rfl) (fun _ _ _ h => h) (Or.inl ⟨by rfl, ?_⟩) (by assumption) ?_
        rotate_left
        · intro w hSw
          try dsimp only at hSw
          go_simp
          all_goals with_reducible rfl
        simp only [List.set_cons_zero, List.set_cons_succ]
        refine wpAnyH_ready (rs := [2]) (by kernel_rfl) (by simp) ?_
        refine AllReadyH.cons rfl (fun K hK => ?_) ?_
        · go_simp
          go_at_call 15
          refine Calls.mono (sameBytes_any _ _ _ _ _ _ _ _ _ (Bx_6.out.below (Below.refl _ _).drew) (By_6.out.below (Below.refl _ _).drew)) ?_
          rintro e x2 ⟨rfl, rfl⟩
          rw [HSB.out]
          go_simp
          refine hK.out _ _ ?_ (fun hHeld => ?_)
          · try dsimp only
            exact SK.out (Below.refl _ _).drew
          clear hK K
          refine wpAnyH_ready (rs := [4]) (by kernel_rfl) (by simp) ?_
          refine AllReadyH.cons rfl (fun K hK => ?_) ?_
          · go_simp
            go_at_call 9
            refine Calls.mono (of_u _ _ _ _ _ _ _ _ _ l ks (Rep.below Is_6.out (Below.refl _ _).drew) (Rep.below Ks_6.out (Below.refl _ _).drew)) ?_
            rintro e x4 ⟨v4, u4, rfl, hI4, hK4, b4⟩
            have D4 : Hid (Below w6.heap.size w6 x4) := below_drew_pre0 b4
            obtain ⟨a4, n4, c4, rfl⟩ : ∃ a n c, v4 = .slice a n c := by obtain ⟨a, c, e, -⟩ := hI4.slice; exact ⟨a, _, c, e⟩
            obtain ⟨g4, m4, f4, rfl⟩ : ∃ a n c, u4 = .slice a n c := by obtain ⟨a, c, e, -⟩ := hK4.slice; exact ⟨a, _, c, e⟩
            have HI4 : Hid (OwnI _ _ _ _ _) := hI4
            have HK4 : Hid (OwnK _ _ _ _ _) := hK4
            clear hI4 hK4 b4
            go_simp
            refine hK.out _ _ ?_ (fun hHeld => ?_)
            · try dsimp only
              exact SK.out D4.out
            clear hK K
            refine wpAnyH_ready (rs := [6]) (by kernel_rfl) (by simp) ?_
            refine AllReadyH.cons rfl (fun K hK => ?_) ?_
            · go_simp
              go_at_call 17
              refine Calls.mono (unlike_u _ _ _ _ _ _ _ _ _ _ _ _ _ _ _ _ _ l p ks js (HI4.out.rd HLB.out) (HK4.out.rd HKB.out) (Rep.below It_6.out D4.out) (Rep.below Kt_6.out D4.out) HNE.out) ?_
              rintro e x6 ⟨rfl, b6⟩
              have D6 : Hid (Below w6.heap.size w6 x6) := on D4.out b6
              clear b6
              go_simp
              refine hK.out _ _ ?_ (fun hHeld => ?_)
              · try dsimp only
                exact SK.out D6.out
              clear hK K
              refine wpAnyH_takeL (i := 7) (v := ?_) rfl rfl (by kernel_rfl) (by kernel_rfl) (by kernel_rfl) (fun _ _ _ h => h) (Or.inl ⟨by rfl, ?_⟩) (by assumption) ?_
              rotate_left
              · intro w hSw
                try dsimp only at hSw
                go_simp
                all_goals with_reducible rfl
              simp only [List.set_cons_zero, List.set_cons_succ]
              refine wpAnyH_takeL (i := 8) (v := ?_) rfl rfl (by kernel_rfl) (by kernel_rfl) (by kernel_rfl) (fun _ _ _ h => h) (Or.inl ⟨by rfl, ?_⟩) (by assumption) ?_
              rotate_left
              · intro w hSw
                try dsimp only at hSw
                go_simp
                all_goals with_reducible rfl
              simp only [List.set_cons_zero, List.set_cons_succ]
              refine wpAnyH_takeL (i := 9) (v := ?_) rfl rfl (by kernel_rfl) (by kernel_rfl) (by kernel_rfl) (fun _ _ _ h => h) (Or.inl ⟨by rfl, ?_⟩) (by assumption) ?_
              rotate_left
              · intro w hSw
                try dsimp only at hSw
                go_simp
                all_goals with_reducible rfl
              simp only [List.set_cons_zero, List.set_cons_succ]
              refine wpAnyH_done (by kernel_rfl) ?_ _
              clear hHeld
              go_wp2
              go_ret
              exact ⟨rfl, on B_6.out D6.out⟩
            exact AllReadyH.nil
          exact AllReadyH.nil
        exact AllReadyH.nil

set_option maxRecDepth 100000 in
theorem lapart_lifted (os : Os) (started : os.Started) (H : Type) (enc : TypeId × Value → H) :
    ReturnsInHanded {} Try.checked os 6 .any (Rows.leafApartSpec.pre6 enc Try.prog Try.f6 Rows.leafApartRow.domain false) (Rows.leafApartSpec.post enc Try.prog Try.f6 false true false false) := by
  refine returnsInHanded_of_change_sized (C := Try.checked) own started (by kernel_rfl) Try.func6
    (ChangeSpec.witness6 (enc := enc) (C := Try.checked) false ⟨#[], #[.agg #[.slice none 0 0, .slice none 0 0], .agg #[.slice none 0 0, .slice none 0 0]], []⟩ 8 (by kernel_rfl) (by kernel_rfl) (by kernel_rfl) (by kernel_rfl)) ?_
  intro W base args ds gs before hval0 hW _ hsz0 _
  have hsz : (DataW.weightsEach Try.prog (Try.f6.params.toList ++ Rows.leafApartSpec.plain.varTypes Try.prog) (ds ++ gs)).all (· ≤ reachBytes) = true := hsz0
  clear hsz0
  have hval : ∀ (j : Nat) t v, Try.f6.params[j]? = some t → args[j]? = some v → Value.okWide Try.prog W .any base t v := hval0
  have hW' := hW
  obtain ⟨p, q, hA0, hV, rfl, hfz, hnd⟩ := hW
  have hA : DataW.TrodAll enc Try.prog W 0 (fun _ => true) true Try.f6.params.toList args.toList ds p := hA0
  rw [Try.params6] at hA hval hsz
  obtain ⟨v0, vs0, d0, ds0, p0, q0, hargs, rfl, rfl, h0, r0⟩ := trodAll_cons hA
  obtain ⟨v1, vs1, d1, ds1, p1, q1, rfl, rfl, rfl, h1, r1⟩ := trodAll_cons r0
  obtain ⟨rfl, rfl, rfl⟩ := trodAll_nil r1
  obtain rfl : args = #[v0, v1] := by cases args; simp_all
  obtain ⟨rfl, rfl⟩ := trodVars_none hV
  obtain ⟨c0, rfl, -⟩ := okWide_struct Try.underlying25 (hval 0 25 v0 rfl rfl)
  have k0 := h0
  have lt0 : ∀ x ∈ p0, x.block < W.heap.size := by obtain ⟨m, hm⟩ := k0; exact DataW.trod_lt m _ _ _ hm
  obtain ⟨x0, hx0⟩ := opens_node.arg h0 hsz (j := 0) rfl rfl
  obtain ⟨c1, rfl, -⟩ := okWide_struct Try.underlying25 (hval 1 25 v1 rfl rfl)
  have k1 := h1
  have lt1 : ∀ x ∈ p1, x.block < W.heap.size := by obtain ⟨m, hm⟩ := k1; exact DataW.trod_lt m _ _ _ hm
  obtain ⟨x1, hx1⟩ := opens_node.arg h1 hsz (j := 1) rfl rfl
  clear hA0 hval0
  refine (lapart_walk c0.toList x0 c1.toList x1 W hx0 hx1).mono fun e W' ⟨he, bel⟩ => ?_
  subst he
  exact ⟨_, rfl, _, _, _, [], _, [], hW', trodAll_mk1 (shut_bool Try.underlying4 _), (trodAll_cons_mk (Below.trod laidOut (by kernel_rfl) (of_decide_eq_true (by kernel_rfl)) k0 bel lt0) (trodAll_cons_mk (Below.trod laidOut (by kernel_rfl) (of_decide_eq_true (by kernel_rfl)) k1 bel lt1) trodAll_mk0)), rfl, bel.frame _, fun h => by cases h⟩

theorem leafApart_holds : Rows.LeafApartSaid :=
  OpenClaim.holds_of_wide 6 Try.f6 rfl rfl rfl rfl rfl rfl rfl ⟨rfl, rfl, rfl, rfl, rfl⟩ rfl rfl rfl rfl rfl (by kernel_rfl) Try.func6 (by kernel_rfl)
    (of_decide_eq_true (by kernel_rfl)) (by unfold Func.isWrapper; first | (rw [if_pos (by decide +kernel)]; kernel_rfl) | (rw [if_neg (by decide +kernel)]; exact ⟨rfl, rfl⟩))
    (fun os started H enc _ => lapart_lifted os started H enc)

end Go.Proofs.Ytbglgplfjhiafaa
