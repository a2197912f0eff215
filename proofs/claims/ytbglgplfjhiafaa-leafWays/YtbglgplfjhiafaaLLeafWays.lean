/-
  A key leads behind all items that are at most it, and ahead of all others, in a node that may be. Conditions: none.
-/
import Derived.Test.YtbglgplfjhiafaaIAlive
import Derived.Test.YtbglgplfjhiafaaIFrame
import Derived.Test.YtbglgplfjhiafaaIChk
namespace Go.Proofs.Ytbglgplfjhiafaa
open Go.ChangeShapes Go.WideShapes Go.ChangeAt Go.RowKit
set_option linter.unusedVariables false

set_option maxRecDepth 20000 in
set_option maxHeartbeats 8000000 in
theorem lways_walk (cs : List Value) (s : Nod) (key : Int) (W : World) (h0 : rNod.rd W (fun b => b < W.heap.size) cs s) (hk0 : 0 ≤ key) (hk1 : key ≤ 18446744073709551615) :
    Calls Try.prog 7 #[.agg cs.toArray, .int .u64 key] W fun e W' => e = .returned (.bool true) ∧ Below W.heap.size W W' := by
  obtain ⟨K, rfl⟩ : ∃ K : UInt64, key = (K.toNat : Int) := ⟨UInt64.ofNat key.toNat, by rw [UInt64.toNat_ofNat']; omega⟩
  clear hk0 hk1
  obtain ⟨a, n, c, a', n', c', rfl, hL, hK⟩ := rNod_rd h0
  obtain ⟨l, ks⟩ := s
  simp only at hL hK
  have HN : Hid (l.length = n) := (rList_len hL).1
  have HN' : Hid (ks.length = n') := (rList_len hK).1
  have HLB : Hid (l.length ≤ 8796093021952) := by unfold Hid; rw [HN.out]; have h : n * 16 ≤ 140737488351232 := (rList_len hL).2.2.2; omega
  have HKB : Hid (ks.length ≤ 17592186043904) := by unfold Hid; rw [HN'.out]; have h : n' * 8 ≤ 140737488351232 := (rList_len hK).2.2.2; omega
  rw [show ([.slice a n c, .slice a' n' c'] : List Value).toArray = #[.slice a n c, .slice a' n' c'] from rfl]
  obtain ⟨w1, hw1, V1, b1, z1⟩ := boxedRow W 25 [.slice a n c, .slice a' n' c']
  have Rs_1 : Hid (Row w1 (W.heap.size) 25 [.slice a n c, .slice a' n' c']) := V1
  have B_1 : Hid (Below W.heap.size W w1) := b1
  have Is_1 : Hid (rItms.rd w1 (fun b => b < W.heap.size) [.slice a n c] (l)) := Rep.below hL b1
  have Ks_1 : Hid (rKids.rd w1 (fun b => b < W.heap.size) [.slice a' n' c'] (ks)) := Rep.below hK b1
  clear V1 b1 z1 hL hK h0
  go_enter Try.func7, Try.ntmps7
  go_wp2_with fail
  refine (alive7_u _).mono ?_
  rintro e w2 ⟨rfl, b2⟩
  have Rs_2 : Hid (Row w2 (W.heap.size) 25 [.slice a n c, .slice a' n' c']) := Rs_1.out.below (b2)
  have Is_2 : Hid (rItms.rd w2 (fun b => b < W.heap.size) [.slice a n c] (l)) := Rep.below Is_1.out (b2)
  have Ks_2 : Hid (rKids.rd w2 (fun b => b < W.heap.size) [.slice a' n' c'] (ks)) := Rep.below Ks_1.out (b2)
  have B_2 : Hid (Below W.heap.size W w2) := on B_1.out (b2)
  clear Rs_1 Is_1 Ks_1
  clear b2
  obtain ⟨qs0, qs1⟩ := Rs_2.out.two
  cases hok : Lf.ok (l, ks)
  · have HE : Hid (Lf.encodeE (l, ks) = 9) := by unfold Hid Lf.encodeE; rw [hok]; rfl
    clear hok
    go_wp2_with (go_at_call 16; refine (num7_u _ _).mono ?_; rintro e w99 ⟨rfl, rfl⟩)
    refine (refCheck_u _ _ _ _ _ _ _ _ _ l ks Is_2.out Ks_2.out).mono ?_
    rintro e w3 ⟨rfl, b3⟩
    rw [HE.out]
    have Rs_3 : Hid (Row w3 (W.heap.size) 25 [.slice a n c, .slice a' n' c']) := Rs_2.out.below (b3)
    have Is_3 : Hid (rItms.rd w3 (fun b => b < W.heap.size) [.slice a n c] (l)) := Rep.below Is_2.out (b3)
    have Ks_3 : Hid (rKids.rd w3 (fun b => b < W.heap.size) [.slice a' n' c'] (ks)) := Rep.below Ks_2.out (b3)
    have B_3 : Hid (Below W.heap.size W w3) := on B_2.out (b3)
    clear qs0 qs1
    clear Rs_2 Is_2 Ks_2
    clear b3
    obtain ⟨qs0, qs1⟩ := Rs_3.out.two
    go_wp2_with (go_at_call 16; refine (num7_u _ _).mono ?_; rintro e w99 ⟨rfl, rfl⟩)
    refine (of_u _ _ _ _ _ _ _ _ _ l ks Is_3.out Ks_3.out).mono ?_
    rintro e w4 ⟨v4, u4, rfl, hI4, hK4, b4⟩
    obtain ⟨ao, no, co, rfl⟩ : ∃ a n c, v4 = .slice a n c := by obtain ⟨a, c, e, -⟩ := hI4.slice; exact ⟨a, _, c, e⟩
    obtain ⟨go, mo, fo, rfl⟩ : ∃ a n c, u4 = .slice a n c := by obtain ⟨a, c, e, -⟩ := hK4.slice; exact ⟨a, _, c, e⟩
    have Io_4 : Hid (rItms.rd w4 (fun b => w3.heap.size ≤ b) [.slice ao no co] (l)) := hI4.rd (HLB.out)
    have Ko_4 : Hid (rKids.rd w4 (fun b => w3.heap.size ≤ b) [.slice go mo fo] (ks)) := hK4.rd (HKB.out)
    have Rs_4 : Hid (Row w4 (W.heap.size) 25 [.slice a n c, .slice a' n' c']) := Rs_3.out.below (b4)
    have Is_4 : Hid (rItms.rd w4 (fun b => b < W.heap.size) [.slice a n c] (l)) := Rep.below Is_3.out (b4)
    have Ks_4 : Hid (rKids.rd w4 (fun b => b < W.heap.size) [.slice a' n' c'] (ks)) := Rep.below Ks_3.out (b4)
    have B_4 : Hid (Below W.heap.size W w4) := on B_3.out (b4)
    clear qs0 qs1
    clear Rs_3 Is_3 Ks_3
    clear hI4 hK4 b4
    go_wp2_with (go_at_call 16; refine (num7_u _ _).mono ?_; rintro e w99 ⟨rfl, rfl⟩)
    refine (check_u _ _ _ _ _ _ _ _ _ l ks Io_4.out Ko_4.out).mono ?_
    rintro e w5 ⟨rfl, b5⟩
    rw [HE.out]
    have Rs_5 : Hid (Row w5 (W.heap.size) 25 [.slice a n c, .slice a' n' c']) := Rs_4.out.below (b5)
    have Is_5 : Hid (rItms.rd w5 (fun b => b < W.heap.size) [.slice a n c] (l)) := Rep.below Is_4.out (b5)
    have Ks_5 : Hid (rKids.rd w5 (fun b => b < W.heap.size) [.slice a' n' c'] (ks)) := Rep.below Ks_4.out (b5)
    have Io_5 : Hid (rItms.rd w5 (fun b => w3.heap.size ≤ b) [.slice ao no co] (l)) := Rep.below Io_4.out (b5)
    have Ko_5 : Hid (rKids.rd w5 (fun b => w3.heap.size ≤ b) [.slice go mo fo] (ks)) := Rep.below Ko_4.out (b5)
    have B_5 : Hid (Below W.heap.size W w5) := on B_4.out (b5)
    clear Rs_4 Is_4 Ks_4 Io_4 Ko_4
    clear b5
    go_wp2_with (go_at_call 16; refine (num7_u _ _).mono ?_; rintro e w99 ⟨rfl, rfl⟩)
    go_ret
    exact ⟨rfl, B_5.out⟩
  · have HE : Hid (Lf.encodeE (l, ks) = 0) := if_pos hok
    have HRi : Hid _ := (Lf.ok_iff.1 hok).rises
    clear hok
    go_wp2_with (go_at_call 16; refine (num7_u _ _).mono ?_; rintro e w99 ⟨rfl, rfl⟩)
    refine (refCheck_u _ _ _ _ _ _ _ _ _ l ks Is_2.out Ks_2.out).mono ?_
    rintro e w6 ⟨rfl, b6⟩
    rw [HE.out]
    have Rs_6 : Hid (Row w6 (W.heap.size) 25 [.slice a n c, .slice a' n' c']) := Rs_2.out.below (b6)
    have Is_6 : Hid (rItms.rd w6 (fun b => b < W.heap.size) [.slice a n c] (l)) := Rep.below Is_2.out (b6)
    have Ks_6 : Hid (rKids.rd w6 (fun b => b < W.heap.size) [.slice a' n' c'] (ks)) := Rep.below Ks_2.out (b6)
    have B_6 : Hid (Below W.heap.size W w6) := on B_2.out (b6)
    clear qs0 qs1
    clear Rs_2 Is_2 Ks_2
    clear b6
    obtain ⟨qs0, qs1⟩ := Rs_6.out.two
    go_wp2_with (go_at_call 16; refine (num7_u _ _).mono ?_; rintro e w99 ⟨rfl, rfl⟩)
    refine (of_u _ _ _ _ _ _ _ _ _ l ks Is_6.out Ks_6.out).mono ?_
    rintro e w7 ⟨v7, u7, rfl, hI7, hK7, b7⟩
    obtain ⟨ao, no, co, rfl⟩ : ∃ a n c, v7 = .slice a n c := by obtain ⟨a, c, e, -⟩ := hI7.slice; exact ⟨a, _, c, e⟩
    obtain ⟨go, mo, fo, rfl⟩ : ∃ a n c, u7 = .slice a n c := by obtain ⟨a, c, e, -⟩ := hK7.slice; exact ⟨a, _, c, e⟩
    have Io_7 : Hid (rItms.rd w7 (fun b => w6.heap.size ≤ b) [.slice ao no co] (l)) := hI7.rd (HLB.out)
    have Ko_7 : Hid (rKids.rd w7 (fun b => w6.heap.size ≤ b) [.slice go mo fo] (ks)) := hK7.rd (HKB.out)
    have Rs_7 : Hid (Row w7 (W.heap.size) 25 [.slice a n c, .slice a' n' c']) := Rs_6.out.below (b7)
    have Is_7 : Hid (rItms.rd w7 (fun b => b < W.heap.size) [.slice a n c] (l)) := Rep.below Is_6.out (b7)
    have Ks_7 : Hid (rKids.rd w7 (fun b => b < W.heap.size) [.slice a' n' c'] (ks)) := Rep.below Ks_6.out (b7)
    have B_7 : Hid (Below W.heap.size W w7) := on B_6.out (b7)
    clear qs0 qs1
    clear Rs_6 Is_6 Ks_6
    clear hI7 hK7 b7
    go_wp2_with (go_at_call 16; refine (num7_u _ _).mono ?_; rintro e w99 ⟨rfl, rfl⟩)
    refine (way_u _ _ _ _ _ _ l ks Io_7.out K).mono ?_
    rintro e w8 ⟨rfl, b8⟩
    have Rs_8 : Hid (Row w8 (W.heap.size) 25 [.slice a n c, .slice a' n' c']) := Rs_7.out.below (b8)
    have Is_8 : Hid (rItms.rd w8 (fun b => b < W.heap.size) [.slice a n c] (l)) := Rep.below Is_7.out (b8)
    have Ks_8 : Hid (rKids.rd w8 (fun b => b < W.heap.size) [.slice a' n' c'] (ks)) := Rep.below Ks_7.out (b8)
    have Io_8 : Hid (rItms.rd w8 (fun b => w6.heap.size ≤ b) [.slice ao no co] (l)) := Rep.below Io_7.out (b8)
    have Ko_8 : Hid (rKids.rd w8 (fun b => w6.heap.size ≤ b) [.slice go mo fo] (ks)) := Rep.below Ko_7.out (b8)
    have B_8 : Hid (Below W.heap.size W w8) := on B_7.out (b8)
    clear Rs_7 Is_7 Ks_7 Io_7 Ko_7
    clear b8
    obtain ⟨q, hq⟩ : ∃ q, q = Lf.way (l, ks) K := ⟨_, rfl⟩
    rw [← hq]
    obtain ⟨g1, g2⟩ := Lf.way_splits HRi.out K
    have hqe : q = (l.filter fun x => decide (x.1.toNat ≤ K.toNat)).length := hq
    rw [← hqe] at g1 g2
    have HG : Hid _ := g2
    have hqn : q ≤ n := by rw [← HN.out]; exact g1
    have hnb : n ≤ 8796093021952 := by rw [← HN.out]; exact HLB.out
    clear hq hqe g1 g2
    obtain ⟨qs0, qs1⟩ := Rs_8.out.two
    have hq0 : (0 : Int) ≤ (q : Int) := by omega
    have hq1 : (q : Int) ≤ (n : Int) := by omega
    by_cases z0 : q = 0
    · have y0 : ((q : Int) == 0) = true := beq_iff_eq.2 (by omega)
      by_cases z1 : q = n
      · have y1 : ((q : Int) == (n : Int)) = true := beq_iff_eq.2 (by omega)
        clear z0 z1
        go_wp2
        go_ret
        exact ⟨rfl, B_8.out⟩
      · have y1 : ((q : Int) == (n : Int)) = false := beq_eq_false_iff_ne.2 (by omega)
        obtain ⟨g, off, rfl, -, -, hat⟩ := rItms_at Is_8.out (by omega)
        have hql : q < l.length := by rw [HN.out]; omega
        obtain ⟨c0, -⟩ := hat q hql
        have hgt : ¬ l[q].1.toNat ≤ K.toNat := fun h => by have := (HG.out q hql).2 h; omega
        have hgz : (l[q].1.toNat : Int) > (K.toNat : Int) := by omega
        have hqz : (q : Int) < (n : Int) := by omega
        obtain ⟨Y, hY⟩ : ∃ Y, Y = l[q] := ⟨_, rfl⟩
        rw [← hY] at c0 hgt hgz
        clear hat hY z0 z1 hql
        go_wp2
        go_ret
        exact ⟨rfl, B_8.out⟩
    · have y0 : ((q : Int) == 0) = false := beq_eq_false_iff_ne.2 (by omega)
      obtain ⟨g, off, rfl, -, -, hat⟩ := rItms_at Is_8.out (by omega)
      have hqp : q - 1 < l.length := by rw [HN.out]; omega
      obtain ⟨p0, -⟩ := hat (q - 1) hqp
      have hle : l[q - 1].1.toNat ≤ K.toNat := (HG.out (q - 1) hqp).1 (by omega)
      have hlez : (l[q - 1].1.toNat : Int) ≤ (K.toNat : Int) := by omega
      have k1z : ((q : Int) - 1).toNat = q - 1 := by omega
      have k2z : (0 : Int) ≤ (q : Int) - 1 := by omega
      have k3z : (q : Int) - 1 < (n : Int) := by omega
      obtain ⟨Z, hZ⟩ : ∃ Z, Z = l[q - 1] := ⟨_, rfl⟩
      rw [← hZ] at p0 hle hlez
      by_cases z1 : q = n
      · have y1 : ((q : Int) == (n : Int)) = true := beq_iff_eq.2 (by omega)
        clear hat hZ z0 z1 hqp
        go_wp2
        go_ret
        exact ⟨rfl, B_8.out⟩
      · have y1 : ((q : Int) == (n : Int)) = false := beq_eq_false_iff_ne.2 (by omega)
        have hql : q < l.length := by rw [HN.out]; omega
        obtain ⟨c0, -⟩ := hat q hql
        have hgt : ¬ l[q].1.toNat ≤ K.toNat := fun h => by have := (HG.out q hql).2 h; omega
        have hgz : (l[q].1.toNat : Int) > (K.toNat : Int) := by omega
        have hqz : (q : Int) < (n : Int) := by omega
        obtain ⟨Y, hY⟩ : ∃ Y, Y = l[q] := ⟨_, rfl⟩
        rw [← hY] at c0 hgt hgz
        clear hat hY hZ z0 z1 hql hqp
        go_wp2
        go_ret
        exact ⟨rfl, B_8.out⟩

set_option maxRecDepth 100000 in
theorem lways_lifted (os : Os) (started : os.Started) (H : Type) (enc : TypeId × Value → H) :
    ReturnsInHanded {} Try.checked os 7 .any (Rows.leafWaysSpec.pre6 enc Try.prog Try.f7 Rows.leafWaysRow.domain false) (Rows.leafWaysSpec.post enc Try.prog Try.f7 false true false false) := by
  refine returnsInHanded_of_change_sized (C := Try.checked) own started (by kernel_rfl) Try.func7
    (ChangeSpec.witness6 (enc := enc) (C := Try.checked) false ⟨#[], #[.agg #[.slice none 0 0, .slice none 0 0], .int .u64 0], []⟩ 8 (by kernel_rfl) (by kernel_rfl) (by kernel_rfl) (by kernel_rfl)) ?_
  intro W base args ds gs before hval0 hW _ hsz0 _
  have hsz : (DataW.weightsEach Try.prog (Try.f7.params.toList ++ Rows.leafWaysSpec.plain.varTypes Try.prog) (ds ++ gs)).all (· ≤ reachBytes) = true := hsz0
  clear hsz0
  have hval : ∀ (j : Nat) t v, Try.f7.params[j]? = some t → args[j]? = some v → Value.okWide Try.prog W .any base t v := hval0
  have hW' := hW
  obtain ⟨p, q, hA0, hV, rfl, hfz, hnd⟩ := hW
  have hA : DataW.TrodAll enc Try.prog W 0 (fun _ => true) true Try.f7.params.toList args.toList ds p := hA0
  rw [Try.params7] at hA hval hsz
  obtain ⟨v0, vs0, d0, ds0, p0, q0, hargs, rfl, rfl, h0, r0⟩ := trodAll_cons hA
  obtain ⟨v1, vs1, d1, ds1, p1, q1, rfl, rfl, rfl, h1, r1⟩ := trodAll_cons r0
  obtain ⟨rfl, rfl, rfl⟩ := trodAll_nil r1
  obtain rfl : args = #[v0, v1] := by cases args; simp_all
  obtain ⟨rfl, rfl⟩ := trodVars_none hV
  obtain ⟨c0, rfl, -⟩ := okWide_struct Try.underlying25 (hval 0 25 v0 rfl rfl)
  have k0 := h0
  have lt0 : ∀ x ∈ p0, x.block < W.heap.size := by obtain ⟨m, hm⟩ := k0; exact DataW.trod_lt m _ _ _ hm
  obtain ⟨x0, hx0⟩ := opens_node.arg h0 hsz (j := 0) rfl rfl
  obtain ⟨a1, rfl, rfl, rfl, w1⟩ := open_int Try.underlying27 (hval 1 27 v1 rfl rfl) h1
  have i1 := bounds_u64 w1
  clear hA0 hval0
  refine (lways_walk c0.toList x0 a1 W hx0 (by omega) (by omega)).mono fun e W' ⟨he, bel⟩ => ?_
  subst he
  exact ⟨_, rfl, _, _, _, [], _, [], hW', trodAll_mk1 (shut_bool Try.underlying4 _), (trodAll_cons_mk (Below.trod laidOut (by kernel_rfl) (of_decide_eq_true (by kernel_rfl)) k0 bel lt0) (trodAll_cons_mk (shut_int Try.underlying27 w1) trodAll_mk0)), rfl, bel.frame _, fun h => by cases h⟩

theorem leafWays_holds : Rows.LeafWaysSaid :=
  OpenClaim.holds_of_wide 7 Try.f7 rfl rfl rfl rfl rfl rfl rfl ⟨rfl, rfl, rfl, rfl, rfl⟩ rfl rfl rfl rfl rfl (by kernel_rfl) Try.func7 (by kernel_rfl)
    (of_decide_eq_true (by kernel_rfl)) (by unfold Func.isWrapper; first | (rw [if_pos (by decide +kernel)]; kernel_rfl) | (rw [if_neg (by decide +kernel)]; exact ⟨rfl, rfl⟩))
    (fun os started H enc _ => lways_lifted os started H enc)

end Go.Proofs.Ytbglgplfjhiafaa
