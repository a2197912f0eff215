/-
  Octets that are not one page are none. Conditions: none.
-/
import Derived.Test.YtbglgplfjhiafabIAlive
import Derived.Test.YtbglgplfjhiafabIFrame
import Derived.Test.YtbglgplfjhiafabJDec
import Derived.Test.YtbglgplfjhiafabSTurn
import Derived.Test.YtbglgplfjhiafabBCopy
namespace Go.Proofs.Ytbglgplfjhiafab
open Go.ChangeShapes Go.WideShapes Go.ChangeAt Go.RowKit
set_option linter.unusedVariables false

set_option maxRecDepth 20000 in
set_option maxHeartbeats 8000000 in
theorem lshort_walk (cs : List Value) (s : Nod) (at_ : Int) (W : World) (h0 : rNod.rd W (fun b => b < W.heap.size) cs s) (hp1 : -9223372036854775808 ≤ at_) (hp2 : at_ ≤ 9223372036854775807) :
    Calls Try.prog 3 #[.agg cs.toArray, .int .i64 at_] W fun e W' => e = .returned (.bool true) ∧ Below W.heap.size W W' := by
  obtain ⟨a, n, c, a', n', c', rfl, hL, hK⟩ := rNod_rd h0
  obtain ⟨l, ks⟩ := s
  simp only at hL hK
  have HN : Hid (l.length = n) := (rList_len hL).1
  have HN' : Hid (ks.length = n') := (rList_len hK).1
  have HLB : Hid (l.length ≤ 8796093021952) := by unfold Hid; rw [HN.out]; have h : n * 16 ≤ 140737488351232 := (rList_len hL).2.2.2; omega
  have HKB : Hid (ks.length ≤ 17592186043904) := by unfold Hid; rw [HN'.out]; have h : n' * 8 ≤ 140737488351232 := (rList_len hK).2.2.2; omega
  rw [show ([.slice a n c, .slice a' n' c'] : List Value).toArray = #[.slice a n c, .slice a' n' c'] from rfl]
  obtain ⟨w1, hw1, V1, b1, z1⟩ := boxedRow W 25 [.slice a n c, .slice a' n' c']
  have Rs_1 : Hid (Row w1 (W.heap.size) 25 [.slice a n c, .slice a' n' c']) := V1
  have B_1 : Hid (Below W.heap.size W w1) := b1
  have Is_1 : Hid (rItms.rd w1 (fun b => b < W.heap.size) [.slice a n c] (l)) := Rep.below hL b1
  have Ks_1 : Hid (rKids.rd w1 (fun b => b < W.heap.size) [.slice a' n' c'] (ks)) := Rep.below hK b1
  clear V1 b1 z1 hL hK h0
  go_enter Try.func3, Try.ntmps3
  go_wp2_with fail
  refine (alive7_u _).mono ?_
  rintro e w2 ⟨rfl, b2⟩
  have Rs_2 : Hid (Row w2 (W.heap.size) 25 [.slice a n c, .slice a' n' c']) := Rs_1.out.below (b2)
  have Is_2 : Hid (rItms.rd w2 (fun b => b < W.heap.size) [.slice a n c] (l)) := Rep.below Is_1.out (b2)
  have Ks_2 : Hid (rKids.rd w2 (fun b => b < W.heap.size) [.slice a' n' c'] (ks)) := Rep.below Ks_1.out (b2)
  have B_2 : Hid (Below W.heap.size W w2) := on B_1.out (b2)
  clear Rs_1 Is_1 Ks_1
  clear b2
  obtain ⟨qs0, qs1⟩ := Rs_2.out.two
  go_wp2_with (go_at_call 7; refine (num7_u _ _).mono ?_; rintro e w99 ⟨rfl, rfl⟩)
  refine (of_u _ _ _ _ _ _ _ _ _ l ks Is_2.out Ks_2.out).mono ?_
  rintro e w3 ⟨v3, u3, rfl, hI3, hK3, b3⟩
  obtain ⟨ao, no, co, rfl⟩ : ∃ a n c, v3 = .slice a n c := by obtain ⟨a, c, e, -⟩ := hI3.slice; exact ⟨a, _, c, e⟩
  obtain ⟨go, mo, fo, rfl⟩ : ∃ a n c, u3 = .slice a n c := by obtain ⟨a, c, e, -⟩ := hK3.slice; exact ⟨a, _, c, e⟩
  have Io_3 : Hid (rItms.rd w3 (fun b => w2.heap.size ≤ b) [.slice ao no co] (l)) := hI3.rd (HLB.out)
  have Ko_3 : Hid (rKids.rd w3 (fun b => w2.heap.size ≤ b) [.slice go mo fo] (ks)) := hK3.rd (HKB.out)
  have Rs_3 : Hid (Row w3 (W.heap.size) 25 [.slice a n c, .slice a' n' c']) := Rs_2.out.below (b3)
  have Is_3 : Hid (rItms.rd w3 (fun b => b < W.heap.size) [.slice a n c] (l)) := Rep.below Is_2.out (b3)
  have Ks_3 : Hid (rKids.rd w3 (fun b => b < W.heap.size) [.slice a' n' c'] (ks)) := Rep.below Ks_2.out (b3)
  have B_3 : Hid (Below W.heap.size W w3) := on B_2.out (b3)
  clear qs0 qs1
  clear Rs_2 Is_2 Ks_2
  clear hI3 hK3 b3
  cases hok : Lf.ok (l, ks)
  · have HOK : Hid _ := hok
    clear hok
    go_wp2_with (go_at_call 7; refine (num7_u _ _).mono ?_; rintro e w99 ⟨rfl, rfl⟩)
    refine (encode_u _ _ _ _ _ _ _ _ _ l ks Io_3.out Ko_3.out).mono ?_
    rintro e w4 ⟨xx, yx, zx, rfl, ho4, b4⟩
    rw [show Lf.encodeE (l, ks) = 9 by unfold Lf.encodeE; rw [HOK.out]; rfl]
    rw [show Lf.encodeL (l, ks) = [] by unfold Lf.encodeL; rw [HOK.out]; rfl] at ho4
    obtain rfl : yx = 0 := (owns_len ho4).trans (rfl)
    obtain ⟨hx4, hy4, hz4⟩ := owns_isB ho4
    have Bx_4 : Hid (IsB w4 (xx) (0) ([])) := hx4
    have HCx : Hid (0 ≤ zx) := hy4
    have HZx : Hid (xx = none → zx = 0) := hz4
    have Rs_4 : Hid (Row w4 (W.heap.size) 25 [.slice a n c, .slice a' n' c']) := Rs_3.out.below (b4)
    have Is_4 : Hid (rItms.rd w4 (fun b => b < W.heap.size) [.slice a n c] (l)) := Rep.below Is_3.out (b4)
    have Ks_4 : Hid (rKids.rd w4 (fun b => b < W.heap.size) [.slice a' n' c'] (ks)) := Rep.below Ks_3.out (b4)
    have Io_4 : Hid (rItms.rd w4 (fun b => w2.heap.size ≤ b) [.slice ao no co] (l)) := Rep.below Io_3.out (b4)
    have Ko_4 : Hid (rKids.rd w4 (fun b => w2.heap.size ≤ b) [.slice go mo fo] (ks)) := Rep.below Ko_3.out (b4)
    have B_4 : Hid (Below W.heap.size W w4) := on B_3.out (b4)
    clear Rs_3 Is_3 Ks_3 Io_3 Ko_3
    clear hx4 hy4 hz4 ho4 b4
    go_wp2_with (go_at_call 7; refine (num7_u _ _).mono ?_; rintro e w99 ⟨rfl, rfl⟩)
    go_ret
    exact ⟨rfl, B_4.out⟩
  · have HOK : Hid _ := hok
    clear hok
    go_wp2_with (go_at_call 7; refine (num7_u _ _).mono ?_; rintro e w99 ⟨rfl, rfl⟩)
    refine (encode_u _ _ _ _ _ _ _ _ _ l ks Io_3.out Ko_3.out).mono ?_
    rintro e w5 ⟨xx, yx, zx, rfl, ho5, b5⟩
    rw [show Lf.encodeE (l, ks) = 0 from if_pos HOK.out]
    rw [show Lf.encodeL (l, ks) = Lf.enc (l, ks) from if_pos HOK.out] at ho5
    obtain rfl : yx = 64 := (owns_len ho5).trans (Lf.enc_len (Lf.ok_iff.1 HOK.out))
    obtain ⟨hx5, hy5, hz5⟩ := owns_isB ho5
    have Bx_5 : Hid (IsB w5 (xx) (64) (Lf.enc (l, ks))) := hx5
    have HCx : Hid (64 ≤ zx) := hy5
    have HZx : Hid (xx = none → zx = 0) := hz5
    have Rs_5 : Hid (Row w5 (W.heap.size) 25 [.slice a n c, .slice a' n' c']) := Rs_3.out.below (b5)
    have Is_5 : Hid (rItms.rd w5 (fun b => b < W.heap.size) [.slice a n c] (l)) := Rep.below Is_3.out (b5)
    have Ks_5 : Hid (rKids.rd w5 (fun b => b < W.heap.size) [.slice a' n' c'] (ks)) := Rep.below Ks_3.out (b5)
    have Io_5 : Hid (rItms.rd w5 (fun b => w2.heap.size ≤ b) [.slice ao no co] (l)) := Rep.below Io_3.out (b5)
    have Ko_5 : Hid (rKids.rd w5 (fun b => w2.heap.size ≤ b) [.slice go mo fo] (ks)) := Rep.below Ko_3.out (b5)
    have B_5 : Hid (Below W.heap.size W w5) := on B_3.out (b5)
    clear Rs_3 Is_3 Ks_3 Io_3 Ko_3
    clear hx5 hy5 hz5 ho5 b5
    clear Io_5 Ko_5 Rs_5 Is_5 Ks_5
    have HL : Hid ((Lf.enc (l, ks)).length = 64) := Lf.enc_len (Lf.ok_iff.1 HOK.out)
    obtain ⟨xb, xo, rfl, -⟩ := Bx_5.out.place (by decide)
    obtain ⟨K, hK, hKe⟩ := turn_at at_
    have hKc : (K : Int) ≤ (zx : Int) := by have := HCx.out; omega
    have Bk_5 : Hid (IsB w5 (some ⟨xb, xo, none⟩) (K) ((Lf.enc (l, ks)).take K)) := Bx_5.out.head K (by omega) (by decide)
    have HT : Hid _ := Lf.decode_length (b := (Lf.enc (l, ks)).take K) (by rw [List.length_take, HL.out]; omega)
    have HT2 : Hid _ := Lf.decode_length (b := Lf.enc (l, ks) ++ [0]) (by rw [List.length_append, HL.out]; decide)
    go_wp2_with (go_at_call 7; refine (num7_u _ _).mono ?_; rintro e w99 ⟨rfl, rfl⟩)
    refine (decode_u _ _ K zx _ (by omega) (by have := HCx.out; omega) (fun h => by cases h) Bk_5.out).mono ?_
    rintro e w6 ⟨v6, u6, rfl, hI6, hK6, b6⟩
    rw [HT.out.1]
    rw [HT.out.2] at hI6 hK6
    obtain ⟨am, nm, cm, rfl⟩ : ∃ a n c, v6 = .slice a n c := by obtain ⟨a, c, e, -⟩ := hI6.slice; exact ⟨a, _, c, e⟩
    obtain ⟨gm, mm, fm, rfl⟩ : ∃ a n c, u6 = .slice a n c := by obtain ⟨a, c, e, -⟩ := hK6.slice; exact ⟨a, _, c, e⟩
    have Im_6 : Hid (rItms.rd w6 (fun b => w5.heap.size ≤ b) [.slice am nm cm] ([])) := hI6.rd (by simp)
    have Km_6 : Hid (rKids.rd w6 (fun b => w5.heap.size ≤ b) [.slice gm mm fm] ([])) := hK6.rd (by simp)
    have Bx_6 : Hid (IsB w6 (some ⟨xb, xo, none⟩) (64) (Lf.enc (l, ks))) := Bx_5.out.below (b6)
    have Bk_6 : Hid (IsB w6 (some ⟨xb, xo, none⟩) (K) ((Lf.enc (l, ks)).take K)) := Bk_5.out.below (b6)
    have B_6 : Hid (Below W.heap.size W w6) := on B_5.out (b6)
    clear Bx_5 Bk_5
    clear hI6 hK6 b6
    obtain ⟨w7, hw7, V7, b7, z7⟩ := boxedRow w6 31 [.slice am nm cm, .slice gm mm fm]
    have Rm_7 : Hid (Row w7 (w6.heap.size) 31 [.slice am nm cm, .slice gm mm fm]) := V7
    have Bx_7 : Hid (IsB w7 (some ⟨xb, xo, none⟩) (64) (Lf.enc (l, ks))) := Bx_6.out.below (b7)
    have Bk_7 : Hid (IsB w7 (some ⟨xb, xo, none⟩) (K) ((Lf.enc (l, ks)).take K)) := Bk_6.out.below (b7)
    have Im_7 : Hid (rItms.rd w7 (fun b => w5.heap.size ≤ b) [.slice am nm cm] ([])) := Rep.below Im_6.out (b7)
    have Km_7 : Hid (rKids.rd w7 (fun b => w5.heap.size ≤ b) [.slice gm mm fm] ([])) := Rep.below Km_6.out (b7)
    have B_7 : Hid (Below W.heap.size W w7) := on B_6.out (b7)
    clear Bx_6 Bk_6 Im_6 Km_6
    clear V7 b7 z7
    clear Rm_7 Im_7 Km_7 Bk_7
    go_wp2_with (go_at_call 7; refine (num7_u _ _).mono ?_; rintro e w99 ⟨rfl, rfl⟩)
    refine (copy_u _ _ 64 zx _ (by decide) (fun h => by cases h) Bx_7.out).mono ?_
    rintro e w8 ⟨ca, cc, rfl, ho4, b4⟩
    have B24 : Hid (Below W.heap.size W w8) := on B_7.out b4
    have ho5 : (w8.alloc (.cells #[.int .u8 0] 5)).ownsRow w7.heap.size 5 1 (.slice ca 64 cc) 64 (cellsOf (Lf.enc (l, ks))) := owns_below ho4 ((Below.refl _ _).alloc (Nat.le_refl _) _)
    have HO5 : Hid (World.ownsRow _ _ _ _ _ _ _) := ho5
    have B25 : Hid (Below W.heap.size W (w8.alloc (.cells #[.int .u8 0] 5))) := below_alloc0 B24.out _
    have hsz : w7.heap.size ≤ (w8.alloc (.cells #[.int .u8 0] 5)).heap.size := Nat.le_trans b4.size (by simp)
    have HSZ : Hid _ := hsz
    have hz1 : IsB (w8.alloc (.cells #[.int .u8 0] 5)) (some ⟨w8.heap.size, 0, none⟩) 1 [0] := isB_lit w8 [0] (0, 0)
    have HZ1 : Hid (IsB _ _ _ _) := hz1
    clear ho4 ho5 hz1 b4 hsz
    go_wp2_with (at_builtin; refine append_two rfl _ _ rfl w7.heap.size (.slice ca 64 cc) 64 (Lf.enc (l, ks)) rfl HO5.out (some ⟨w8.heap.size, 0, none⟩) 1 1 [0] rfl HZ1.out (fun h => by cases h) (by decide) HSZ.out ?_; intro da dc w9 ho6 hg6)
    have B_9 : Hid (Below W.heap.size W w9) := B25.out.grown hg6 B25.out.size (fun q hq => Nat.le_trans B_7.out.size (own_base HO5.out q hq))
    obtain ⟨hD, hDc, hDn⟩ := owns_isB ho6
    have Bd_9 : Hid (IsB w9 (da) (65) (Lf.enc (l, ks) ++ [0])) := hD
    have HDc : Hid (65 ≤ dc) := hDc
    have HDn : Hid (da = none → dc = 0) := hDn
    clear ho6 hg6 hD hDc hDn B25 HO5 HZ1 B24
    clear Bx_7
    refine (decode_u _ _ 65 dc _ (by decide) HDc.out HDn.out Bd_9.out).mono ?_
    rintro e w10 ⟨v10, u10, rfl, hI10, hK10, b10⟩
    rw [HT2.out.1]
    rw [HT2.out.2] at hI10 hK10
    obtain ⟨ar, nr, cr, rfl⟩ : ∃ a n c, v10 = .slice a n c := by obtain ⟨a, c, e, -⟩ := hI10.slice; exact ⟨a, _, c, e⟩
    obtain ⟨gr, mr, fr, rfl⟩ : ∃ a n c, u10 = .slice a n c := by obtain ⟨a, c, e, -⟩ := hK10.slice; exact ⟨a, _, c, e⟩
    have Ir_10 : Hid (rItms.rd w10 (fun b => w9.heap.size ≤ b) [.slice ar nr cr] ([])) := hI10.rd (by simp)
    have Kr_10 : Hid (rKids.rd w10 (fun b => w9.heap.size ≤ b) [.slice gr mr fr] ([])) := hK10.rd (by simp)
    have Bd_10 : Hid (IsB w10 (da) (65) (Lf.enc (l, ks) ++ [0])) := Bd_9.out.below (b10)
    have B_10 : Hid (Below W.heap.size W w10) := on B_9.out (b10)
    clear Bd_9
    clear hI10 hK10 b10
    obtain ⟨w11, hw11, V11, b11, z11⟩ := boxedRow w10 31 [.slice ar nr cr, .slice gr mr fr]
    have Rr_11 : Hid (Row w11 (w10.heap.size) 31 [.slice ar nr cr, .slice gr mr fr]) := V11
    have Bd_11 : Hid (IsB w11 (da) (65) (Lf.enc (l, ks) ++ [0])) := Bd_10.out.below (b11)
    have Ir_11 : Hid (rItms.rd w11 (fun b => w9.heap.size ≤ b) [.slice ar nr cr] ([])) := Rep.below Ir_10.out (b11)
    have Kr_11 : Hid (rKids.rd w11 (fun b => w9.heap.size ≤ b) [.slice gr mr fr] ([])) := Rep.below Kr_10.out (b11)
    have B_11 : Hid (Below W.heap.size W w11) := on B_10.out (b11)
    clear Bd_10 Ir_10 Kr_10
    clear V11 b11 z11
    go_wp2_with (go_at_call 7; refine (num7_u _ _).mono ?_; rintro e w99 ⟨rfl, rfl⟩)
    go_ret
    exact ⟨rfl, B_11.out⟩

set_option maxRecDepth 100000 in
theorem lshort_lifted (os : Os) (started : os.Started) (H : Type) (enc : TypeId × Value → H) :
    ReturnsInHanded {} Try.checked os 3 .any (Rows.leafShortSpec.pre6 enc Try.prog Try.f3 Rows.leafShortRow.domain false) (Rows.leafShortSpec.post enc Try.prog Try.f3 false true false false) := by
  refine returnsInHanded_of_change_sized (C := Try.checked) own started (by kernel_rfl) Try.func3
    (ChangeSpec.witness6 (enc := enc) (C := Try.checked) false ⟨#[], #[.agg #[.slice none 0 0, .slice none 0 0], .int .i64 0], []⟩ 8 (by kernel_rfl) (by kernel_rfl) (by kernel_rfl) (by kernel_rfl)) ?_
  intro W base args ds gs before hval0 hW _ hsz0 _
  have hsz : (DataW.weightsEach Try.prog (Try.f3.params.toList ++ Rows.leafShortSpec.plain.varTypes Try.prog) (ds ++ gs)).all (· ≤ reachBytes) = true := hsz0
  clear hsz0
  have hval : ∀ (j : Nat) t v, Try.f3.params[j]? = some t → args[j]? = some v → Value.okWide Try.prog W .any base t v := hval0
  have hW' := hW
  obtain ⟨p, q, hA0, hV, rfl, hfz, hnd⟩ := hW
  have hA : DataW.TrodAll enc Try.prog W 0 (fun _ => true) true Try.f3.params.toList args.toList ds p := hA0
  rw [Try.params3] at hA hval hsz
  obtain ⟨v0, vs0, d0, ds0, p0, q0, hargs, rfl, rfl, h0, r0⟩ := trodAll_cons hA
  obtain ⟨v1, vs1, d1, ds1, p1, q1, rfl, rfl, rfl, h1, r1⟩ := trodAll_cons r0
  obtain ⟨rfl, rfl, rfl⟩ := trodAll_nil r1
  obtain rfl : args = #[v0, v1] := by cases args; simp_all
  obtain ⟨rfl, rfl⟩ := trodVars_none hV
  obtain ⟨c0, rfl, -⟩ := okWide_struct Try.underlying25 (hval 0 25 v0 rfl rfl)
  have k0 := h0
  have lt0 : ∀ x ∈ p0, x.block < W.heap.size := by obtain ⟨m, hm⟩ := k0; exact DataW.trod_lt m _ _ _ hm
  obtain ⟨x0, hx0⟩ := opens_node.arg h0 hsz (j := 0) rfl rfl
  obtain ⟨a1, rfl, rfl, rfl, w1⟩ := open_int Try.underlying3 (hval 1 3 v1 rfl rfl) h1
  have i1 := bounds_i64 w1
  clear hA0 hval0
  refine (lshort_walk c0.toList x0 a1 W hx0 (by omega) (by omega)).mono fun e W' ⟨he, bel⟩ => ?_
  subst he
  exact ⟨_, rfl, _, _, _, [], _, [], hW', trodAll_mk1 (shut_bool Try.underlying4 _), (trodAll_cons_mk (Below.trod laidOut (by kernel_rfl) (of_decide_eq_true (by kernel_rfl)) k0 bel lt0) (trodAll_cons_mk (shut_int Try.underlying3 w1) trodAll_mk0)), rfl, bel.frame _, fun h => by cases h⟩

theorem leafShort_holds : Rows.LeafShortSaid :=
  OpenClaim.holds_of_wide 3 Try.f3 rfl rfl rfl rfl rfl rfl rfl ⟨rfl, rfl, rfl, rfl, rfl⟩ rfl rfl rfl rfl rfl (by kernel_rfl) Try.func3 (by kernel_rfl)
    (of_decide_eq_true (by kernel_rfl)) (by unfold Func.isWrapper; first | (rw [if_pos (by decide +kernel)]; kernel_rfl) | (rw [if_neg (by decide +kernel)]; exact ⟨rfl, rfl⟩))
    (fun os started H enc _ => lshort_lifted os started H enc)

end Go.Proofs.Ytbglgplfjhiafab
