/-
  A page of which one octet is another is refused. Conditions: none.
-/
import Derived.Test.YtbglgplfjhiafaaIAlive
import Derived.Test.YtbglgplfjhiafaaIFrame
import Derived.Test.YtbglgplfjhiafaaJDec
import Derived.Test.YtbglgplfjhiafaaSTurn
namespace Go.Proofs.Ytbglgplfjhiafaa
open Go.ChangeShapes Go.WideShapes Go.ChangeAt Go.RowKit
set_option linter.unusedVariables false

set_option maxRecDepth 20000 in
set_option maxHeartbeats 8000000 in
theorem lrot_walk (cs : List Value) (s : Nod) (at_ : Int) (t : Int) (W : World) (h0 : rNod.rd W (fun b => b < W.heap.size) cs s) (hp1 : -9223372036854775808 ≤ at_) (hp2 : at_ ≤ 9223372036854775807) (ht1 : 0 ≤ t) (ht2 : t ≤ 255) :
    Calls Try.prog 5 #[.agg cs.toArray, .int .i64 at_, .int .u8 t] W fun e W' => e = .returned (.bool true) ∧ Below W.heap.size W W' := by
  obtain ⟨T, rfl⟩ := byte_of t ht1 ht2
  clear ht1 ht2
  obtain ⟨a, n, c, a', n', c', rfl, hL, hK⟩ := rNod_rd h0
  obtain ⟨l, ks⟩ := s
  simp only at hL hK
  have HN : Hid (l.length = n) := (rList_len hL).1
  have HN' : Hid (ks.length = n') := (rList_len hK).1
  have HLB : Hid (l.length ≤ 8796093021952) := by unfold Hid; rw [HN.out]; have h : n * 16 ≤ 140737488351232 := (rList_len hL).2.2.2; omega
  have HKB : Hid (ks.length ≤ 17592186043904) := by unfold Hid; rw [HN'.out]; have h : n' * 8 ≤ 140737488351232 := (rList_len hK).2.2.2; omega
  rw [show ([.slice a n c, .slice a' n' c'] : List Value).toArray = #[.slice a n c, .slice a' n' c'] from rfl]
  obtain ⟨w1, hw1, V1, b1, z1⟩ := boxedRow W 25 [.slice a n c, .slice a' n' c']
  have Rs_1 : Hid (Row w1 (W.heap.size) 25 [.slice a n c, .slice a' n' c']) := V1
  have B_1 : Hid (Below W.heap.size W w1) := b1
  have Is_1 : Hid (rItms.rd w1 (fun b => b < W.heap.size) [.slice a n c] (l)) := Rep.below hL b1
  have Ks_1 : Hid (rKids.rd w1 (fun b => b < W.heap.size) [.slice a' n' c'] (ks)) := Rep.below hK b1
  clear V1 b1 z1 hL hK h0
  go_enter Try.func5, Try.ntmps5
  go_wp2_with fail
  refine (alive7_u _).mono ?_
  rintro e w2 ⟨rfl, b2⟩
  have Rs_2 : Hid (Row w2 (W.heap.size) 25 [.slice a n c, .slice a' n' c']) := Rs_1.out.below (b2)
  have Is_2 : Hid (rItms.rd w2 (fun b => b < W.heap.size) [.slice a n c] (l)) := Rep.below Is_1.out (b2)
  have Ks_2 : Hid (rKids.rd w2 (fun b => b < W.heap.size) [.slice a' n' c'] (ks)) := Rep.below Ks_1.out (b2)
  have B_2 : Hid (Below W.heap.size W w2) := on B_1.out (b2)
  clear Rs_1 Is_1 Ks_1
  clear b2
  obtain ⟨qs0, qs1⟩ := Rs_2.out.two
  go_wp2_with (go_at_call 16; refine (num7_u _ _).mono ?_; rintro e w99 ⟨rfl, rfl⟩)
  refine (of_u _ _ _ _ _ _ _ _ _ l ks Is_2.out Ks_2.out).mono ?_
  rintro e w3 ⟨v3, u3, rfl, hI3, hK3, b3⟩
  obtain ⟨ao, no, co, rfl⟩ : ∃ a n c, v3 = .slice a n c := by obtain ⟨a, c, e, -⟩ := hI3.slice; exact ⟨a, _, c, e⟩
  obtain ⟨go, mo, fo, rfl⟩ : ∃ a n c, u3 = .slice a n c := by obtain ⟨a, c, e, -⟩ := hK3.slice; exact ⟨a, _, c, e⟩
  have Io_3 : Hid (rItms.rd w3 (fun b => w2.heap.size ≤ b) [.slice ao no co] (l)) := hI3.rd (HLB.out)
  have Ko_3 : Hid (rKids.rd w3 (fun b => w2.heap.size ≤ b) [.slice go mo fo] (ks)) := hK3.rd (HKB.out)
  have Rs_3 : Hid (Row w3 (W.heap.size) 25 [.slice a n c, .slice a' n' c']) := Rs_2.out.below (b3)
  have Is_3 : Hid (rItms.rd w3 (fun b => b < W.heap.size) [.slice a n c] (l)) := Rep.below Is_2.out (b3)
  have Ks_3 : Hid (rKids.rd w3 (fun b => b < W.heap.size) [.slice a' n' c'] (ks)) := Rep.below Ks_2.out (b3)
  have B_3 : Hid (Below W.heap.size W w3) := on B_2.out (b3)
  clear qs0 qs1
  clear Rs_2 Is_2 Ks_2
  clear hI3 hK3 b3
  cases hok : Lf.ok (l, ks)
  · have HOK : Hid _ := hok
    clear hok
    go_wp2_with (go_at_call 16; refine (num7_u _ _).mono ?_; rintro e w99 ⟨rfl, rfl⟩)
    refine (encode_u _ _ _ _ _ _ _ _ _ l ks Io_3.out Ko_3.out).mono ?_
    rintro e w4 ⟨xx, yx, zx, rfl, ho4, b4⟩
    rw [show Lf.encodeE (l, ks) = 9 by unfold Lf.encodeE; rw [HOK.out]; rfl]
    rw [show Lf.encodeL (l, ks) = [] by unfold Lf.encodeL; rw [HOK.out]; rfl] at ho4
    obtain rfl : yx = 0 := (owns_len ho4).trans (rfl)
    obtain ⟨hx4, hy4, hz4⟩ := owns_isB ho4
    have Bx_4 : Hid (IsB w4 (xx) (0) ([])) := hx4
    have HCx : Hid (0 ≤ zx) := hy4
    have HZx : Hid (xx = none → zx = 0) := hz4
    have Rs_4 : Hid (Row w4 (W.heap.size) 25 [.slice a n c, .slice a' n' c']) := Rs_3.out.below (b4)
    have Is_4 : Hid (rItms.rd w4 (fun b => b < W.heap.size) [.slice a n c] (l)) := Rep.below Is_3.out (b4)
    have Ks_4 : Hid (rKids.rd w4 (fun b => b < W.heap.size) [.slice a' n' c'] (ks)) := Rep.below Ks_3.out (b4)
    have Io_4 : Hid (rItms.rd w4 (fun b => w2.heap.size ≤ b) [.slice ao no co] (l)) := Rep.below Io_3.out (b4)
    have Ko_4 : Hid (rKids.rd w4 (fun b => w2.heap.size ≤ b) [.slice go mo fo] (ks)) := Rep.below Ko_3.out (b4)
    have B_4 : Hid (Below W.heap.size W w4) := on B_3.out (b4)
    clear Rs_3 Is_3 Ks_3 Io_3 Ko_3
    clear hx4 hy4 hz4 ho4 b4
    go_wp2_with (go_at_call 16; refine (num7_u _ _).mono ?_; rintro e w99 ⟨rfl, rfl⟩)
    go_ret
    exact ⟨rfl, B_4.out⟩
  · have HOK : Hid _ := hok
    clear hok
    go_wp2_with (go_at_call 16; refine (num7_u _ _).mono ?_; rintro e w99 ⟨rfl, rfl⟩)
    refine (encode_u _ _ _ _ _ _ _ _ _ l ks Io_3.out Ko_3.out).mono ?_
    rintro e w5 ⟨xx, yx, zx, rfl, ho5, b5⟩
    rw [show Lf.encodeE (l, ks) = 0 from if_pos HOK.out]
    rw [show Lf.encodeL (l, ks) = Lf.enc (l, ks) from if_pos HOK.out] at ho5
    obtain rfl : yx = 64 := (owns_len ho5).trans (Lf.enc_len (Lf.ok_iff.1 HOK.out))
    obtain ⟨hx5, hy5, hz5⟩ := owns_isB ho5
    have Bx_5 : Hid (IsB w5 (xx) (64) (Lf.enc (l, ks))) := hx5
    have HCx : Hid (64 ≤ zx) := hy5
    have HZx : Hid (xx = none → zx = 0) := hz5
    have Ox_5 : Hid (w5.ownsRow w3.heap.size 5 1 (.slice xx 64 zx) (64) (cellsOf (Lf.enc (l, ks)))) := ho5
    have Rs_5 : Hid (Row w5 (W.heap.size) 25 [.slice a n c, .slice a' n' c']) := Rs_3.out.below (b5)
    have Is_5 : Hid (rItms.rd w5 (fun b => b < W.heap.size) [.slice a n c] (l)) := Rep.below Is_3.out (b5)
    have Ks_5 : Hid (rKids.rd w5 (fun b => b < W.heap.size) [.slice a' n' c'] (ks)) := Rep.below Ks_3.out (b5)
    have Io_5 : Hid (rItms.rd w5 (fun b => w2.heap.size ≤ b) [.slice ao no co] (l)) := Rep.below Io_3.out (b5)
    have Ko_5 : Hid (rKids.rd w5 (fun b => w2.heap.size ≤ b) [.slice go mo fo] (ks)) := Rep.below Ko_3.out (b5)
    have B_5 : Hid (Below W.heap.size W w5) := on B_3.out (b5)
    clear Rs_3 Is_3 Ks_3 Io_3 Ko_3
    clear hx5 hy5 hz5 ho5 b5
    clear Io_5 Ko_5 Rs_5 Is_5 Ks_5 Bx_5
    by_cases hT : T = 0
    · subst hT
      go_wp2_with (go_at_call 16; refine (num7_u _ _).mono ?_; rintro e w99 ⟨rfl, rfl⟩)
      go_ret
      exact ⟨rfl, B_5.out⟩
    · have hne : ((T.toNat : Int) == 0) = false := beq_eq_false_iff_ne.2 (fun h => hT (UInt8.toNat_inj.1 (by simpa using h)))
      have HT : Hid _ := hT
      clear hT
      have ho := Ox_5.out
      obtain ⟨g, rfl, hg⟩ := owns_row64 ho
      have HG : Hid (W.heap.size ≤ g) := Nat.le_trans B_3.out.size hg
      obtain ⟨K, hK, hKe⟩ := turn_at at_
      have hl := Lf.enc_len (Lf.ok_iff.1 HOK.out)
      have hcell := owned_cell ho (i := K) (by omega)
      have hfro := owned_frozen ho (i := K)
      have ho2 := store_xor T (i := K) (by omega) ho
      have HB2 : Hid (Below W.heap.size W (w5.setCell ⟨g, K, none⟩ (.int .u8 (bits BinOp.xor IntKind.u8 (((Lf.enc (l, ks)).getD K 0).toNat : Int) (T.toNat : Int))))) := B_5.out.setCell (p := ⟨g, K, none⟩) HG.out _
      obtain ⟨hY, hYc, hYn⟩ := owns_isB ho2
      have HY : Hid (IsB _ _ _ _) := hY
      have HD : Hid _ := Lf.decode_turned HOK.out K hK T HT.out
      have HYc : Hid _ := hYc
      have HYn : Hid _ := hYn
      clear ho ho2 hY hg hl hYc hYn
      go_wp2_with (go_at_call 16; refine (num7_u _ _).mono ?_; rintro e w99 ⟨rfl, rfl⟩)
      refine (decode_u _ _ 64 zx _ (by decide) HYc.out HYn.out HY.out).mono ?_
      rintro e w6 ⟨v, u, rfl, hI, hK', b6⟩
      rw [HD.out.1]
      rw [HD.out.2] at hI hK'
      obtain ⟨ar, cr, rfl, -, -⟩ := hI.slice
      obtain ⟨gr, fr, rfl, -, -⟩ := hK'.slice
      obtain ⟨nr, hnr⟩ : ∃ nr, nr = ([] : List Itm).length := ⟨_, rfl⟩
      obtain ⟨mr, hmr⟩ : ∃ mr, mr = ([] : List Int).length := ⟨_, rfl⟩
      rw [← hnr, ← hmr]
      have hn0 : ((nr : Int) == 0) = true := by rw [hnr]; rfl
      have B_6 : Hid (Below W.heap.size W w6) := on HB2.out b6
      clear hcell hfro HY b6 HB2 hI hK' hnr hmr
      obtain ⟨w7, hw7, V7, c7, z7⟩ := boxedRow w6 28 [.slice ar nr cr, .slice gr mr fr]
      obtain ⟨qm0, qm1⟩ := V7.two
      have B_7 : Hid (Below W.heap.size W w7) := on B_6.out c7
      clear V7 c7 z7
      go_wp2_with (go_at_call 16; refine (num7_u _ _).mono ?_; rintro e w99 ⟨rfl, rfl⟩)
      go_ret
      exact ⟨rfl, B_7.out⟩

set_option maxRecDepth 100000 in
theorem lrot_lifted (os : Os) (started : os.Started) (H : Type) (enc : TypeId × Value → H) :
    ReturnsInHanded {} Try.checked os 5 .any (Rows.leafRotSpec.pre6 enc Try.prog Try.f5 Rows.leafRotRow.domain false) (Rows.leafRotSpec.post enc Try.prog Try.f5 false true false false) := by
  refine returnsInHanded_of_change_sized (C := Try.checked) own started (by kernel_rfl) Try.func5
    (ChangeSpec.witness6 (enc := enc) (C := Try.checked) false ⟨#[], #[.agg #[.slice none 0 0, .slice none 0 0], .int .i64 0, .int .u8 0], []⟩ 8 (by kernel_rfl) (by kernel_rfl) (by kernel_rfl) (by kernel_rfl)) ?_
  intro W base args ds gs before hval0 hW _ hsz0 _
  have hsz : (DataW.weightsEach Try.prog (Try.f5.params.toList ++ Rows.leafRotSpec.plain.varTypes Try.prog) (ds ++ gs)).all (· ≤ reachBytes) = true := hsz0
  clear hsz0
  have hval : ∀ (j : Nat) t v, Try.f5.params[j]? = some t → args[j]? = some v → Value.okWide Try.prog W .any base t v := hval0
  have hW' := hW
  obtain ⟨p, q, hA0, hV, rfl, hfz, hnd⟩ := hW
  have hA : DataW.TrodAll enc Try.prog W 0 (fun _ => true) true Try.f5.params.toList args.toList ds p := hA0
  rw [Try.params5] at hA hval hsz
  obtain ⟨v0, vs0, d0, ds0, p0, q0, hargs, rfl, rfl, h0, r0⟩ := trodAll_cons hA
  obtain ⟨v1, vs1, d1, ds1, p1, q1, rfl, rfl, rfl, h1, r1⟩ := trodAll_cons r0
  obtain ⟨v2, vs2, d2, ds2, p2, q2, rfl, rfl, rfl, h2, r2⟩ := trodAll_cons r1
  obtain ⟨rfl, rfl, rfl⟩ := trodAll_nil r2
  obtain rfl : args = #[v0, v1, v2] := by cases args; simp_all
  obtain ⟨rfl, rfl⟩ := trodVars_none hV
  obtain ⟨c0, rfl, -⟩ := okWide_struct Try.underlying25 (hval 0 25 v0 rfl rfl)
  have k0 := h0
  have lt0 : ∀ x ∈ p0, x.block < W.heap.size := by obtain ⟨m, hm⟩ := k0; exact DataW.trod_lt m _ _ _ hm
  obtain ⟨x0, hx0⟩ := opens_node.arg h0 hsz (j := 0) rfl rfl
  obtain ⟨a1, rfl, rfl, rfl, w1⟩ := open_int Try.underlying3 (hval 1 3 v1 rfl rfl) h1
  have i1 := bounds_i64 w1
  obtain ⟨a2, rfl, rfl, rfl, w2⟩ := open_int Try.underlying5 (hval 2 5 v2 rfl rfl) h2
  have i2 := bounds_u8 w2
  clear hA0 hval0
  refine (lrot_walk c0.toList x0 a1 a2 W hx0 (by omega) (by omega) (by omega) (by omega)).mono fun e W' ⟨he, bel⟩ => ?_
  subst he
  exact ⟨_, rfl, _, _, _, [], _, [], hW', trodAll_mk1 (shut_bool Try.underlying4 _), (trodAll_cons_mk (Below.trod laidOut (by kernel_rfl) (of_decide_eq_true (by kernel_rfl)) k0 bel lt0) (trodAll_cons_mk (shut_int Try.underlying3 w1) (trodAll_cons_mk (shut_int Try.underlying5 w2) trodAll_mk0))), rfl, bel.frame _, fun h => by cases h⟩

theorem leafRot_holds : Rows.LeafRotSaid :=
  OpenClaim.holds_of_wide 5 Try.f5 rfl rfl rfl rfl rfl rfl rfl ⟨rfl, rfl, rfl, rfl, rfl⟩ rfl rfl rfl rfl rfl (by kernel_rfl) Try.func5 (by kernel_rfl)
    (of_decide_eq_true (by kernel_rfl)) (by unfold Func.isWrapper; first | (rw [if_pos (by decide +kernel)]; kernel_rfl) | (rw [if_neg (by decide +kernel)]; exact ⟨rfl, rfl⟩))
    (fun os started H enc _ => lrot_lifted os started H enc)

end Go.Proofs.Ytbglgplfjhiafaa
