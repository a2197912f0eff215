/-
  A node comes back from its page; what is read is made again of what was read. Conditions: none.
-/
import Derived.Test.YtbglgplfjhiafaaIAlive
import Derived.Test.YtbglgplfjhiafaaIFrame
import Derived.Test.YtbglgplfjhiafaaJDec
import Derived.Test.YtbglgplfjhiafaaBSame
import Derived.Test.YtbglgplfjhiafaaRBytes
namespace Go.Proofs.Ytbglgplfjhiafaa
open Go.ChangeShapes Go.WideShapes Go.ChangeAt Go.RowKit
set_option linter.unusedVariables false

theorem Lf.decodeN_len (b : List UInt8) : (Lf.decodeN b).1.length ≤ 3 ∧ (Lf.decodeN b).2.length ≤ 4 := by
  by_cases h : Lf.decodeE b = 0
  · have h1 := Lf.ok_iff.1 (Lf.enc_decode h).1
    have h2 := h1.few
    have h3 := h1.kids
    refine ⟨h2, ?_⟩
    rcases h3 with h3 | h3
    · rw [Lf.leaf_iff] at h3; omega
    · omega
  · rw [show Lf.decodeN b = ([], []) from if_neg h]
    simp

set_option maxRecDepth 20000 in
set_option maxHeartbeats 8000000 in
theorem lback_walk (cs : List Value) (s : Nod) (ba : Option Addr) (bn bc : Nat) (lb : List UInt8) (W : World) (h0 : rNod.rd W (fun b => b < W.heap.size) cs s) (h1 : rBytes.rd W (fun b => b < W.heap.size) [.slice ba bn bc] lb) :
    Calls Try.prog 4 #[.agg cs.toArray, .slice ba bn bc] W fun e W' => e = .returned (.bool true) ∧ Below W.heap.size W W' := by
  obtain ⟨a, n, c, a', n', c', rfl, hL, hK⟩ := rNod_rd h0
  obtain ⟨l, ks⟩ := s
  simp only at hL hK
  have HN : Hid (l.length = n) := (rList_len hL).1
  have HN' : Hid (ks.length = n') := (rList_len hK).1
  have HLB : Hid (l.length ≤ 8796093021952) := by unfold Hid; rw [HN.out]; have h : n * 16 ≤ 140737488351232 := (rList_len hL).2.2.2; omega
  have HKB : Hid (ks.length ≤ 17592186043904) := by unfold Hid; rw [HN'.out]; have h : n' * 8 ≤ 140737488351232 := (rList_len hK).2.2.2; omega
  rw [show ([.slice a n c, .slice a' n' c'] : List Value).toArray = #[.slice a n c, .slice a' n' c'] from rfl]
  obtain ⟨hB, hbc, hbnil, hbn⟩ := rBytes_isB h1
  have HCb : Hid (bn ≤ bc) := hbc
  have HZb : Hid (ba = none → bc = 0) := hbnil
  have HLb : Hid (bn ≤ 140737488351232) := hbn
  obtain ⟨w1, hw1, V1, b1, z1⟩ := boxedRow W 25 [.slice a n c, .slice a' n' c']
  have Rs_1 : Hid (Row w1 (W.heap.size) 25 [.slice a n c, .slice a' n' c']) := V1
  have B_1 : Hid (Below W.heap.size W w1) := b1
  have Is_1 : Hid (rItms.rd w1 (fun b => b < W.heap.size) [.slice a n c] (l)) := Rep.below hL b1
  have Ks_1 : Hid (rKids.rd w1 (fun b => b < W.heap.size) [.slice a' n' c'] (ks)) := Rep.below hK b1
  have Bb_1 : Hid (IsB w1 (ba) (bn) (lb)) := hB.below b1
  clear V1 b1 z1 hL hK h0 hB hbc hbnil hbn h1
  go_enter Try.func4, Try.ntmps4
  go_wp2_with fail
  refine (alive7_u _).mono ?_
  rintro e w2 ⟨rfl, b2⟩
  have Rs_2 : Hid (Row w2 (W.heap.size) 25 [.slice a n c, .slice a' n' c']) := Rs_1.out.below (b2)
  have Is_2 : Hid (rItms.rd w2 (fun b => b < W.heap.size) [.slice a n c] (l)) := Rep.below Is_1.out (b2)
  have Ks_2 : Hid (rKids.rd w2 (fun b => b < W.heap.size) [.slice a' n' c'] (ks)) := Rep.below Ks_1.out (b2)
  have Bb_2 : Hid (IsB w2 (ba) (bn) (lb)) := Bb_1.out.below (b2)
  have B_2 : Hid (Below W.heap.size W w2) := on B_1.out (b2)
  clear Rs_1 Is_1 Ks_1 Bb_1
  clear b2
  obtain ⟨qs0, qs1⟩ := Rs_2.out.two
  go_wp2_with (go_at_call 16; refine (num7_u _ _).mono ?_; rintro e w99 ⟨rfl, rfl⟩)
  refine (of_u _ _ _ _ _ _ _ _ _ l ks Is_2.out Ks_2.out).mono ?_
  rintro e w3 ⟨v3, u3, rfl, hI3, hK3, b3⟩
  obtain ⟨ao, no, co, rfl⟩ : ∃ a n c, v3 = .slice a n c := by obtain ⟨a, c, e, -⟩ := hI3.slice; exact ⟨a, _, c, e⟩
  obtain ⟨go, mo, fo, rfl⟩ : ∃ a n c, u3 = .slice a n c := by obtain ⟨a, c, e, -⟩ := hK3.slice; exact ⟨a, _, c, e⟩
  have Io_3 : Hid (rItms.rd w3 (fun b => w2.heap.size ≤ b) [.slice ao no co] (l)) := hI3.rd (HLB.out)
  have Ko_3 : Hid (rKids.rd w3 (fun b => w2.heap.size ≤ b) [.slice go mo fo] (ks)) := hK3.rd (HKB.out)
  have Rs_3 : Hid (Row w3 (W.heap.size) 25 [.slice a n c, .slice a' n' c']) := Rs_2.out.below (b3)
  have Is_3 : Hid (rItms.rd w3 (fun b => b < W.heap.size) [.slice a n c] (l)) := Rep.below Is_2.out (b3)
  have Ks_3 : Hid (rKids.rd w3 (fun b => b < W.heap.size) [.slice a' n' c'] (ks)) := Rep.below Ks_2.out (b3)
  have Bb_3 : Hid (IsB w3 (ba) (bn) (lb)) := Bb_2.out.below (b3)
  have B_3 : Hid (Below W.heap.size W w3) := on B_2.out (b3)
  clear qs0 qs1
  clear Rs_2 Is_2 Ks_2 Bb_2
  clear hI3 hK3 b3
  cases hok : Lf.ok (l, ks)
  · have HOK : Hid _ := hok
    clear hok
    go_wp2_with (go_at_call 16; refine (num7_u _ _).mono ?_; rintro e w99 ⟨rfl, rfl⟩)
    refine (encode_u _ _ _ _ _ _ _ _ _ l ks Io_3.out Ko_3.out).mono ?_
    rintro e w4 ⟨xx, yx, zx, rfl, ho4, b4⟩
    rw [show Lf.encodeE (l, ks) = 9 by unfold Lf.encodeE; rw [HOK.out]; rfl]
    rw [show Lf.encodeL (l, ks) = [] by unfold Lf.encodeL; rw [HOK.out]; rfl] at ho4
    obtain ⟨hx4, hy4, hz4⟩ := owns_isB ho4
    have Bx_4 : Hid (IsB w4 (xx) (yx) ([])) := hx4
    have HCx : Hid (yx ≤ zx) := hy4
    have HZx : Hid (xx = none → zx = 0) := hz4
    have Rs_4 : Hid (Row w4 (W.heap.size) 25 [.slice a n c, .slice a' n' c']) := Rs_3.out.below (b4)
    have Is_4 : Hid (rItms.rd w4 (fun b => b < W.heap.size) [.slice a n c] (l)) := Rep.below Is_3.out (b4)
    have Ks_4 : Hid (rKids.rd w4 (fun b => b < W.heap.size) [.slice a' n' c'] (ks)) := Rep.below Ks_3.out (b4)
    have Bb_4 : Hid (IsB w4 (ba) (bn) (lb)) := Bb_3.out.below (b4)
    have Io_4 : Hid (rItms.rd w4 (fun b => w2.heap.size ≤ b) [.slice ao no co] (l)) := Rep.below Io_3.out (b4)
    have Ko_4 : Hid (rKids.rd w4 (fun b => w2.heap.size ≤ b) [.slice go mo fo] (ks)) := Rep.below Ko_3.out (b4)
    have B_4 : Hid (Below W.heap.size W w4) := on B_3.out (b4)
    clear Rs_3 Is_3 Ks_3 Bb_3 Io_3 Ko_3
    clear hx4 hy4 hz4 ho4 b4
    go_wp2_with (go_at_call 16; refine (num7_u _ _).mono ?_; rintro e w99 ⟨rfl, rfl⟩)
    refine (decode_u _ _ _ _ lb HLb.out HCb.out HZb.out Bb_4.out).mono ?_
    rintro e w5 ⟨v5, u5, rfl, hI5, hK5, b5⟩
    obtain ⟨am, nm, cm, rfl⟩ : ∃ a n c, v5 = .slice a n c := by obtain ⟨a, c, e, -⟩ := hI5.slice; exact ⟨a, _, c, e⟩
    obtain ⟨gm, mm, fm, rfl⟩ : ∃ a n c, u5 = .slice a n c := by obtain ⟨a, c, e, -⟩ := hK5.slice; exact ⟨a, _, c, e⟩
    have Im_5 : Hid (rItms.rd w5 (fun b => w4.heap.size ≤ b) [.slice am nm cm] ((Lf.decodeN lb).1)) := hI5.rd (by have := Lf.decodeN_len lb; omega)
    have Km_5 : Hid (rKids.rd w5 (fun b => w4.heap.size ≤ b) [.slice gm mm fm] ((Lf.decodeN lb).2)) := hK5.rd (by have := Lf.decodeN_len lb; omega)
    have Rs_5 : Hid (Row w5 (W.heap.size) 25 [.slice a n c, .slice a' n' c']) := Rs_4.out.below (b5)
    have Is_5 : Hid (rItms.rd w5 (fun b => b < W.heap.size) [.slice a n c] (l)) := Rep.below Is_4.out (b5)
    have Ks_5 : Hid (rKids.rd w5 (fun b => b < W.heap.size) [.slice a' n' c'] (ks)) := Rep.below Ks_4.out (b5)
    have Bb_5 : Hid (IsB w5 (ba) (bn) (lb)) := Bb_4.out.below (b5)
    have Io_5 : Hid (rItms.rd w5 (fun b => w2.heap.size ≤ b) [.slice ao no co] (l)) := Rep.below Io_4.out (b5)
    have Ko_5 : Hid (rKids.rd w5 (fun b => w2.heap.size ≤ b) [.slice go mo fo] (ks)) := Rep.below Ko_4.out (b5)
    have Bx_5 : Hid (IsB w5 (xx) (yx) ([])) := Bx_4.out.below (b5)
    have B_5 : Hid (Below W.heap.size W w5) := on B_4.out (b5)
    clear Rs_4 Is_4 Ks_4 Bb_4 Io_4 Ko_4 Bx_4
    clear hI5 hK5 b5
    obtain ⟨w6, hw6, V6, b6, z6⟩ := boxedRow w5 28 [.slice am nm cm, .slice gm mm fm]
    have Rm_6 : Hid (Row w6 (w5.heap.size) 28 [.slice am nm cm, .slice gm mm fm]) := V6
    have Rs_6 : Hid (Row w6 (W.heap.size) 25 [.slice a n c, .slice a' n' c']) := Rs_5.out.below (b6)
    have Is_6 : Hid (rItms.rd w6 (fun b => b < W.heap.size) [.slice a n c] (l)) := Rep.below Is_5.out (b6)
    have Ks_6 : Hid (rKids.rd w6 (fun b => b < W.heap.size) [.slice a' n' c'] (ks)) := Rep.below Ks_5.out (b6)
    have Bb_6 : Hid (IsB w6 (ba) (bn) (lb)) := Bb_5.out.below (b6)
    have Io_6 : Hid (rItms.rd w6 (fun b => w2.heap.size ≤ b) [.slice ao no co] (l)) := Rep.below Io_5.out (b6)
    have Ko_6 : Hid (rKids.rd w6 (fun b => w2.heap.size ≤ b) [.slice go mo fo] (ks)) := Rep.below Ko_5.out (b6)
    have Bx_6 : Hid (IsB w6 (xx) (yx) ([])) := Bx_5.out.below (b6)
    have Im_6 : Hid (rItms.rd w6 (fun b => w4.heap.size ≤ b) [.slice am nm cm] ((Lf.decodeN lb).1)) := Rep.below Im_5.out (b6)
    have Km_6 : Hid (rKids.rd w6 (fun b => w4.heap.size ≤ b) [.slice gm mm fm] ((Lf.decodeN lb).2)) := Rep.below Km_5.out (b6)
    have B_6 : Hid (Below W.heap.size W w6) := on B_5.out (b6)
    clear Rs_5 Is_5 Ks_5 Bb_5 Io_5 Ko_5 Bx_5 Im_5 Km_5
    clear V6 b6 z6
    by_cases hD : Lf.decodeE lb = 0
    · rw [hD]
      have HD : Hid _ := Lf.enc_decode hD
      clear hD
      obtain ⟨qm0, qm1⟩ := Rm_6.out.two
      go_wp2_with (go_at_call 16; refine (num7_u _ _).mono ?_; rintro e w99 ⟨rfl, rfl⟩)
      refine (encode_u _ _ _ _ _ _ _ _ _ (Lf.decodeN lb).1 (Lf.decodeN lb).2 Im_6.out Km_6.out).mono ?_
      rintro e w7 ⟨xy, yy, zy, rfl, ho7, b7⟩
      rw [show Lf.encodeE ((Lf.decodeN lb).1, (Lf.decodeN lb).2) = 0 from if_pos HD.out.1]
      rw [show Lf.encodeL ((Lf.decodeN lb).1, (Lf.decodeN lb).2) = lb from (if_pos HD.out.1).trans HD.out.2] at ho7
      obtain ⟨hx7, hy7, hz7⟩ := owns_isB ho7
      have By_7 : Hid (IsB w7 (xy) (yy) (lb)) := hx7
      have HCy : Hid (yy ≤ zy) := hy7
      have HZy : Hid (xy = none → zy = 0) := hz7
      have Rs_7 : Hid (Row w7 (W.heap.size) 25 [.slice a n c, .slice a' n' c']) := Rs_6.out.below (b7)
      have Is_7 : Hid (rItms.rd w7 (fun b => b < W.heap.size) [.slice a n c] (l)) := Rep.below Is_6.out (b7)
      have Ks_7 : Hid (rKids.rd w7 (fun b => b < W.heap.size) [.slice a' n' c'] (ks)) := Rep.below Ks_6.out (b7)
      have Bb_7 : Hid (IsB w7 (ba) (bn) (lb)) := Bb_6.out.below (b7)
      have Io_7 : Hid (rItms.rd w7 (fun b => w2.heap.size ≤ b) [.slice ao no co] (l)) := Rep.below Io_6.out (b7)
      have Ko_7 : Hid (rKids.rd w7 (fun b => w2.heap.size ≤ b) [.slice go mo fo] (ks)) := Rep.below Ko_6.out (b7)
      have Bx_7 : Hid (IsB w7 (xx) (yx) ([])) := Bx_6.out.below (b7)
      have Im_7 : Hid (rItms.rd w7 (fun b => w4.heap.size ≤ b) [.slice am nm cm] ((Lf.decodeN lb).1)) := Rep.below Im_6.out (b7)
      have Km_7 : Hid (rKids.rd w7 (fun b => w4.heap.size ≤ b) [.slice gm mm fm] ((Lf.decodeN lb).2)) := Rep.below Km_6.out (b7)
      have Rm_7 : Hid (Row w7 (w5.heap.size) 28 [.slice am nm cm, .slice gm mm fm]) := Rm_6.out.below (b7)
      have B_7 : Hid (Below W.heap.size W w7) := on B_6.out (b7)
      clear qm0 qm1
      clear Rs_6 Is_6 Ks_6 Bb_6 Io_6 Ko_6 Bx_6 Im_6 Km_6 Rm_6
      clear hx7 hy7 hz7 ho7 b7
      have hbb : (lb == lb) = true := beq_self_eq_true _
      go_wp2_with (first | (go_at_call 16; refine (num7_u _ _).mono ?_; rintro e w99 ⟨rfl, rfl⟩) | (go_at_call 15; refine (sameBytes_any _ _ _ _ _ _ _ _ _ By_7.out Bb_7.out).mono ?_; rintro e w99 ⟨rfl, rfl⟩))
      go_ret
      exact ⟨rfl, B_7.out⟩
    · have HD : Hid (Lf.decodeN lb = ([], [])) := if_neg hD
      have hDb : (Lf.decodeE lb != 0) = true := bne_iff_ne.2 hD
      have hn0 : ((nm : Int) == 0) = true := by have h := (rList_len Im_6.out).1; rw [HD.out] at h; simp only [List.length_nil] at h; rw [beq_iff_eq]; omega
      have hm0 : ((mm : Int) == 0) = true := by have h := (rList_len Km_6.out).1; rw [HD.out] at h; simp only [List.length_nil] at h; rw [beq_iff_eq]; omega
      clear hD
      obtain ⟨qm0, qm1⟩ := Rm_6.out.two
      go_wp2_with (go_at_call 16; refine (num7_u _ _).mono ?_; rintro e w99 ⟨rfl, rfl⟩)
      go_ret
      exact ⟨rfl, B_6.out⟩
  · have HOK : Hid _ := hok
    clear hok
    go_wp2_with (go_at_call 16; refine (num7_u _ _).mono ?_; rintro e w99 ⟨rfl, rfl⟩)
    refine (encode_u _ _ _ _ _ _ _ _ _ l ks Io_3.out Ko_3.out).mono ?_
    rintro e w8 ⟨xx, yx, zx, rfl, ho8, b8⟩
    rw [show Lf.encodeE (l, ks) = 0 from if_pos HOK.out]
    rw [show Lf.encodeL (l, ks) = Lf.enc (l, ks) from if_pos HOK.out] at ho8
    obtain rfl : yx = 64 := (owns_len ho8).trans (Lf.enc_len (Lf.ok_iff.1 HOK.out))
    obtain ⟨hx8, hy8, hz8⟩ := owns_isB ho8
    have Bx_8 : Hid (IsB w8 (xx) (64) (Lf.enc (l, ks))) := hx8
    have HCx : Hid (64 ≤ zx) := hy8
    have HZx : Hid (xx = none → zx = 0) := hz8
    have Rs_8 : Hid (Row w8 (W.heap.size) 25 [.slice a n c, .slice a' n' c']) := Rs_3.out.below (b8)
    have Is_8 : Hid (rItms.rd w8 (fun b => b < W.heap.size) [.slice a n c] (l)) := Rep.below Is_3.out (b8)
    have Ks_8 : Hid (rKids.rd w8 (fun b => b < W.heap.size) [.slice a' n' c'] (ks)) := Rep.below Ks_3.out (b8)
    have Bb_8 : Hid (IsB w8 (ba) (bn) (lb)) := Bb_3.out.below (b8)
    have Io_8 : Hid (rItms.rd w8 (fun b => w2.heap.size ≤ b) [.slice ao no co] (l)) := Rep.below Io_3.out (b8)
    have Ko_8 : Hid (rKids.rd w8 (fun b => w2.heap.size ≤ b) [.slice go mo fo] (ks)) := Rep.below Ko_3.out (b8)
    have B_8 : Hid (Below W.heap.size W w8) := on B_3.out (b8)
    clear Rs_3 Is_3 Ks_3 Bb_3 Io_3 Ko_3
    clear hx8 hy8 hz8 ho8 b8
    go_wp2_with (go_at_call 16; refine (num7_u _ _).mono ?_; rintro e w99 ⟨rfl, rfl⟩)
    refine (decode_u _ _ _ _ (Lf.enc (l, ks)) (by decide) HCx.out HZx.out Bx_8.out).mono ?_
    rintro e w9 ⟨v9, u9, rfl, hI9, hK9, b9⟩
    rw [(Lf.decode_enc HOK.out).1]
    rw [(Lf.decode_enc HOK.out).2] at hI9 hK9
    obtain ⟨ar, nr, cr, rfl⟩ : ∃ a n c, v9 = .slice a n c := by obtain ⟨a, c, e, -⟩ := hI9.slice; exact ⟨a, _, c, e⟩
    obtain ⟨gr, mr, fr, rfl⟩ : ∃ a n c, u9 = .slice a n c := by obtain ⟨a, c, e, -⟩ := hK9.slice; exact ⟨a, _, c, e⟩
    have Ir_9 : Hid (rItms.rd w9 (fun b => w8.heap.size ≤ b) [.slice ar nr cr] (l)) := hI9.rd (HLB.out)
    have Kr_9 : Hid (rKids.rd w9 (fun b => w8.heap.size ≤ b) [.slice gr mr fr] (ks)) := hK9.rd (HKB.out)
    have Rs_9 : Hid (Row w9 (W.heap.size) 25 [.slice a n c, .slice a' n' c']) := Rs_8.out.below (b9)
    have Is_9 : Hid (rItms.rd w9 (fun b => b < W.heap.size) [.slice a n c] (l)) := Rep.below Is_8.out (b9)
    have Ks_9 : Hid (rKids.rd w9 (fun b => b < W.heap.size) [.slice a' n' c'] (ks)) := Rep.below Ks_8.out (b9)
    have Bb_9 : Hid (IsB w9 (ba) (bn) (lb)) := Bb_8.out.below (b9)
    have Io_9 : Hid (rItms.rd w9 (fun b => w2.heap.size ≤ b) [.slice ao no co] (l)) := Rep.below Io_8.out (b9)
    have Ko_9 : Hid (rKids.rd w9 (fun b => w2.heap.size ≤ b) [.slice go mo fo] (ks)) := Rep.below Ko_8.out (b9)
    have Bx_9 : Hid (IsB w9 (xx) (64) (Lf.enc (l, ks))) := Bx_8.out.below (b9)
    have B_9 : Hid (Below W.heap.size W w9) := on B_8.out (b9)
    clear Rs_8 Is_8 Ks_8 Bb_8 Io_8 Ko_8 Bx_8
    clear hI9 hK9 b9
    obtain ⟨w10, hw10, V10, b10, z10⟩ := boxedRow w9 28 [.slice ar nr cr, .slice gr mr fr]
    have Rr_10 : Hid (Row w10 (w9.heap.size) 28 [.slice ar nr cr, .slice gr mr fr]) := V10
    have Rs_10 : Hid (Row w10 (W.heap.size) 25 [.slice a n c, .slice a' n' c']) := Rs_9.out.below (b10)
    have Is_10 : Hid (rItms.rd w10 (fun b => b < W.heap.size) [.slice a n c] (l)) := Rep.below Is_9.out (b10)
    have Ks_10 : Hid (rKids.rd w10 (fun b => b < W.heap.size) [.slice a' n' c'] (ks)) := Rep.below Ks_9.out (b10)
    have Bb_10 : Hid (IsB w10 (ba) (bn) (lb)) := Bb_9.out.below (b10)
    have Io_10 : Hid (rItms.rd w10 (fun b => w2.heap.size ≤ b) [.slice ao no co] (l)) := Rep.below Io_9.out (b10)
    have Ko_10 : Hid (rKids.rd w10 (fun b => w2.heap.size ≤ b) [.slice go mo fo] (ks)) := Rep.below Ko_9.out (b10)
    have Bx_10 : Hid (IsB w10 (xx) (64) (Lf.enc (l, ks))) := Bx_9.out.below (b10)
    have Ir_10 : Hid (rItms.rd w10 (fun b => w8.heap.size ≤ b) [.slice ar nr cr] (l)) := Rep.below Ir_9.out (b10)
    have Kr_10 : Hid (rKids.rd w10 (fun b => w8.heap.size ≤ b) [.slice gr mr fr] (ks)) := Rep.below Kr_9.out (b10)
    have B_10 : Hid (Below W.heap.size W w10) := on B_9.out (b10)
    clear Rs_9 Is_9 Ks_9 Bb_9 Io_9 Ko_9 Bx_9 Ir_9 Kr_9
    clear V10 b10 z10
    obtain ⟨qr0, qr1⟩ := Rr_10.out.two
    obtain ⟨qs0, qs1⟩ := Rs_10.out.two
    go_wp2_with (go_at_call 16; refine (num7_u _ _).mono ?_; rintro e w99 ⟨rfl, rfl⟩)
    refine (alike_u _ _ _ _ _ _ _ _ _ _ _ _ _ _ _ _ _ l ks Ir_10.out Kr_10.out Is_10.out Ks_10.out).mono ?_
    rintro e w11 ⟨rfl, b11⟩
    have Rs_11 : Hid (Row w11 (W.heap.size) 25 [.slice a n c, .slice a' n' c']) := Rs_10.out.below (b11)
    have Is_11 : Hid (rItms.rd w11 (fun b => b < W.heap.size) [.slice a n c] (l)) := Rep.below Is_10.out (b11)
    have Ks_11 : Hid (rKids.rd w11 (fun b => b < W.heap.size) [.slice a' n' c'] (ks)) := Rep.below Ks_10.out (b11)
    have Bb_11 : Hid (IsB w11 (ba) (bn) (lb)) := Bb_10.out.below (b11)
    have Io_11 : Hid (rItms.rd w11 (fun b => w2.heap.size ≤ b) [.slice ao no co] (l)) := Rep.below Io_10.out (b11)
    have Ko_11 : Hid (rKids.rd w11 (fun b => w2.heap.size ≤ b) [.slice go mo fo] (ks)) := Rep.below Ko_10.out (b11)
    have Bx_11 : Hid (IsB w11 (xx) (64) (Lf.enc (l, ks))) := Bx_10.out.below (b11)
    have Ir_11 : Hid (rItms.rd w11 (fun b => w8.heap.size ≤ b) [.slice ar nr cr] (l)) := Rep.below Ir_10.out (b11)
    have Kr_11 : Hid (rKids.rd w11 (fun b => w8.heap.size ≤ b) [.slice gr mr fr] (ks)) := Rep.below Kr_10.out (b11)
    have Rr_11 : Hid (Row w11 (w9.heap.size) 28 [.slice ar nr cr, .slice gr mr fr]) := Rr_10.out.below (b11)
    have B_11 : Hid (Below W.heap.size W w11) := on B_10.out (b11)
    clear qr0 qr1 qs0 qs1
    clear Rs_10 Is_10 Ks_10 Bb_10 Io_10 Ko_10 Bx_10 Ir_10 Kr_10 Rr_10
    clear b11
    clear Rr_11 Ir_11 Kr_11
    go_wp2_with (go_at_call 16; refine (num7_u _ _).mono ?_; rintro e w99 ⟨rfl, rfl⟩)
    refine (decode_u _ _ _ _ lb HLb.out HCb.out HZb.out Bb_11.out).mono ?_
    rintro e w12 ⟨v12, u12, rfl, hI12, hK12, b12⟩
    obtain ⟨am, nm, cm, rfl⟩ : ∃ a n c, v12 = .slice a n c := by obtain ⟨a, c, e, -⟩ := hI12.slice; exact ⟨a, _, c, e⟩
    obtain ⟨gm, mm, fm, rfl⟩ : ∃ a n c, u12 = .slice a n c := by obtain ⟨a, c, e, -⟩ := hK12.slice; exact ⟨a, _, c, e⟩
    have Im_12 : Hid (rItms.rd w12 (fun b => w11.heap.size ≤ b) [.slice am nm cm] ((Lf.decodeN lb).1)) := hI12.rd (by have := Lf.decodeN_len lb; omega)
    have Km_12 : Hid (rKids.rd w12 (fun b => w11.heap.size ≤ b) [.slice gm mm fm] ((Lf.decodeN lb).2)) := hK12.rd (by have := Lf.decodeN_len lb; omega)
    have Rs_12 : Hid (Row w12 (W.heap.size) 25 [.slice a n c, .slice a' n' c']) := Rs_11.out.below (b12)
    have Is_12 : Hid (rItms.rd w12 (fun b => b < W.heap.size) [.slice a n c] (l)) := Rep.below Is_11.out (b12)
    have Ks_12 : Hid (rKids.rd w12 (fun b => b < W.heap.size) [.slice a' n' c'] (ks)) := Rep.below Ks_11.out (b12)
    have Bb_12 : Hid (IsB w12 (ba) (bn) (lb)) := Bb_11.out.below (b12)
    have Io_12 : Hid (rItms.rd w12 (fun b => w2.heap.size ≤ b) [.slice ao no co] (l)) := Rep.below Io_11.out (b12)
    have Ko_12 : Hid (rKids.rd w12 (fun b => w2.heap.size ≤ b) [.slice go mo fo] (ks)) := Rep.below Ko_11.out (b12)
    have Bx_12 : Hid (IsB w12 (xx) (64) (Lf.enc (l, ks))) := Bx_11.out.below (b12)
    have B_12 : Hid (Below W.heap.size W w12) := on B_11.out (b12)
    clear Rs_11 Is_11 Ks_11 Bb_11 Io_11 Ko_11 Bx_11
    clear hI12 hK12 b12
    obtain ⟨w13, hw13, V13, b13, z13⟩ := boxedRow w12 28 [.slice am nm cm, .slice gm mm fm]
    have Rm_13 : Hid (Row w13 (w12.heap.size) 28 [.slice am nm cm, .slice gm mm fm]) := V13
    have Rs_13 : Hid (Row w13 (W.heap.size) 25 [.slice a n c, .slice a' n' c']) := Rs_12.out.below (b13)
    have Is_13 : Hid (rItms.rd w13 (fun b => b < W.heap.size) [.slice a n c] (l)) := Rep.below Is_12.out (b13)
    have Ks_13 : Hid (rKids.rd w13 (fun b => b < W.heap.size) [.slice a' n' c'] (ks)) := Rep.below Ks_12.out (b13)
    have Bb_13 : Hid (IsB w13 (ba) (bn) (lb)) := Bb_12.out.below (b13)
    have Io_13 : Hid (rItms.rd w13 (fun b => w2.heap.size ≤ b) [.slice ao no co] (l)) := Rep.below Io_12.out (b13)
    have Ko_13 : Hid (rKids.rd w13 (fun b => w2.heap.size ≤ b) [.slice go mo fo] (ks)) := Rep.below Ko_12.out (b13)
    have Bx_13 : Hid (IsB w13 (xx) (64) (Lf.enc (l, ks))) := Bx_12.out.below (b13)
    have Im_13 : Hid (rItms.rd w13 (fun b => w11.heap.size ≤ b) [.slice am nm cm] ((Lf.decodeN lb).1)) := Rep.below Im_12.out (b13)
    have Km_13 : Hid (rKids.rd w13 (fun b => w11.heap.size ≤ b) [.slice gm mm fm] ((Lf.decodeN lb).2)) := Rep.below Km_12.out (b13)
    have B_13 : Hid (Below W.heap.size W w13) := on B_12.out (b13)
    clear Rs_12 Is_12 Ks_12 Bb_12 Io_12 Ko_12 Bx_12 Im_12 Km_12
    clear V13 b13 z13
    by_cases hD : Lf.decodeE lb = 0
    · rw [hD]
      have HD : Hid _ := Lf.enc_decode hD
      clear hD
      obtain ⟨qm0, qm1⟩ := Rm_13.out.two
      go_wp2_with (go_at_call 16; refine (num7_u _ _).mono ?_; rintro e w99 ⟨rfl, rfl⟩)
      refine (encode_u _ _ _ _ _ _ _ _ _ (Lf.decodeN lb).1 (Lf.decodeN lb).2 Im_13.out Km_13.out).mono ?_
      rintro e w14 ⟨xy, yy, zy, rfl, ho14, b14⟩
      rw [show Lf.encodeE ((Lf.decodeN lb).1, (Lf.decodeN lb).2) = 0 from if_pos HD.out.1]
      rw [show Lf.encodeL ((Lf.decodeN lb).1, (Lf.decodeN lb).2) = lb from (if_pos HD.out.1).trans HD.out.2] at ho14
      obtain ⟨hx14, hy14, hz14⟩ := owns_isB ho14
      have By_14 : Hid (IsB w14 (xy) (yy) (lb)) := hx14
      have HCy : Hid (yy ≤ zy) := hy14
      have HZy : Hid (xy = none → zy = 0) := hz14
      have Rs_14 : Hid (Row w14 (W.heap.size) 25 [.slice a n c, .slice a' n' c']) := Rs_13.out.below (b14)
      have Is_14 : Hid (rItms.rd w14 (fun b => b < W.heap.size) [.slice a n c] (l)) := Rep.below Is_13.out (b14)
      have Ks_14 : Hid (rKids.rd w14 (fun b => b < W.heap.size) [.slice a' n' c'] (ks)) := Rep.below Ks_13.out (b14)
      have Bb_14 : Hid (IsB w14 (ba) (bn) (lb)) := Bb_13.out.below (b14)
      have Io_14 : Hid (rItms.rd w14 (fun b => w2.heap.size ≤ b) [.slice ao no co] (l)) := Rep.below Io_13.out (b14)
      have Ko_14 : Hid (rKids.rd w14 (fun b => w2.heap.size ≤ b) [.slice go mo fo] (ks)) := Rep.below Ko_13.out (b14)
      have Bx_14 : Hid (IsB w14 (xx) (64) (Lf.enc (l, ks))) := Bx_13.out.below (b14)
      have Im_14 : Hid (rItms.rd w14 (fun b => w11.heap.size ≤ b) [.slice am nm cm] ((Lf.decodeN lb).1)) := Rep.below Im_13.out (b14)
      have Km_14 : Hid (rKids.rd w14 (fun b => w11.heap.size ≤ b) [.slice gm mm fm] ((Lf.decodeN lb).2)) := Rep.below Km_13.out (b14)
      have Rm_14 : Hid (Row w14 (w12.heap.size) 28 [.slice am nm cm, .slice gm mm fm]) := Rm_13.out.below (b14)
      have B_14 : Hid (Below W.heap.size W w14) := on B_13.out (b14)
      clear qm0 qm1
      clear Rs_13 Is_13 Ks_13 Bb_13 Io_13 Ko_13 Bx_13 Im_13 Km_13 Rm_13
      clear hx14 hy14 hz14 ho14 b14
      have hbb : (lb == lb) = true := beq_self_eq_true _
      go_wp2_with (first | (go_at_call 16; refine (num7_u _ _).mono ?_; rintro e w99 ⟨rfl, rfl⟩) | (go_at_call 15; refine (sameBytes_any _ _ _ _ _ _ _ _ _ By_14.out Bb_14.out).mono ?_; rintro e w99 ⟨rfl, rfl⟩))
      go_ret
      exact ⟨rfl, B_14.out⟩
    · have HD : Hid (Lf.decodeN lb = ([], [])) := if_neg hD
      have hDb : (Lf.decodeE lb != 0) = true := bne_iff_ne.2 hD
      have hn0 : ((nm : Int) == 0) = true := by have h := (rList_len Im_13.out).1; rw [HD.out] at h; simp only [List.length_nil] at h; rw [beq_iff_eq]; omega
      have hm0 : ((mm : Int) == 0) = true := by have h := (rList_len Km_13.out).1; rw [HD.out] at h; simp only [List.length_nil] at h; rw [beq_iff_eq]; omega
      clear hD
      obtain ⟨qm0, qm1⟩ := Rm_13.out.two
      go_wp2_with (go_at_call 16; refine (num7_u _ _).mono ?_; rintro e w99 ⟨rfl, rfl⟩)
      go_ret
      exact ⟨rfl, B_13.out⟩

set_option maxRecDepth 100000 in
theorem lback_lifted (os : Os) (started : os.Started) (H : Type) (enc : TypeId × Value → H) :
    ReturnsInHanded {} Try.checked os 4 .any (Rows.leafBackSpec.pre6 enc Try.prog Try.f4 Rows.leafBackRow.domain false) (Rows.leafBackSpec.post enc Try.prog Try.f4 false true false false) := by
  refine returnsInHanded_of_change_sized (C := Try.checked) own started (by kernel_rfl) Try.func4
    (ChangeSpec.witness6 (enc := enc) (C := Try.checked) false ⟨#[], #[.agg #[.slice none 0 0, .slice none 0 0], .slice none 0 0], []⟩ 8 (by kernel_rfl) (by kernel_rfl) (by kernel_rfl) (by kernel_rfl)) ?_
  intro W base args ds gs before hval0 hW _ hsz0 _
  have hsz : (DataW.weightsEach Try.prog (Try.f4.params.toList ++ Rows.leafBackSpec.plain.varTypes Try.prog) (ds ++ gs)).all (· ≤ reachBytes) = true := hsz0
  clear hsz0
  have hval : ∀ (j : Nat) t v, Try.f4.params[j]? = some t → args[j]? = some v → Value.okWide Try.prog W .any base t v := hval0
  have hW' := hW
  obtain ⟨p, q, hA0, hV, rfl, hfz, hnd⟩ := hW
  have hA : DataW.TrodAll enc Try.prog W 0 (fun _ => true) true Try.f4.params.toList args.toList ds p := hA0
  rw [Try.params4] at hA hval hsz
  obtain ⟨v0, vs0, d0, ds0, p0, q0, hargs, rfl, rfl, h0, r0⟩ := trodAll_cons hA
  obtain ⟨v1, vs1, d1, ds1, p1, q1, rfl, rfl, rfl, h1, r1⟩ := trodAll_cons r0
  obtain ⟨rfl, rfl, rfl⟩ := trodAll_nil r1
  obtain rfl : args = #[v0, v1] := by cases args; simp_all
  obtain ⟨rfl, rfl⟩ := trodVars_none hV
  obtain ⟨c0, rfl, -⟩ := okWide_struct Try.underlying25 (hval 0 25 v0 rfl rfl)
  have k0 := h0
  have lt0 : ∀ x ∈ p0, x.block < W.heap.size := by obtain ⟨m, hm⟩ := k0; exact DataW.trod_lt m _ _ _ hm
  obtain ⟨x0, hx0⟩ := opens_node.arg h0 hsz (j := 0) rfl rfl
  obtain ⟨a1, len1, cap1, rfl⟩ := okWide_slice Try.underlying26 (hval 1 26 v1 rfl rfl)
  have k1 := h1
  have lt1 : ∀ x ∈ p1, x.block < W.heap.size := by obtain ⟨m, hm⟩ := k1; exact DataW.trod_lt m _ _ _ hm
  obtain ⟨x1, hx1⟩ := opens_octets.arg h1 hsz (j := 1) rfl rfl
  clear hA0 hval0
  refine (lback_walk c0.toList x0 a1 len1 cap1 x1 W hx0 hx1).mono fun e W' ⟨he, bel⟩ => ?_
  subst he
  exact ⟨_, rfl, _, _, _, [], _, [], hW', trodAll_mk1 (shut_bool Try.underlying4 _), (trodAll_cons_mk (Below.trod laidOut (by kernel_rfl) (of_decide_eq_true (by kernel_rfl)) k0 bel lt0) (trodAll_cons_mk (Below.trod laidOut (by kernel_rfl) (of_decide_eq_true (by kernel_rfl)) k1 bel lt1) trodAll_mk0)), rfl, bel.frame _, fun h => by cases h⟩

theorem leafBack_holds : Rows.LeafBackSaid :=
  OpenClaim.holds_of_wide 4 Try.f4 rfl rfl rfl rfl rfl rfl rfl ⟨rfl, rfl, rfl, rfl, rfl⟩ rfl rfl rfl rfl rfl (by kernel_rfl) Try.func4 (by kernel_rfl)
    (of_decide_eq_true (by kernel_rfl)) (by unfold Func.isWrapper; first | (rw [if_pos (by decide +kernel)]; kernel_rfl) | (rw [if_neg (by decide +kernel)]; exact ⟨rfl, rfl⟩))
    (fun os started H enc _ => lback_lifted os started H enc)

end Go.Proofs.Ytbglgplfjhiafaa
