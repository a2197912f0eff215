/-
  Any node as a page, any octets as a node, and which kid a key is in, are as the page says; what is handed in stays. Conditions: none.
-/
import Derived.Test.YtbglgplfjhiafaaIAlive
import Derived.Test.YtbglgplfjhiafaaIFrame
import Derived.Test.YtbglgplfjhiafaaJDec
import Derived.Test.YtbglgplfjhiafaaIDec
import Derived.Test.YtbglgplfjhiafaaBSame
import Derived.Test.YtbglgplfjhiafaaBCopy
import Derived.Test.YtbglgplfjhiafaaRBytes
namespace Go.Proofs.Ytbglgplfjhiafaa
open Go.ChangeShapes Go.WideShapes Go.ChangeAt Go.RowKit
set_option linter.unusedVariables false

theorem Lf.decodeN_len (b : List UInt8) : (Lf.decodeN b).1.length ≤ 3 ∧ (Lf.decodeN b).2.length ≤ 4 := by
  by_cases h : Lf.decodeE b = 0
  · have h1 := Lf.ok_iff.1 (Lf.enc_decode h).1
    have h2 := h1.few
    have h3 := h1.kids
    refine ⟨h2, ?_⟩
    rcases h3 with h3 | h3
    · rw [Lf.leaf_iff] at h3; omega
    · omega
  · rw [show Lf.decodeN b = ([], []) from if_neg h]
    simp

set_option maxRecDepth 20000 in
set_option maxHeartbeats 8000000 in
theorem ltells_walk (cs : List Value) (s : Nod) (ba : Option Addr) (bn bc : Nat) (lb : List UInt8) (key : Int) (W : World) (h0 : rNod.rd W (fun b => b < W.heap.size) cs s) (h1 : rBytes.rd W (fun b => b < W.heap.size) [.slice ba bn bc] lb) (hk0 : 0 ≤ key) (hk1 : key ≤ 18446744073709551615) :
    Calls Try.prog 3 #[.agg cs.toArray, .slice ba bn bc, .int .u64 key] W fun e W' => e = .returned (.bool true) ∧ Below W.heap.size W W' := by
  obtain ⟨ky, rfl⟩ : ∃ ky : UInt64, key = (ky.toNat : Int) := ⟨UInt64.ofNat key.toNat, by rw [UInt64.toNat_ofNat']; omega⟩
  clear hk0 hk1
  obtain ⟨a, n, c, a', n', c', rfl, hL, hK⟩ := rNod_rd h0
  obtain ⟨l, ks⟩ := s
  simp only at hL hK
  have HN : Hid (l.length = n) := (rList_len hL).1
  have HN' : Hid (ks.length = n') := (rList_len hK).1
  have HLB : Hid (l.length ≤ 8796093021952) := by unfold Hid; rw [HN.out]; have h : n * 16 ≤ 140737488351232 := (rList_len hL).2.2.2; omega
  have HKB : Hid (ks.length ≤ 17592186043904) := by unfold Hid; rw [HN'.out]; have h : n' * 8 ≤ 140737488351232 := (rList_len hK).2.2.2; omega
  rw [show ([.slice a n c, .slice a' n' c'] : List Value).toArray = #[.slice a n c, .slice a' n' c'] from rfl]
  obtain ⟨hB, hbc, hbnil, hbn⟩ := rBytes_isB h1
  have HCb : Hid (bn ≤ bc) := hbc
  have HZb : Hid (ba = none → bc = 0) := hbnil
  have HLb : Hid (bn ≤ 140737488351232) := hbn
  obtain ⟨w1, hw1, V1, b1, z1⟩ := boxedRow W 25 [.slice a n c, .slice a' n' c']
  have Rs_1 : Hid (Row w1 (W.heap.size) 25 [.slice a n c, .slice a' n' c']) := V1
  have B_1 : Hid (Below W.heap.size W w1) := b1
  have Is_1 : Hid (rItms.rd w1 (fun b => b < W.heap.size) [.slice a n c] (l)) := Rep.below hL b1
  have Ks_1 : Hid (rKids.rd w1 (fun b => b < W.heap.size) [.slice a' n' c'] (ks)) := Rep.below hK b1
  have Bb_1 : Hid (IsB w1 (ba) (bn) (lb)) := hB.below b1
  clear V1 b1 z1 hL hK h0 hB hbc hbnil hbn h1
  go_enter Try.func3, Try.ntmps3
  obtain ⟨qs0, qs1⟩ := Rs_1.out.two
  go_wp2_with (go_at_call 16; refine (num7_u _ _).mono ?_; rintro e w99 ⟨rfl, rfl⟩)
  refine (of_u _ _ _ _ _ _ _ _ _ l ks Is_1.out Ks_1.out).mono ?_
  rintro e w2 ⟨v2, u2, rfl, hI2, hK2, b2⟩
  obtain ⟨ao, no, co, rfl⟩ : ∃ a n c, v2 = .slice a n c := by obtain ⟨a, c, e, -⟩ := hI2.slice; exact ⟨a, _, c, e⟩
  obtain ⟨go, mo, fo, rfl⟩ : ∃ a n c, u2 = .slice a n c := by obtain ⟨a, c, e, -⟩ := hK2.slice; exact ⟨a, _, c, e⟩
  have Io_2 : Hid (rItms.rd w2 (fun b => w1.heap.size ≤ b) [.slice ao no co] (l)) := hI2.rd (HLB.out)
  have Ko_2 : Hid (rKids.rd w2 (fun b => w1.heap.size ≤ b) [.slice go mo fo] (ks)) := hK2.rd (HKB.out)
  have Rs_2 : Hid (Row w2 (W.heap.size) 25 [.slice a n c, .slice a' n' c']) := Rs_1.out.below (b2)
  have Is_2 : Hid (rItms.rd w2 (fun b => b < W.heap.size) [.slice a n c] (l)) := Rep.below Is_1.out (b2)
  have Ks_2 : Hid (rKids.rd w2 (fun b => b < W.heap.size) [.slice a' n' c'] (ks)) := Rep.below Ks_1.out (b2)
  have Bb_2 : Hid (IsB w2 (ba) (bn) (lb)) := Bb_1.out.below (b2)
  have B_2 : Hid (Below W.heap.size W w2) := on B_1.out (b2)
  clear qs0 qs1
  clear Rs_1 Is_1 Ks_1 Bb_1
  clear hI2 hK2 b2
  go_wp2_with (go_at_call 16; refine (num7_u _ _).mono ?_; rintro e w99 ⟨rfl, rfl⟩)
  refine (copy_u _ _ _ _ lb (by have := HLb.out; omega) HZb.out Bb_2.out).mono ?_
  rintro e w3 ⟨xi, zi, rfl, ho3, b3⟩
  obtain ⟨hx3, hy3, hz3⟩ := owns_isB ho3
  have Bi_3 : Hid (IsB w3 (xi) (bn) (lb)) := hx3
  have HCi : Hid (bn ≤ zi) := hy3
  have HZi : Hid (xi = none → zi = 0) := hz3
  have Rs_3 : Hid (Row w3 (W.heap.size) 25 [.slice a n c, .slice a' n' c']) := Rs_2.out.below (b3)
  have Is_3 : Hid (rItms.rd w3 (fun b => b < W.heap.size) [.slice a n c] (l)) := Rep.below Is_2.out (b3)
  have Ks_3 : Hid (rKids.rd w3 (fun b => b < W.heap.size) [.slice a' n' c'] (ks)) := Rep.below Ks_2.out (b3)
  have Bb_3 : Hid (IsB w3 (ba) (bn) (lb)) := Bb_2.out.below (b3)
  have Io_3 : Hid (rItms.rd w3 (fun b => w1.heap.size ≤ b) [.slice ao no co] (l)) := Rep.below Io_2.out (b3)
  have Ko_3 : Hid (rKids.rd w3 (fun b => w1.heap.size ≤ b) [.slice go mo fo] (ks)) := Rep.below Ko_2.out (b3)
  have B_3 : Hid (Below W.heap.size W w3) := on B_2.out (b3)
  clear Rs_2 Is_2 Ks_2 Bb_2 Io_2 Ko_2
  clear hx3 hy3 hz3 ho3 b3
  obtain ⟨w4, hw4, V4, b4, z4⟩ := boxedRow w3 28 [.slice ao no co, .slice go mo fo]
  have Ro_4 : Hid (Row w4 (w3.heap.size) 28 [.slice ao no co, .slice go mo fo]) := V4
  have Rs_4 : Hid (Row w4 (W.heap.size) 25 [.slice a n c, .slice a' n' c']) := Rs_3.out.below (b4)
  have Is_4 : Hid (rItms.rd w4 (fun b => b < W.heap.size) [.slice a n c] (l)) := Rep.below Is_3.out (b4)
  have Ks_4 : Hid (rKids.rd w4 (fun b => b < W.heap.size) [.slice a' n' c'] (ks)) := Rep.below Ks_3.out (b4)
  have Bb_4 : Hid (IsB w4 (ba) (bn) (lb)) := Bb_3.out.below (b4)
  have Io_4 : Hid (rItms.rd w4 (fun b => w1.heap.size ≤ b) [.slice ao no co] (l)) := Rep.below Io_3.out (b4)
  have Ko_4 : Hid (rKids.rd w4 (fun b => w1.heap.size ≤ b) [.slice go mo fo] (ks)) := Rep.below Ko_3.out (b4)
  have Bi_4 : Hid (IsB w4 (xi) (bn) (lb)) := Bi_3.out.below (b4)
  have B_4 : Hid (Below W.heap.size W w4) := on B_3.out (b4)
  clear Rs_3 Is_3 Ks_3 Bb_3 Io_3 Ko_3 Bi_3
  clear V4 b4 z4
  obtain ⟨qo0, qo1⟩ := Ro_4.out.two
  go_wp2_with (go_at_call 16; refine (num7_u _ _).mono ?_; rintro e w99 ⟨rfl, rfl⟩)
  refine (encode_u _ _ _ _ _ _ _ _ _ l ks Io_4.out Ko_4.out).mono ?_
  rintro e w5 ⟨xx, yx, zx, rfl, ho5, b5⟩
  obtain ⟨hx5, hy5, hz5⟩ := owns_isB ho5
  have Bx_5 : Hid (IsB w5 (xx) (yx) (Lf.encodeL (l, ks))) := hx5
  have HCx : Hid (yx ≤ zx) := hy5
  have HZx : Hid (xx = none → zx = 0) := hz5
  have Rs_5 : Hid (Row w5 (W.heap.size) 25 [.slice a n c, .slice a' n' c']) := Rs_4.out.below (b5)
  have Is_5 : Hid (rItms.rd w5 (fun b => b < W.heap.size) [.slice a n c] (l)) := Rep.below Is_4.out (b5)
  have Ks_5 : Hid (rKids.rd w5 (fun b => b < W.heap.size) [.slice a' n' c'] (ks)) := Rep.below Ks_4.out (b5)
  have Bb_5 : Hid (IsB w5 (ba) (bn) (lb)) := Bb_4.out.below (b5)
  have Io_5 : Hid (rItms.rd w5 (fun b => w1.heap.size ≤ b) [.slice ao no co] (l)) := Rep.below Io_4.out (b5)
  have Ko_5 : Hid (rKids.rd w5 (fun b => w1.heap.size ≤ b) [.slice go mo fo] (ks)) := Rep.below Ko_4.out (b5)
  have Bi_5 : Hid (IsB w5 (xi) (bn) (lb)) := Bi_4.out.below (b5)
  have Ro_5 : Hid (Row w5 (w3.heap.size) 28 [.slice ao no co, .slice go mo fo]) := Ro_4.out.below (b5)
  have B_5 : Hid (Below W.heap.size W w5) := on B_4.out (b5)
  clear qo0 qo1
  clear Rs_4 Is_4 Ks_4 Bb_4 Io_4 Ko_4 Bi_4 Ro_4
  clear hx5 hy5 hz5 ho5 b5
  obtain ⟨qs0, qs1⟩ := Rs_5.out.two
  go_wp2_with (go_at_call 16; refine (num7_u _ _).mono ?_; rintro e w99 ⟨rfl, rfl⟩)
  refine (refEncode_u _ _ _ _ _ _ _ _ _ l ks Is_5.out Ks_5.out).mono ?_
  rintro e w6 ⟨xy, yy, zy, rfl, ho6, b6⟩
  obtain ⟨hx6, hy6, hz6⟩ := owns_isB ho6
  have By_6 : Hid (IsB w6 (xy) (yy) (Lf.encodeL (l, ks))) := hx6
  have HCy : Hid (yy ≤ zy) := hy6
  have HZy : Hid (xy = none → zy = 0) := hz6
  have Rs_6 : Hid (Row w6 (W.heap.size) 25 [.slice a n c, .slice a' n' c']) := Rs_5.out.below (b6)
  have Is_6 : Hid (rItms.rd w6 (fun b => b < W.heap.size) [.slice a n c] (l)) := Rep.below Is_5.out (b6)
  have Ks_6 : Hid (rKids.rd w6 (fun b => b < W.heap.size) [.slice a' n' c'] (ks)) := Rep.below Ks_5.out (b6)
  have Bb_6 : Hid (IsB w6 (ba) (bn) (lb)) := Bb_5.out.below (b6)
  have Io_6 : Hid (rItms.rd w6 (fun b => w1.heap.size ≤ b) [.slice ao no co] (l)) := Rep.below Io_5.out (b6)
  have Ko_6 : Hid (rKids.rd w6 (fun b => w1.heap.size ≤ b) [.slice go mo fo] (ks)) := Rep.below Ko_5.out (b6)
  have Bi_6 : Hid (IsB w6 (xi) (bn) (lb)) := Bi_5.out.below (b6)
  have Ro_6 : Hid (Row w6 (w3.heap.size) 28 [.slice ao no co, .slice go mo fo]) := Ro_5.out.below (b6)
  have Bx_6 : Hid (IsB w6 (xx) (yx) (Lf.encodeL (l, ks))) := Bx_5.out.below (b6)
  have B_6 : Hid (Below W.heap.size W w6) := on B_5.out (b6)
  clear qs0 qs1
  clear Rs_5 Is_5 Ks_5 Bb_5 Io_5 Ko_5 Bi_5 Ro_5 Bx_5
  clear hx6 hy6 hz6 ho6 b6
  go_wp2_with (go_at_call 16; refine (num7_u _ _).mono ?_; rintro e w99 ⟨rfl, rfl⟩)
  refine (decode_u _ _ _ _ lb HLb.out HCi.out HZi.out Bi_6.out).mono ?_
  rintro e w7 ⟨v7, u7, rfl, hI7, hK7, b7⟩
  obtain ⟨av, nv, cv, rfl⟩ : ∃ a n c, v7 = .slice a n c := by obtain ⟨a, c, e, -⟩ := hI7.slice; exact ⟨a, _, c, e⟩
  obtain ⟨gv, mv, fv, rfl⟩ : ∃ a n c, u7 = .slice a n c := by obtain ⟨a, c, e, -⟩ := hK7.slice; exact ⟨a, _, c, e⟩
  have Iv_7 : Hid (rItms.rd w7 (fun b => w6.heap.size ≤ b) [.slice av nv cv] ((Lf.decodeN lb).1)) := hI7.rd (by have := Lf.decodeN_len lb; omega)
  have Kv_7 : Hid (rKids.rd w7 (fun b => w6.heap.size ≤ b) [.slice gv mv fv] ((Lf.decodeN lb).2)) := hK7.rd (by have := Lf.decodeN_len lb; omega)
  have Rs_7 : Hid (Row w7 (W.heap.size) 25 [.slice a n c, .slice a' n' c']) := Rs_6.out.below (b7)
  have Is_7 : Hid (rItms.rd w7 (fun b => b < W.heap.size) [.slice a n c] (l)) := Rep.below Is_6.out (b7)
  have Ks_7 : Hid (rKids.rd w7 (fun b => b < W.heap.size) [.slice a' n' c'] (ks)) := Rep.below Ks_6.out (b7)
  have Bb_7 : Hid (IsB w7 (ba) (bn) (lb)) := Bb_6.out.below (b7)
  have Io_7 : Hid (rItms.rd w7 (fun b => w1.heap.size ≤ b) [.slice ao no co] (l)) := Rep.below Io_6.out (b7)
  have Ko_7 : Hid (rKids.rd w7 (fun b => w1.heap.size ≤ b) [.slice go mo fo] (ks)) := Rep.below Ko_6.out (b7)
  have Bi_7 : Hid (IsB w7 (xi) (bn) (lb)) := Bi_6.out.below (b7)
  have Ro_7 : Hid (Row w7 (w3.heap.size) 28 [.slice ao no co, .slice go mo fo]) := Ro_6.out.below (b7)
  have Bx_7 : Hid (IsB w7 (xx) (yx) (Lf.encodeL (l, ks))) := Bx_6.out.below (b7)
  have By_7 : Hid (IsB w7 (xy) (yy) (Lf.encodeL (l, ks))) := By_6.out.below (b7)
  have B_7 : Hid (Below W.heap.size W w7) := on B_6.out (b7)
  clear Rs_6 Is_6 Ks_6 Bb_6 Io_6 Ko_6 Bi_6 Ro_6 Bx_6 By_6
  clear hI7 hK7 b7
  obtain ⟨w8, hw8, V8, b8, z8⟩ := boxedRow w7 28 [.slice av nv cv, .slice gv mv fv]
  have Rv_8 : Hid (Row w8 (w7.heap.size) 28 [.slice av nv cv, .slice gv mv fv]) := V8
  have Rs_8 : Hid (Row w8 (W.heap.size) 25 [.slice a n c, .slice a' n' c']) := Rs_7.out.below (b8)
  have Is_8 : Hid (rItms.rd w8 (fun b => b < W.heap.size) [.slice a n c] (l)) := Rep.below Is_7.out (b8)
  have Ks_8 : Hid (rKids.rd w8 (fun b => b < W.heap.size) [.slice a' n' c'] (ks)) := Rep.below Ks_7.out (b8)
  have Bb_8 : Hid (IsB w8 (ba) (bn) (lb)) := Bb_7.out.below (b8)
  have Io_8 : Hid (rItms.rd w8 (fun b => w1.heap.size ≤ b) [.slice ao no co] (l)) := Rep.below Io_7.out (b8)
  have Ko_8 : Hid (rKids.rd w8 (fun b => w1.heap.size ≤ b) [.slice go mo fo] (ks)) := Rep.below Ko_7.out (b8)
  have Bi_8 : Hid (IsB w8 (xi) (bn) (lb)) := Bi_7.out.below (b8)
  have Ro_8 : Hid (Row w8 (w3.heap.size) 28 [.slice ao no co, .slice go mo fo]) := Ro_7.out.below (b8)
  have Bx_8 : Hid (IsB w8 (xx) (yx) (Lf.encodeL (l, ks))) := Bx_7.out.below (b8)
  have By_8 : Hid (IsB w8 (xy) (yy) (Lf.encodeL (l, ks))) := By_7.out.below (b8)
  have Iv_8 : Hid (rItms.rd w8 (fun b => w6.heap.size ≤ b) [.slice av nv cv] ((Lf.decodeN lb).1)) := Rep.below Iv_7.out (b8)
  have Kv_8 : Hid (rKids.rd w8 (fun b => w6.heap.size ≤ b) [.slice gv mv fv] ((Lf.decodeN lb).2)) := Rep.below Kv_7.out (b8)
  have B_8 : Hid (Below W.heap.size W w8) := on B_7.out (b8)
  clear Rs_7 Is_7 Ks_7 Bb_7 Io_7 Ko_7 Bi_7 Ro_7 Bx_7 By_7 Iv_7 Kv_7
  clear V8 b8 z8
  go_wp2_with (go_at_call 16; refine (num7_u _ _).mono ?_; rintro e w99 ⟨rfl, rfl⟩)
  refine (refDecode_u _ _ _ _ lb HLb.out HCb.out HZb.out Bb_8.out).mono ?_
  rintro e w9 ⟨v9, u9, rfl, hI9, hK9, b9⟩
  obtain ⟨ar, nr, cr, rfl⟩ : ∃ a n c, v9 = .slice a n c := by obtain ⟨a, c, e, -⟩ := hI9.slice; exact ⟨a, _, c, e⟩
  obtain ⟨gr, mr, fr, rfl⟩ : ∃ a n c, u9 = .slice a n c := by obtain ⟨a, c, e, -⟩ := hK9.slice; exact ⟨a, _, c, e⟩
  have Ir_9 : Hid (rItms.rd w9 (fun b => w8.heap.size ≤ b) [.slice ar nr cr] ((Lf.decodeN lb).1)) := hI9.rd (by have := Lf.decodeN_len lb; omega)
  have Kr_9 : Hid (rKids.rd w9 (fun b => w8.heap.size ≤ b) [.slice gr mr fr] ((Lf.decodeN lb).2)) := hK9.rd (by have := Lf.decodeN_len lb; omega)
  have Rs_9 : Hid (Row w9 (W.heap.size) 25 [.slice a n c, .slice a' n' c']) := Rs_8.out.below (b9)
  have Is_9 : Hid (rItms.rd w9 (fun b => b < W.heap.size) [.slice a n c] (l)) := Rep.below Is_8.out (b9)
  have Ks_9 : Hid (rKids.rd w9 (fun b => b < W.heap.size) [.slice a' n' c'] (ks)) := Rep.below Ks_8.out (b9)
  have Bb_9 : Hid (IsB w9 (ba) (bn) (lb)) := Bb_8.out.below (b9)
  have Io_9 : Hid (rItms.rd w9 (fun b => w1.heap.size ≤ b) [.slice ao no co] (l)) := Rep.below Io_8.out (b9)
  have Ko_9 : Hid (rKids.rd w9 (fun b => w1.heap.size ≤ b) [.slice go mo fo] (ks)) := Rep.below Ko_8.out (b9)
  have Bi_9 : Hid (IsB w9 (xi) (bn) (lb)) := Bi_8.out.below (b9)
  have Ro_9 : Hid (Row w9 (w3.heap.size) 28 [.slice ao no co, .slice go mo fo]) := Ro_8.out.below (b9)
  have Bx_9 : Hid (IsB w9 (xx) (yx) (Lf.encodeL (l, ks))) := Bx_8.out.below (b9)
  have By_9 : Hid (IsB w9 (xy) (yy) (Lf.encodeL (l, ks))) := By_8.out.below (b9)
  have Iv_9 : Hid (rItms.rd w9 (fun b => w6.heap.size ≤ b) [.slice av nv cv] ((Lf.decodeN lb).1)) := Rep.below Iv_8.out (b9)
  have Kv_9 : Hid (rKids.rd w9 (fun b => w6.heap.size ≤ b) [.slice gv mv fv] ((Lf.decodeN lb).2)) := Rep.below Kv_8.out (b9)
  have Rv_9 : Hid (Row w9 (w7.heap.size) 28 [.slice av nv cv, .slice gv mv fv]) := Rv_8.out.below (b9)
  have B_9 : Hid (Below W.heap.size W w9) := on B_8.out (b9)
  clear Rs_8 Is_8 Ks_8 Bb_8 Io_8 Ko_8 Bi_8 Ro_8 Bx_8 By_8 Iv_8 Kv_8 Rv_8
  clear hI9 hK9 b9
  obtain ⟨w10, hw10, V10, b10, z10⟩ := boxedRow w9 25 [.slice ar nr cr, .slice gr mr fr]
  have Rr_10 : Hid (Row w10 (w9.heap.size) 25 [.slice ar nr cr, .slice gr mr fr]) := V10
  have Rs_10 : Hid (Row w10 (W.heap.size) 25 [.slice a n c, .slice a' n' c']) := Rs_9.out.below (b10)
  have Is_10 : Hid (rItms.rd w10 (fun b => b < W.heap.size) [.slice a n c] (l)) := Rep.below Is_9.out (b10)
  have Ks_10 : Hid (rKids.rd w10 (fun b => b < W.heap.size) [.slice a' n' c'] (ks)) := Rep.below Ks_9.out (b10)
  have Bb_10 : Hid (IsB w10 (ba) (bn) (lb)) := Bb_9.out.below (b10)
  have Io_10 : Hid (rItms.rd w10 (fun b => w1.heap.size ≤ b) [.slice ao no co] (l)) := Rep.below Io_9.out (b10)
  have Ko_10 : Hid (rKids.rd w10 (fun b => w1.heap.size ≤ b) [.slice go mo fo] (ks)) := Rep.below Ko_9.out (b10)
  have Bi_10 : Hid (IsB w10 (xi) (bn) (lb)) := Bi_9.out.below (b10)
  have Ro_10 : Hid (Row w10 (w3.heap.size) 28 [.slice ao no co, .slice go mo fo]) := Ro_9.out.below (b10)
  have Bx_10 : Hid (IsB w10 (xx) (yx) (Lf.encodeL (l, ks))) := Bx_9.out.below (b10)
  have By_10 : Hid (IsB w10 (xy) (yy) (Lf.encodeL (l, ks))) := By_9.out.below (b10)
  have Iv_10 : Hid (rItms.rd w10 (fun b => w6.heap.size ≤ b) [.slice av nv cv] ((Lf.decodeN lb).1)) := Rep.below Iv_9.out (b10)
  have Kv_10 : Hid (rKids.rd w10 (fun b => w6.heap.size ≤ b) [.slice gv mv fv] ((Lf.decodeN lb).2)) := Rep.below Kv_9.out (b10)
  have Rv_10 : Hid (Row w10 (w7.heap.size) 28 [.slice av nv cv, .slice gv mv fv]) := Rv_9.out.below (b10)
  have Ir_10 : Hid (rItms.rd w10 (fun b => w8.heap.size ≤ b) [.slice ar nr cr] ((Lf.decodeN lb).1)) := Rep.below Ir_9.out (b10)
  have Kr_10 : Hid (rKids.rd w10 (fun b => w8.heap.size ≤ b) [.slice gr mr fr] ((Lf.decodeN lb).2)) := Rep.below Kr_9.out (b10)
  have B_10 : Hid (Below W.heap.size W w10) := on B_9.out (b10)
  clear Rs_9 Is_9 Ks_9 Bb_9 Io_9 Ko_9 Bi_9 Ro_9 Bx_9 By_9 Iv_9 Kv_9 Rv_9 Ir_9 Kr_9
  clear V10 b10 z10
  have ee1 : (Lf.encodeE (l, ks) != Lf.encodeE (l, ks)) = false := bne_self_eq_false _
  have ee2 : (Lf.decodeE lb != Lf.decodeE lb) = false := bne_self_eq_false _
  have ee3 : (((Lf.way (l, ks) ky : Nat) : Int) != ((Lf.way (l, ks) ky : Nat) : Int)) = false := bne_self_eq_false _
  have ee4 : (Lf.encodeE (l, ks) == Lf.encodeE (l, ks)) = true := beq_self_eq_true _
  have bb1 : (Lf.encodeL (l, ks) == Lf.encodeL (l, ks)) = true := beq_self_eq_true _
  have bb2 : (lb == lb) = true := beq_self_eq_true _
  have SK : Hid (∀ {w' : World}, Below w10.heap.size w10 w' → w'.cell? ⟨W.heap.size, 0, none⟩ = some (.slice a n c) ∧ w'.cell? ⟨W.heap.size, 1, none⟩ = some (.slice a' n' c') ∧ w'.cell? ⟨w3.heap.size, 0, none⟩ = some (.slice ao no co) ∧ w'.cell? ⟨w3.heap.size, 1, none⟩ = some (.slice go mo fo) ∧ w'.cell? ⟨w7.heap.size, 0, none⟩ = some (.slice av nv cv) ∧ w'.cell? ⟨w7.heap.size, 1, none⟩ = some (.slice gv mv fv) ∧ w'.cell? ⟨w9.heap.size, 0, none⟩ = some (.slice ar nr cr) ∧ w'.cell? ⟨w9.heap.size, 1, none⟩ = some (.slice gr mr fr)) := fun b => ⟨(Rs_10.out.below b).two.1, (Rs_10.out.below b).two.2, (Ro_10.out.below b).two.1, (Ro_10.out.below b).two.2, (Rv_10.out.below b).two.1, (Rv_10.out.below b).two.2, (Rr_10.out.below b).two.1, (Rr_10.out.below b).two.2⟩
  go_wp2_with (go_at_call 16; refine (num7_u _ _).mono ?_; rintro e w99 ⟨rfl, rfl⟩)
  refine wp_region_held_drew (S := (fun w' : World => w'.cell? ⟨W.heap.size, 0, none⟩ = some (.slice a n c) ∧ w'.cell? ⟨W.heap.size, 1, none⟩ = some (.slice a' n' c') ∧ w'.cell? ⟨w3.heap.size, 0, none⟩ = some (.slice ao no co) ∧ w'.cell? ⟨w3.heap.size, 1, none⟩ = some (.slice go mo fo) ∧ w'.cell? ⟨w7.heap.size, 0, none⟩ = some (.slice av nv cv) ∧ w'.cell? ⟨w7.heap.size, 1, none⟩ = some (.slice gv mv fv) ∧ w'.cell? ⟨w9.heap.size, 0, none⟩ = some (.slice ar nr cr) ∧ w'.cell? ⟨w9.heap.size, 1, none⟩ = some (.slice gr mr fr))) (by kernel_rfl) (SK.out ((Below.refl _ _).drew)) (fun hHeld => ?_)
  refine wpAnyH_takeL (i := 0) (v := ?_) rfl rfl (by kernel_rfl) (by kernel_rfl) (by kernel_rfl) (fun _ _ _ h => h) (Or.inl ⟨by rfl, ?_⟩) (by assumption) ?_
  rotate_left
  · intro w hSw
    try dsimp only at hSw
    go_simp
    all_goals with_reducible rfl
  simp only [List.set_cons_zero, List.set_cons_succ]
  refine wpAnyH_takeL (i := 1) (v := ?_) rfl rfl (by kernel_rfl) (by kernel_rfl) (by kernel_rfl) (fun _ _ _ h => h) (Or.inl ⟨by rfl, ?_⟩) (by assumption) ?_
  rotate_left
  · intro w hSw
    try dsimp only at hSw
    go_simp
    all_goals with_reducible rfl
  simp only [List.set_cons_zero, List.set_cons_succ]
  refine wpAnyH_ready (rs := [2]) (by kernel_rfl) (by simp) ?_
  refine AllReadyH.cons rfl (fun K hK => ?_) ?_
  · go_simp
    go_at_call 15
    refine Calls.mono (sameBytes_any _ _ _ _ _ _ _ _ _ (Bx_10.out.below ((Below.refl _ _).drew)) (By_10.out.below ((Below.refl _ _).drew))) ?_
    rintro e x9 ⟨rfl, rfl⟩
    rw [beq_self_eq_true]
    go_simp
    refine hK.out _ _ ?_ (fun hHeld => ?_)
    · try dsimp only
      exact SK.out ((Below.refl _ _).drew)
    clear hK K
    refine wpAnyH_takeL (i := 3) (v := ?_) rfl rfl (by kernel_rfl) (by kernel_rfl) (by kernel_rfl) (fun _ _ _ h => h) (Or.inl ⟨by rfl, ?_⟩) (by assumption) ?_
    rotate_left
    · intro w hSw
      try dsimp only at hSw
      go_simp
      all_goals with_reducible rfl
    simp only [List.set_cons_zero, List.set_cons_succ]
    refine wpAnyH_takeL (i := 4) (v := ?_) rfl rfl (by kernel_rfl) (by kernel_rfl) (by kernel_rfl) (fun _ _ _ h => h) (Or.inl ⟨by rfl, ?_⟩) (by assumption) ?_
    rotate_left
    · intro w hSw
      try dsimp only at hSw
      go_simp
      all_goals with_reducible rfl
    simp only [List.set_cons_zero, List.set_cons_succ]
    refine wpAnyH_takeL (i := 5) (v := ?_) rfl rfl (by kernel_rfl) (by kernel_rfl) (by kernel_rfl) (fun _ _ _ h => h) (Or.inl ⟨by rfl, ?_⟩) (by assumption) ?_
    rotate_left
    · intro w hSw
      try dsimp only at hSw
      go_simp
      all_goals with_reducible rfl
    simp only [List.set_cons_zero, List.set_cons_succ]
    refine wpAnyH_takeL (i := 7) (v := ?_) rfl rfl (by kernel_rfl) (by kernel_rfl) (by kernel_rfl) (fun _ _ _ h => h) (Or.inl ⟨by rfl, ?_⟩) (by assumption) ?_
    rotate_left
    · intro w hSw
      try dsimp only at hSw
      go_simp
      all_goals with_reducible rfl
    simp only [List.set_cons_zero, List.set_cons_succ]
    refine wpAnyH_ready (rs := [6]) (by kernel_rfl) (by simp) ?_
    refine AllReadyH.cons rfl (fun K hK => ?_) ?_
    · go_simp
      go_at_call 16
      refine Calls.mono (num7_u _ _) ?_
      rintro e x9 ⟨rfl, rfl⟩
      go_simp
      refine hK.out _ _ ?_ (fun hHeld => ?_)
      · try dsimp only
        exact SK.out ((Below.refl _ _).drew)
      clear hK K
      refine wpAnyH_takeL (i := 8) (v := ?_) rfl rfl (by kernel_rfl) (by kernel_rfl) (by kernel_rfl) (fun _ _ _ h => h) (Or.inl ⟨by rfl, ?_⟩) (by assumption) ?_
      rotate_left
      · intro w hSw
        try dsimp only at hSw
        go_simp
        all_goals with_reducible rfl
      simp only [List.set_cons_zero, List.set_cons_succ]
      refine wpAnyH_takeL (i := 9) (v := ?_) rfl rfl (by kernel_rfl) (by kernel_rfl) (by kernel_rfl) (fun _ _ _ h => h) (Or.inl ⟨by rfl, ?_⟩) (by assumption) ?_
      rotate_left
      · intro w hSw
        try dsimp only at hSw
        go_simp
        all_goals with_reducible rfl
      simp only [List.set_cons_zero, List.set_cons_succ]
      refine wpAnyH_takeL (i := 10) (v := ?_) rfl rfl (by kernel_rfl) (by kernel_rfl) (by kernel_rfl) (fun _ _ _ h => h) (Or.inl ⟨by rfl, ?_⟩) (by assumption) ?_
      rotate_left
      · intro w hSw
        try dsimp only at hSw
        go_simp
        all_goals with_reducible rfl
      simp only [List.set_cons_zero, List.set_cons_succ]
      refine wpAnyH_takeL (i := 11) (v := ?_) rfl rfl (by kernel_rfl) (by kernel_rfl) (by kernel_rfl) (fun _ _ _ h => h) (Or.inl ⟨by rfl, ?_⟩) (by assumption) ?_
      rotate_left
      · intro w hSw
        try dsimp only at hSw
        go_simp
        all_goals with_reducible rfl
      simp only [List.set_cons_zero, List.set_cons_succ]
      refine wpAnyH_takeL (i := 12) (v := ?_) rfl rfl (by kernel_rfl) (by kernel_rfl) (by kernel_rfl) (fun _ _ _ h => h) (Or.inl ⟨by rfl, ?_⟩) (by assumption) ?_
      rotate_left
      · intro w hSw
        try dsimp only at hSw
        go_simp
        all_goals with_reducible rfl
      simp only [List.set_cons_zero, List.set_cons_succ]
      refine wpAnyH_ready (rs := [13]) (by kernel_rfl) (by simp) ?_
      refine AllReadyH.cons rfl (fun K hK => ?_) ?_
      · go_simp
        go_at_call 17
        refine Calls.mono (alike_u _ _ _ _ _ _ _ _ _ _ _ _ _ _ _ _ _ _ _ (Rep.below Iv_10.out ((Below.refl _ _).drew)) (Rep.below Kv_10.out ((Below.refl _ _).drew)) (Rep.below Ir_10.out ((Below.refl _ _).drew)) (Rep.below Kr_10.out ((Below.refl _ _).drew))) ?_
        rintro e xA ⟨rfl, bA⟩
        have DA : Hid (Below w10.heap.size w10 xA) := (below_drew_pre0 bA)
        clear bA
        go_simp
        refine hK.out _ _ ?_ (fun hHeld => ?_)
        · try dsimp only
          exact SK.out (DA.out)
        clear hK K
        refine wpAnyH_takeL (i := 14) (v := ?_) rfl rfl (by kernel_rfl) (by kernel_rfl) (by kernel_rfl) (fun _ _ _ h => h) (Or.inl ⟨by rfl, ?_⟩) (by assumption) ?_
        rotate_left
        · intro w hSw
          try dsimp only at hSw
          go_simp
          all_goals with_reducible rfl
        simp only [List.set_cons_zero, List.set_cons_succ]
        refine wpAnyH_takeL (i := 15) (v := ?_) rfl rfl (by kernel_rfl) (by kernel_rfl) (by kernel_rfl) (fun _ _ _ h => h) (Or.inl ⟨by rfl, ?_⟩) (by assumption) ?_
        rotate_left
        · intro w hSw
          try dsimp only at hSw
          go_simp
          all_goals with_reducible rfl
        simp only [List.set_cons_zero, List.set_cons_succ]
        refine wpAnyH_takeL (i := 16) (v := ?_) rfl rfl (by kernel_rfl) (by kernel_rfl) (by kernel_rfl) (fun _ _ _ h => h) (Or.inl ⟨by rfl, ?_⟩) (by assumption) ?_
        rotate_left
        · intro w hSw
          try dsimp only at hSw
          go_simp
          all_goals with_reducible rfl
        simp only [List.set_cons_zero, List.set_cons_succ]
        refine wpAnyH_takeL (i := 17) (v := ?_) rfl rfl (by kernel_rfl) (by kernel_rfl) (by kernel_rfl) (fun _ _ _ h => h) (Or.inl ⟨by rfl, ?_⟩) (by assumption) ?_
        rotate_left
        · intro w hSw
          try dsimp only at hSw
          go_simp
          all_goals with_reducible rfl
        simp only [List.set_cons_zero, List.set_cons_succ]
        refine wpAnyH_takeL (i := 19) (v := ?_) rfl rfl (by kernel_rfl) (by kernel_rfl) (by kernel_rfl) (fun _ _ _ h => h) (Or.inl ⟨by rfl, ?_⟩) (by assumption) ?_
        rotate_left
        · intro w hSw
          try dsimp only at hSw
          go_simp
          all_goals with_reducible rfl
        simp only [List.set_cons_zero, List.set_cons_succ]
        refine wpAnyH_ready (rs := [18]) (by kernel_rfl) (by simp) ?_
        refine AllReadyH.cons rfl (fun K hK => ?_) ?_
        · go_simp
          go_at_call 16
          refine Calls.mono (num7_u _ _) ?_
          rintro e x9 ⟨rfl, rfl⟩
          go_simp
          refine hK.out _ _ ?_ (fun hHeld => ?_)
          · try dsimp only
            exact SK.out (DA.out)
          clear hK K
          refine wpAnyH_takeL (i := 20) (v := ?_) rfl rfl (by kernel_rfl) (by kernel_rfl) (by kernel_rfl) (fun _ _ _ h => h) (Or.inl ⟨by rfl, ?_⟩) (by assumption) ?_
          rotate_left
          · intro w hSw
            try dsimp only at hSw
            go_simp
            all_goals with_reducible rfl
          simp only [List.set_cons_zero, List.set_cons_succ]
          refine wpAnyH_takeL (i := 21) (v := ?_) rfl rfl (by kernel_rfl) (by kernel_rfl) (by kernel_rfl) (fun _ _ _ h => h) (Or.inl ⟨by rfl, ?_⟩) (by assumption) ?_
          rotate_left
          · intro w hSw
            try dsimp only at hSw
            go_simp
            all_goals with_reducible rfl
          simp only [List.set_cons_zero, List.set_cons_succ]
          refine wpAnyH_takeL (i := 22) (v := ?_) rfl rfl (by kernel_rfl) (by kernel_rfl) (by kernel_rfl) (fun _ _ _ h => h) (Or.inl ⟨by rfl, ?_⟩) (by assumption) ?_
          rotate_left
          · intro w hSw
            try dsimp only at hSw
            go_simp
            all_goals with_reducible rfl
          simp only [List.set_cons_zero, List.set_cons_succ]
          refine wpAnyH_takeL (i := 23) (v := ?_) rfl rfl (by kernel_rfl) (by kernel_rfl) (by kernel_rfl) (fun _ _ _ h => h) (Or.inl ⟨by rfl, ?_⟩) (by assumption) ?_
          rotate_left
          · intro w hSw
            try dsimp only at hSw
            go_simp
            all_goals with_reducible rfl
          simp only [List.set_cons_zero, List.set_cons_succ]
          refine wpAnyH_takeL (i := 24) (v := ?_) rfl rfl (by kernel_rfl) (by kernel_rfl) (by kernel_rfl) (fun _ _ _ h => h) (Or.inl ⟨by rfl, ?_⟩) (by assumption) ?_
          rotate_left
          · intro w hSw
            try dsimp only at hSw
            go_simp
            all_goals with_reducible rfl
          simp only [List.set_cons_zero, List.set_cons_succ]
          refine wpAnyH_takeL (i := 26) (v := ?_) rfl rfl (by kernel_rfl) (by kernel_rfl) (by kernel_rfl) (fun _ _ _ h => h) (Or.inl ⟨by rfl, ?_⟩) (by assumption) ?_
          rotate_left
          · intro w hSw
            try dsimp only at hSw
            go_simp
            all_goals with_reducible rfl
          simp only [List.set_cons_zero, List.set_cons_succ]
          refine wpAnyH_takeL (i := 27) (v := ?_) rfl rfl (by kernel_rfl) (by kernel_rfl) (by kernel_rfl) (fun _ _ _ h => h) (Or.inl ⟨by rfl, ?_⟩) (by assumption) ?_
          rotate_left
          · intro w hSw
            try dsimp only at hSw
            go_simp
            all_goals with_reducible rfl
          simp only [List.set_cons_zero, List.set_cons_succ]
          refine wpAnyH_ready (rs := [25]) (by kernel_rfl) (by simp) ?_
          refine AllReadyH.cons rfl (fun K hK => ?_) ?_
          · go_simp
            go_at_call 18
            refine Calls.mono (way_u _ _ _ _ _ _ l ks (Rep.below Io_10.out (DA.out)) ky) ?_
            rintro e xC ⟨rfl, bC⟩
            have DC : Hid (Below w10.heap.size w10 xC) := on DA.out bC
            clear bC
            go_simp
            refine hK.out _ _ ?_ (fun hHeld => ?_)
            · try dsimp only
              exact SK.out (DC.out)
            clear hK K
            refine wpAnyH_ready (rs := [28]) (by kernel_rfl) (by simp) ?_
            refine AllReadyH.cons rfl (fun K hK => ?_) ?_
            · go_simp
              go_at_call 19
              refine Calls.mono (refWay_u _ _ _ _ _ _ l ks (Rep.below Is_10.out (DC.out)) ky) ?_
              rintro e xD ⟨rfl, bD⟩
              have DD : Hid (Below w10.heap.size w10 xD) := on DC.out bD
              clear bD
              go_simp
              refine hK.out _ _ ?_ (fun hHeld => ?_)
              · try dsimp only
                exact SK.out (DD.out)
              clear hK K
              refine wpAnyH_takeL (i := 29) (v := ?_) rfl rfl (by kernel_rfl) (by kernel_rfl) (by kernel_rfl) (fun _ _ _ h => h) (Or.inl ⟨by rfl, ?_⟩) (by assumption) ?_
              rotate_left
              · intro w hSw
                try dsimp only at hSw
                go_simp
                all_goals with_reducible rfl
              simp only [List.set_cons_zero, List.set_cons_succ]
              refine wpAnyH_takeL (i := 30) (v := ?_) rfl rfl (by kernel_rfl) (by kernel_rfl) (by kernel_rfl) (fun _ _ _ h => h) (Or.inl ⟨by rfl, ?_⟩) (by assumption) ?_
              rotate_left
              · intro w hSw
                try dsimp only at hSw
                go_simp
                all_goals with_reducible rfl
              simp only [List.set_cons_zero, List.set_cons_succ]
              refine wpAnyH_done (by kernel_rfl) ?_ _
              clear hHeld
              go_wp2_with fail
              refine wp_region_held_drew (S := (fun w' : World => w'.cell? ⟨W.heap.size, 0, none⟩ = some (.slice a n c) ∧ w'.cell? ⟨W.heap.size, 1, none⟩ = some (.slice a' n' c') ∧ w'.cell? ⟨w3.heap.size, 0, none⟩ = some (.slice ao no co) ∧ w'.cell? ⟨w3.heap.size, 1, none⟩ = some (.slice go mo fo) ∧ w'.cell? ⟨w7.heap.size, 0, none⟩ = some (.slice av nv cv) ∧ w'.cell? ⟨w7.heap.size, 1, none⟩ = some (.slice gv mv fv) ∧ w'.cell? ⟨w9.heap.size, 0, none⟩ = some (.slice ar nr cr) ∧ w'.cell? ⟨w9.heap.size, 1, none⟩ = some (.slice gr mr fr))) (by kernel_rfl) (SK.out (DD.out.drew)) (fun hHeld => ?_)
              refine wpAnyH_takeL (i := 0) (v := ?_) rfl rfl (by kernel_rfl) (by kernel_rfl) (by kernel_rfl) (fun _ _ _ h => h) (Or.inl ⟨by rfl, ?_⟩) (by assumption) ?_
              rotate_left
              · intro w hSw
                try dsimp only at hSw
                go_simp
                all_goals with_reducible rfl
              simp only [List.set_cons_zero, List.set_cons_succ]
              refine wpAnyH_takeL (i := 3) (v := ?_) rfl rfl (by kernel_rfl) (by kernel_rfl) (by kernel_rfl) (fun _ _ _ h => h) (Or.inl ⟨by rfl, ?_⟩) (by assumption) ?_
              rotate_left
              · intro w hSw
                try dsimp only at hSw
                go_simp
                all_goals with_reducible rfl
              simp only [List.set_cons_zero, List.set_cons_succ]
              refine wpAnyH_ready (rs := [1]) (by kernel_rfl) (by simp) ?_
              refine AllReadyH.cons rfl (fun K hK => ?_) ?_
              · go_simp
                go_at_call 20
                refine Calls.mono (check_u _ _ _ _ _ _ _ _ _ l ks (Rep.below Io_10.out (DD.out.drew)) (Rep.below Ko_10.out (DD.out.drew))) ?_
                rintro e xE ⟨rfl, bE⟩
                have DE : Hid (Below w10.heap.size w10 xE) := on DD.out (below_drew_pre0 bE)
                clear bE
                go_simp
                refine hK.out _ _ ?_ (fun hHeld => ?_)
                · try dsimp only
                  exact SK.out (DE.out)
                clear hK K
                refine wpAnyH_ready (rs := [2]) (by kernel_rfl) (by simp) ?_
                refine AllReadyH.cons rfl (fun K hK => ?_) ?_
                · go_simp
                  go_at_call 16
                  refine Calls.mono (num7_u _ _) ?_
                  rintro e x9 ⟨rfl, rfl⟩
                  go_simp
                  refine hK.out _ _ ?_ (fun hHeld => ?_)
                  · try dsimp only
                    exact SK.out (DE.out)
                  clear hK K
                  refine wpAnyH_ready (rs := [4]) (by kernel_rfl) (by simp) ?_
                  refine AllReadyH.cons rfl (fun K hK => ?_) ?_
                  · go_simp
                    go_at_call 21
                    refine Calls.mono (refCheck_u _ _ _ _ _ _ _ _ _ l ks (Rep.below Is_10.out (DE.out)) (Rep.below Ks_10.out (DE.out))) ?_
                    rintro e xF ⟨rfl, bF⟩
                    have DF : Hid (Below w10.heap.size w10 xF) := on DE.out bF
                    clear bF
                    go_simp
                    refine hK.out _ _ ?_ (fun hHeld => ?_)
                    · try dsimp only
                      exact SK.out (DF.out)
                    clear hK K
                    refine wpAnyH_takeL (i := 5) (v := ?_) rfl rfl (by kernel_rfl) (by kernel_rfl) (by kernel_rfl) (fun _ _ _ h => h) (Or.inl ⟨by rfl, ?_⟩) (by assumption) ?_
                    rotate_left
                    · intro w hSw
                      try dsimp only at hSw
                      go_simp
                      all_goals with_reducible rfl
                    simp only [List.set_cons_zero, List.set_cons_succ]
                    refine wpAnyH_takeL (i := 6) (v := ?_) rfl rfl (by kernel_rfl) (by kernel_rfl) (by kernel_rfl) (fun _ _ _ h => h) (Or.inl ⟨by rfl, ?_⟩) (by assumption) ?_
                    rotate_left
                    · intro w hSw
                      try dsimp only at hSw
                      go_simp
                      all_goals with_reducible rfl
                    simp only [List.set_cons_zero, List.set_cons_succ]
                    refine wpAnyH_takeL (i := 7) (v := ?_) rfl rfl (by kernel_rfl) (by kernel_rfl) (by kernel_rfl) (fun _ _ _ h => h) (Or.inl ⟨by rfl, ?_⟩) (by assumption) ?_
                    rotate_left
                    · intro w hSw
                      try dsimp only at hSw
                      go_simp
                      all_goals with_reducible rfl
                    simp only [List.set_cons_zero, List.set_cons_succ]
                    refine wpAnyH_takeL (i := 8) (v := ?_) rfl rfl (by kernel_rfl) (by kernel_rfl) (by kernel_rfl) (fun _ _ _ h => h) (Or.inl ⟨by rfl, ?_⟩) (by assumption) ?_
                    rotate_left
                    · intro w hSw
                      try dsimp only at hSw
                      go_simp
                      all_goals with_reducible rfl
                    simp only [List.set_cons_zero, List.set_cons_succ]
                    refine wpAnyH_ready (rs := [9]) (by kernel_rfl) (by simp) ?_
                    refine AllReadyH.cons rfl (fun K hK => ?_) ?_
                    · go_simp
                      go_at_call 17
                      refine Calls.mono (alike_u _ _ _ _ _ _ _ _ _ _ _ _ _ _ _ _ _ _ _ (Rep.below Io_10.out (DF.out)) (Rep.below Ko_10.out (DF.out)) (Rep.below Is_10.out (DF.out)) (Rep.below Ks_10.out (DF.out))) ?_
                      rintro e xG ⟨rfl, bG⟩
                      have DG : Hid (Below w10.heap.size w10 xG) := on DF.out bG
                      clear bG
                      go_simp
                      refine hK.out _ _ ?_ (fun hHeld => ?_)
                      · try dsimp only
                        exact SK.out (DG.out)
                      clear hK K
                      refine wpAnyH_takeL (i := 10) (v := ?_) rfl rfl (by kernel_rfl) (by kernel_rfl) (by kernel_rfl) (fun _ _ _ h => h) (Or.inl ⟨by rfl, ?_⟩) (by assumption) ?_
                      rotate_left
                      · intro w hSw
                        try dsimp only at hSw
                        go_simp
                        all_goals with_reducible rfl
                      simp only [List.set_cons_zero, List.set_cons_succ]
                      refine wpAnyH_takeL (i := 11) (v := ?_) rfl rfl (by kernel_rfl) (by kernel_rfl) (by kernel_rfl) (fun _ _ _ h => h) (Or.inl ⟨by rfl, ?_⟩) (by assumption) ?_
                      rotate_left
                      · intro w hSw
                        try dsimp only at hSw
                        go_simp
                        all_goals with_reducible rfl
                      simp only [List.set_cons_zero, List.set_cons_succ]
                      refine wpAnyH_takeL (i := 12) (v := ?_) rfl rfl (by kernel_rfl) (by kernel_rfl) (by kernel_rfl) (fun _ _ _ h => h) (Or.inl ⟨by rfl, ?_⟩) (by assumption) ?_
                      rotate_left
                      · intro w hSw
                        try dsimp only at hSw
                        go_simp
                        all_goals with_reducible rfl
                      simp only [List.set_cons_zero, List.set_cons_succ]
                      refine wpAnyH_takeL (i := 13) (v := ?_) rfl rfl (by kernel_rfl) (by kernel_rfl) (by kernel_rfl) (fun _ _ _ h => h) (Or.inl ⟨by rfl, ?_⟩) (by assumption) ?_
                      rotate_left
                      · intro w hSw
                        try dsimp only at hSw
                        go_simp
                        all_goals with_reducible rfl
                      simp only [List.set_cons_zero, List.set_cons_succ]
                      refine wpAnyH_takeL (i := 14) (v := ?_) rfl rfl (by kernel_rfl) (by kernel_rfl) (by kernel_rfl) (fun _ _ _ h => h) (Or.inl ⟨by rfl, ?_⟩) (by assumption) ?_
                      rotate_left
                      · intro w hSw
                        try dsimp only at hSw
                        go_simp
                        all_goals with_reducible rfl
                      simp only [List.set_cons_zero, List.set_cons_succ]
                      refine wpAnyH_ready (rs := [15]) (by kernel_rfl) (by simp) ?_
                      refine AllReadyH.cons rfl (fun K hK => ?_) ?_
                      · go_simp
                        go_at_call 15
                        refine Calls.mono (sameBytes_any _ _ _ _ _ _ _ _ _ (Bi_10.out.below (DG.out)) (Bb_10.out.below (DG.out))) ?_
                        rintro e x9 ⟨rfl, rfl⟩
                        rw [beq_self_eq_true]
                        go_simp
                        refine hK.out _ _ ?_ (fun hHeld => ?_)
                        · try dsimp only
                          exact SK.out (DG.out)
                        clear hK K
                        refine wpAnyH_takeL (i := 16) (v := ?_) rfl rfl (by kernel_rfl) (by kernel_rfl) (by kernel_rfl) (fun _ _ _ h => h) (Or.inl ⟨by rfl, ?_⟩) (by assumption) ?_
                        rotate_left
                        · intro w hSw
                          try dsimp only at hSw
                          go_simp
                          all_goals with_reducible rfl
                        simp only [List.set_cons_zero, List.set_cons_succ]
                        refine wpAnyH_takeL (i := 17) (v := ?_) rfl rfl (by kernel_rfl) (by kernel_rfl) (by kernel_rfl) (fun _ _ _ h => h) (Or.inl ⟨by rfl, ?_⟩) (by assumption) ?_
                        rotate_left
                        · intro w hSw
                          try dsimp only at hSw
                          go_simp
                          all_goals with_reducible rfl
                        simp only [List.set_cons_zero, List.set_cons_succ]
                        refine wpAnyH_ready (rs := [18]) (by kernel_rfl) (by simp) ?_
                        refine AllReadyH.cons rfl (fun K hK => ?_) ?_
                        · go_simp
                          go_at_call 22
                          refine Calls.mono (alive7_u _) ?_
                          rintro e xH ⟨rfl, bH⟩
                          have DH : Hid (Below w10.heap.size w10 xH) := on DG.out bH
                          clear bH
                          go_simp
                          refine hK.out _ _ ?_ (fun hHeld => ?_)
                          · try dsimp only
                            exact SK.out (DH.out)
                          clear hK K
                          refine wpAnyH_takeL (i := 19) (v := ?_) rfl rfl (by kernel_rfl) (by kernel_rfl) (by kernel_rfl) (fun _ _ _ h => h) (Or.inl ⟨by rfl, ?_⟩) (by assumption) ?_
                          rotate_left
                          · intro w hSw
                            try dsimp only at hSw
                            go_simp
                            all_goals with_reducible rfl
                          simp only [List.set_cons_zero, List.set_cons_succ]
                          refine wpAnyH_takeL (i := 20) (v := ?_) rfl rfl (by kernel_rfl) (by kernel_rfl) (by kernel_rfl) (fun _ _ _ h => h) (Or.inl ⟨by rfl, ?_⟩) (by assumption) ?_
                          rotate_left
                          · intro w hSw
                            try dsimp only at hSw
                            go_simp
                            all_goals with_reducible rfl
                          simp only [List.set_cons_zero, List.set_cons_succ]
                          refine wpAnyH_done (by kernel_rfl) ?_ _
                          clear hHeld
                          go_wp2
                          go_ret
                          exact ⟨rfl, on B_10.out DH.out⟩
                        exact AllReadyH.nil
                      exact AllReadyH.nil
                    exact AllReadyH.nil
                  exact AllReadyH.nil
                exact AllReadyH.nil
              exact AllReadyH.nil
            exact AllReadyH.nil
          exact AllReadyH.nil
        exact AllReadyH.nil
      exact AllReadyH.nil
    exact AllReadyH.nil
  exact AllReadyH.nil

set_option maxRecDepth 100000 in
theorem ltells_lifted (os : Os) (started : os.Started) (H : Type) (enc : TypeId × Value → H) :
    ReturnsInHanded {} Try.checked os 3 .any (Rows.leafTellsSpec.pre6 enc Try.prog Try.f3 Rows.leafTellsRow.domain false) (Rows.leafTellsSpec.post enc Try.prog Try.f3 false true false false) := by
  refine returnsInHanded_of_change_sized (C := Try.checked) own started (by kernel_rfl) Try.func3
    (ChangeSpec.witness6 (enc := enc) (C := Try.checked) false ⟨#[], #[.agg #[.slice none 0 0, .slice none 0 0], .slice none 0 0, .int .u64 0], []⟩ 8 (by kernel_rfl) (by kernel_rfl) (by kernel_rfl) (by kernel_rfl)) ?_
  intro W base args ds gs before hval0 hW _ hsz0 _
  have hsz : (DataW.weightsEach Try.prog (Try.f3.params.toList ++ Rows.leafTellsSpec.plain.varTypes Try.prog) (ds ++ gs)).all (· ≤ reachBytes) = true := hsz0
  clear hsz0
  have hval : ∀ (j : Nat) t v, Try.f3.params[j]? = some t → args[j]? = some v → Value.okWide Try.prog W .any base t v := hval0
  have hW' := hW
  obtain ⟨p, q, hA0, hV, rfl, hfz, hnd⟩ := hW
  have hA : DataW.TrodAll enc Try.prog W 0 (fun _ => true) true Try.f3.params.toList args.toList ds p := hA0
  rw [Try.params3] at hA hval hsz
  obtain ⟨v0, vs0, d0, ds0, p0, q0, hargs, rfl, rfl, h0, r0⟩ := trodAll_cons hA
  obtain ⟨v1, vs1, d1, ds1, p1, q1, rfl, rfl, rfl, h1, r1⟩ := trodAll_cons r0
  obtain ⟨v2, vs2, d2, ds2, p2, q2, rfl, rfl, rfl, h2, r2⟩ := trodAll_cons r1
  obtain ⟨rfl, rfl, rfl⟩ := trodAll_nil r2
  obtain rfl : args = #[v0, v1, v2] := by cases args; simp_all
  obtain ⟨rfl, rfl⟩ := trodVars_none hV
  obtain ⟨c0, rfl, -⟩ := okWide_struct Try.underlying25 (hval 0 25 v0 rfl rfl)
  have k0 := h0
  have lt0 : ∀ x ∈ p0, x.block < W.heap.size := by obtain ⟨m, hm⟩ := k0; exact DataW.trod_lt m _ _ _ hm
  obtain ⟨x0, hx0⟩ := opens_node.arg h0 hsz (j := 0) rfl rfl
  obtain ⟨a1, len1, cap1, rfl⟩ := okWide_slice Try.underlying26 (hval 1 26 v1 rfl rfl)
  have k1 := h1
  have lt1 : ∀ x ∈ p1, x.block < W.heap.size := by obtain ⟨m, hm⟩ := k1; exact DataW.trod_lt m _ _ _ hm
  obtain ⟨x1, hx1⟩ := opens_octets.arg h1 hsz (j := 1) rfl rfl
  obtain ⟨a2, rfl, rfl, rfl, w2⟩ := open_int Try.underlying27 (hval 2 27 v2 rfl rfl) h2
  have i2 := bounds_u64 w2
  clear hA0 hval0
  refine (ltells_walk c0.toList x0 a1 len1 cap1 x1 a2 W hx0 hx1 (by omega) (by omega)).mono fun e W' ⟨he, bel⟩ => ?_
  subst he
  exact ⟨_, rfl, _, _, _, [], _, [], hW', trodAll_mk1 (shut_bool Try.underlying4 _), (trodAll_cons_mk (Below.trod laidOut (by kernel_rfl) (of_decide_eq_true (by kernel_rfl)) k0 bel lt0) (trodAll_cons_mk (Below.trod laidOut (by kernel_rfl) (of_decide_eq_true (by kernel_rfl)) k1 bel lt1) (trodAll_cons_mk (shut_int Try.underlying27 w2) trodAll_mk0))), rfl, bel.frame _, fun h => by cases h⟩

theorem leafTells_holds : Rows.LeafTellsSaid :=
  OpenClaim.holds_of_wide 3 Try.f3 rfl rfl rfl rfl rfl rfl rfl ⟨rfl, rfl, rfl, rfl, rfl⟩ rfl rfl rfl rfl rfl (by kernel_rfl) Try.func3 (by kernel_rfl)
    (of_decide_eq_true (by kernel_rfl)) (by unfold Func.isWrapper; first | (rw [if_pos (by decide +kernel)]; kernel_rfl) | (rw [if_neg (by decide +kernel)]; exact ⟨rfl, rfl⟩))
    (fun os started H enc _ => ltells_lifted os started H enc)

end Go.Proofs.Ytbglgplfjhiafaa
